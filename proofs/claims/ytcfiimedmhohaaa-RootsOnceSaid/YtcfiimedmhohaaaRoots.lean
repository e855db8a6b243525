/- Package roots: all that the statements of layer 14 ask of it. -/
import Derived.Test.YtcfiimedmhohaaaRootLaw4
import Derived.Test.YtcfiimedmhohaaaRootProg
namespace Go.Proofs.Ytcfiimedmhohaaa
open Go.RowKit

theorem rootsC_any : RootsC where
  new := new_any14
  put := fun v l x B w hv hB hl hok _ => (put_any14 v l x B w hv hB hl hok).mono fun _ _ ⟨v', h1, h2, h3, _⟩ => ⟨v', h1, h2, h3⟩
  get := get_any14
  set := set_any14
  drop := fun v l h B w hv hB hl _ => (drop_any14 v l h B w hv hB hl).mono fun _ _ ⟨v', h1, h2, h3, _⟩ => ⟨v', h1, h2, h3⟩
  used := used_any14
  right := right_any14
  handles := handles_any14
theorem rootsF_any : RootsF where
  base := rootsC_any
  putF := fun v l x B w hv hB hl hok _ => (put_any14 v l x B w hv hB hl hok).mono fun _ _ ⟨v', h1, h2, h3, h4⟩ => ⟨v', h1, h2, h3, fun b o n c e => .inl (h4 b o n c e)⟩
  dropF := fun v l h B w hv hB hl _ => (drop_any14 v l h B w hv hB hl).mono fun _ _ ⟨v', h1, h2, h3, h4⟩ => ⟨v', h1, h2, h3, fun b o n c e => .inl (h4 b o n c e)⟩
end Go.Proofs.Ytcfiimedmhohaaa
