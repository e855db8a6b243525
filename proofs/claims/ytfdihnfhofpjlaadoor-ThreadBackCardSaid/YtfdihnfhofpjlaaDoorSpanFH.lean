/- Contract: the library's merge in place, over a row of spans: where one side is a single element. -/
import Derived.Test.YtfdihnfhofpjlaaDoorSpanCE
namespace Go.Proofs.YtfdihnfhofpjlaaDoor
open Go.RowKit Go.Sort

end Go.Proofs.YtfdihnfhofpjlaaDoor

/- Contract: the library's merge in place (symMerge), over a row of spans. -/
namespace Go.Proofs.YtfdihnfhofpjlaaDoor
open Go.RowKit Go.Sort

section
variable {α : Type} [Inhabited α] {lt : α → α → Bool}
theorem Halves.leftNo {d e : Array α} {a mid b s en : Nat} (H : Halves lt d e a mid b s en) (h : s ≤ a ∨ mid ≤ s) : SortedIn lt a mid e := by
  have h1 := H.as
  have h2 := H.sm
  rcases h with h | h
  · obtain rfl : s = a := by omega
    exact H.s2
  · obtain rfl : s = mid := by omega
    exact H.s1
theorem Halves.left {d e : Array α} {a mid b s en : Nat} (H : Halves lt d e a mid b s en) (h1 : a < s) (h2 : s < mid) (hb : mid ≤ e.size) : Mrg lt e a s mid := ⟨h1, h2, hb, H.s1, H.s2⟩
theorem Halves.rightNo {d e f : Array α} {a mid b s en : Nat} (H : Halves lt d e a mid b s en) (hf : PermIn a mid e f) (h : en ≤ mid ∨ b ≤ en) : SortedIn lt mid b f := by
  have h1 := H.me
  have h2 := H.eb
  have hx : ∀ q, mid ≤ q → f[q]! = e[q]! := fun q hq => hf.2.1 q (.inr hq)
  rcases h with h | h
  · obtain rfl : en = mid := by omega
    exact sortedSame H.s4 fun q hq _ => hx q hq
  · obtain rfl : en = b := by omega
    exact sortedSame H.s3 fun q hq _ => hx q hq
theorem Halves.right {d e f : Array α} {a mid b s en : Nat} (H : Halves lt d e a mid b s en) (hf : PermIn a mid e f) (h1 : mid < en) (h2 : en < b) (hb : b ≤ e.size) : Mrg lt f mid en b := by
  have hx : ∀ q, mid ≤ q → f[q]! = e[q]! := fun q hq => hf.2.1 q (.inr hq)
  exact ⟨h1, h2, by rw [hf.1]; exact hb, sortedSame H.s3 fun q hq _ => hx q hq, sortedSame H.s4 fun q hq _ => hx q (by omega)⟩
theorem Halves.done {d e f k : Array α} {a mid b s en : Nat} (H : Halves lt d e a mid b s en) (hb : b ≤ d.size) (pf : PermIn a mid e f) (sf : SortedIn lt a mid f) (pk : PermIn mid b f k) (sk : SortedIn lt mid b k) : PermIn a b d k ∧ SortedIn lt a b k := by
  have h1 := H.as
  have h2 := H.sm
  have h3 := H.me
  have h4 := H.eb
  obtain ⟨p, s⟩ := join_halves (lt := lt) (by omega) (by omega) (by rw [H.perm.1]; exact hb) H.cross pf sf pk sk
  exact ⟨permTr H.perm p, s⟩
end

end Go.Proofs.YtfdihnfhofpjlaaDoor

/- Contract: the library's stable sort, over a row of spans. -/
namespace Go.Proofs.YtfdihnfhofpjlaaDoor
open Go.RowKit Go.Sort

theorem two_mul_run {s B a b : Nat} (ha : a = s * (2 * B)) (hb : b = a + 2 * B) : b = (s + 1) * (2 * B) := by rw [Nat.add_mul, Nat.one_mul, ← ha]; exact hb

end Go.Proofs.YtfdihnfhofpjlaaDoor
