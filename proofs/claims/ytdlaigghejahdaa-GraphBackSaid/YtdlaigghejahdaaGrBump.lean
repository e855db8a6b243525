/- A graph of the call's own, changed in its values and its raw words: what stays. No walk in it. -/
import Derived.Test.YtdlaigghejahdaaGrTurn
namespace Go.Proofs.Ytdlaigghejahdaa
open Go.RowKit Go.Lib
set_option maxRecDepth 100000
set_option linter.unusedSimpArgs false
set_option linter.unusedVariables false

/-- One raw word is another. -/
def setR (g : Gr) (i k y : Nat) : Gr := ⟨g.nd.modify i fun d => ⟨d.kd, d.fs, d.rs.set k y⟩, g.rt⟩
theorem u64s_set16 (l : List Nat) (k y : Nat) : (u64s l).set k (.int .u64 (y : Nat)) = u64s (l.set k y) := by
  unfold u64s
  rw [List.map_set]
theorem ndc_modify : ∀ (l : List Nd) (hs : List (Value × Value)) (i : Nat) (f : Nd → Nd), (∀ d, (f d).kd = d.kd) → ndc (l.modify i f) hs = ndc l hs := by
  intro l
  induction l with
  | nil => intro hs i f _; simp
  | cons a l ih =>
    intro hs i f hf
    cases i with
    | zero => cases hs <;> simp [ndc, hf]
    | succ i =>
      cases hs with
      | nil => simp [ndc]
      | cons b hs => simp [ndc, ih hs i f hf]
/-- A raw word is stored. -/
theorem OwG.putR {w : World} {base : Nat} {g : Gr} {vn vr : Value} {hs : List (Value × Value)} (h : OwG w base g vn vr hs) {i k : Nat} {d : Nd} {x : Value × Value} (hd : g.nd[i]? = some d) (hx : hs[i]? = some x) (hk : k < d.rs.length) {b n c : Nat} (e2 : x.2 = .slice (some ⟨b, 0, none⟩) n c) (y : Nat) :
    OwG (w.setCell ⟨b, k, none⟩ (.int .u64 (y : Nat))) base (setR g i k y) vn vr hs := by
  have hN := h.rows i d x hd hx
  have hb : x.2.ownBlock = some b := by rw [e2]; rfl
  have hS := hN.rs
  obtain ⟨b', c', e3, -⟩ := own_form hN.rs (by omega)
  rw [e2] at e3
  obtain ⟨rfl, rfl, rfl⟩ : b = b' ∧ n = d.rs.length ∧ c = c' := by simpa using e3
  rw [e2] at hS
  have hset := own_set16 hS k (by omega) (.int .u64 (y : Nat))
  rw [u64s_set16] at hset
  have ho := only_set w b k (.int .u64 (y : Nat))
  unfold setR
  refine ⟨by simpa using h.len, ?_, fun j d' h' hd' hh' => ?_, h.apart, own_only h.roots ho (fun k e1' e2' => ?_), h.far⟩
  · simp only [List.length_modify]
    rw [ndc_modify g.nd hs i (fun d => ⟨d.kd, d.fs, d.rs.set k y⟩) fun _ => rfl]
    exact own_only h.nodes ho fun k e1' e2' => by
      unfold isb at e2'
      subst e2'
      exact own_apart16 hN.rs h.nodes (by decide) _ hb e1'
  · by_cases hip : i = j
    · subst hip
      have hd' := mod_at16 hd' hd
      rw [if_pos rfl] at hd'
      rw [hx] at hh'
      obtain rfl := Option.some.inj hh'
      rw [hd']
      refine ⟨own_only hN.fs ho fun k e1' e2' => ?_, ?_⟩
      · unfold isb at e2'
        subst e2'
        exact own_apart16 hN.fs hN.rs (by decide) _ e1' hb
      · rw [e2]
        simp only [List.length_set]
        exact hset
    · obtain ⟨d2, hd2⟩ : ∃ d2, g.nd[j]? = some d2 := by
        exact ⟨_, List.getElem?_eq_getElem (by have := (List.getElem?_eq_some_iff.1 hd').1; simpa using this)⟩
      have hd' := mod_at16 hd' hd2
      rw [if_neg hip] at hd'
      obtain rfl := hd'
      have hM := h.rows j _ h' hd2 hh'
      refine hM.only ho (fun k e1' e2' => ?_) (fun k e1' e2' => ?_)
      · unfold isb at e2'
        subst e2'
        exact own_apart16 hM.fs hN.rs (by decide) _ e1' hb
      · unfold isb at e2'
        subst e2'
        rcases Nat.lt_or_ge i j with hlt | hge
        · exact h.apart.rs i j x h' hlt hx hh' _ hb e1'
        · exact h.apart.rs j i h' x (by omega) hh' hx _ e1' hb
  · unfold isb at e2'
    subst e2'
    exact own_apart16 h.roots hN.rs (by decide) _ e1' hb

/-- Two graphs of the same sizes. -/
structure SzG (a b : Gr) : Prop where
  len : b.nd.length = a.nd.length
  nd : ∀ (i : Nat) d e, a.nd[i]? = some d → b.nd[i]? = some e → e.fs.length = d.fs.length ∧ e.rs.length = d.rs.length
theorem SzG.refl (a : Gr) : SzG a a := ⟨rfl, fun i d e h1 h2 => by rw [h1] at h2; obtain rfl := Option.some.inj h2; exact ⟨rfl, rfl⟩⟩
theorem SzG.trans {a b c : Gr} (h : SzG a b) (k : SzG b c) : SzG a c := ⟨k.len.trans h.len, fun i d e h1 h2 => by
  obtain ⟨x, hx⟩ : ∃ x, b.nd[i]? = some x := ⟨_, List.getElem?_eq_getElem (by rw [h.len]; exact (List.getElem?_eq_some_iff.1 h1).1)⟩
  obtain ⟨p1, p2⟩ := h.nd i d x h1 hx
  obtain ⟨q1, q2⟩ := k.nd i x e hx h2
  exact ⟨q1.trans p1, q2.trans p2⟩⟩
theorem setG_sz (g : Gr) (p : Nat × Nat) (v : Sp) : SzG g (setG g p v) := ⟨(setG_sh g p v).len, fun i d e h1 h2 => by
  obtain ⟨-, a, b⟩ := (setG_sh g p v).nd i d e h1 h2
  exact ⟨b, by rw [a]⟩⟩
theorem setR_sz (g : Gr) (i k y : Nat) : SzG g (setR g i k y) := by
  unfold setR
  refine ⟨by simp, fun j d e h1 h2 => ?_⟩
  rw [mod_at16 h2 h1]
  split <;> simp
/-- The rows' blocks of a graph's nodes. -/
def FB (hs : List (Value × Value)) (k : Nat) : Prop := ∃ (i : Nat) (h : Value × Value), hs[i]? = some h ∧ (h.1.ownBlock = some k ∨ h.2.ownBlock = some k)
/-- In the world at hand lies a graph of the sizes of g, of the same headers; all else is as it was. -/
def Ch (w0 : World) (base : Nat) (g : Gr) (vn vr : Value) (hs : List (Value × Value)) (W : World) : Prop := ∃ c, OwG W base c vn vr hs ∧ SzG g c ∧ Only (FB hs) w0 W
section
variable {w0 W : World} {base : Nat} {g : Gr} {vn vr : Value} {hs : List (Value × Value)}
theorem Ch.refl (h : OwG W base g vn vr hs) : Ch W base g vn vr hs W := ⟨g, h, SzG.refl g, Only.refl _ _⟩
theorem Ch.drewN (H : Ch w0 base g vn vr hs W) (m : Nat) : Ch w0 base g vn vr hs (W.drewN m) := by
  obtain ⟨c, h1, h2, h3⟩ := H
  exact ⟨c, h1.nob ((Only.refl nob W).drewN m), h2, h3.drewN m⟩
theorem Ch.at_ (H : Ch w0 base g vn vr hs W) {i : Nat} {d : Nd} (hd : g.nd[i]? = some d) : ∃ c e x, OwG W base c vn vr hs ∧ SzG g c ∧ Only (FB hs) w0 W ∧ c.nd[i]? = some e ∧ hs[i]? = some x ∧ e.fs.length = d.fs.length ∧ e.rs.length = d.rs.length := by
  obtain ⟨c, h1, h2, h3⟩ := H
  have hi := (List.getElem?_eq_some_iff.1 hd).1
  obtain ⟨e, he⟩ : ∃ e, c.nd[i]? = some e := ⟨_, List.getElem?_eq_getElem (by rw [h2.len]; exact hi)⟩
  obtain ⟨x, hx⟩ : ∃ x, hs[i]? = some x := ⟨_, List.getElem?_eq_getElem (by rw [h1.len, h2.len]; exact hi)⟩
  exact ⟨c, e, x, h1, h2, h3, he, hx, h2.nd i d e hd he⟩
/-- A node's headers. -/
theorem Ch.node {An : Option Addr} {cn : Nat} (H : Ch w0 base g (.slice An g.nd.length cn) vr hs W) {i : Nat} {d : Nd} (hd : g.nd[i]? = some d) {x : Value × Value} (hx : hs[i]? = some x) :
    (∃ bb oo, An = some ⟨bb, oo, none⟩ ∧ W.cell? ⟨bb, oo + i * 3 + 1, none⟩ = some x.1 ∧ W.cell? ⟨bb, oo + i * 3 + 2, none⟩ = some x.2) ∧ (∃ A c, x.1 = .slice A d.fs.length c) ∧ ∃ A c, x.2 = .slice A d.rs.length c := by
  obtain ⟨c, e, x', h1, h2, h3, he, hx', l1, l2⟩ := H.at_ hd
  obtain rfl : x = x' := by rw [hx] at hx'; exact Option.some.inj hx'
  have hr := h1.rd
  rw [← h2.len] at hr
  obtain ⟨bb, oo, fv, rv, hA, -, hh, -, e1, e2, hnd⟩ := hr.at_ (Below.refl _ _) he
  obtain rfl : x = (fv, rv) := by rw [hx] at hh; exact Option.some.inj hh
  obtain ⟨A1, c1, f1, -⟩ := hnd.fields.form
  obtain ⟨A2, c2, f2, -⟩ := hnd.raws.form
  exact ⟨⟨bb, oo, (by simpa using hA), e1, e2⟩, ⟨A1, c1, by rw [← l1]; exact f1⟩, ⟨A2, c2, by rw [← l2]; exact f2⟩⟩
theorem Ch.hdrs {bb oo cn : Nat} (H : Ch w0 base g (.slice (some ⟨bb, oo, none⟩) g.nd.length cn) vr hs W) {i : Nat} {d : Nd} (hd : g.nd[i]? = some d) {fv rv : Value} (hx : hs[i]? = some (fv, rv)) :
    W.cell? ⟨bb, oo + i * 3 + 1, none⟩ = some fv ∧ W.cell? ⟨bb, oo + i * 3 + 2, none⟩ = some rv := by
  obtain ⟨⟨b2, o2, hA, e1, e2⟩, -⟩ := H.node hd hx
  obtain ⟨rfl, rfl⟩ : bb = b2 ∧ oo = o2 := by simpa using hA
  exact ⟨e1, e2⟩
/-- A field's X is another. -/
theorem Ch.field (H : Ch w0 base g vn vr hs W) {i k : Nat} {d : Nd} (hd : g.nd[i]? = some d) {A : Option Addr} {cf : Nat} {rv : Value} (hx : hs[i]? = some (.slice A d.fs.length cf, rv)) (hk : k < d.fs.length) :
    ∃ b oo z, A = some ⟨b, oo, none⟩ ∧ W.cell? ⟨b, oo + k * 2 + 1, none⟩ = some (.int .i64 z) ∧ W.frozen? ⟨b, oo + k * 2 + 1, none⟩ = false ∧ ∀ y : Int, Ch w0 base g vn vr hs (W.setCell ⟨b, oo + k * 2 + 1, none⟩ (.int .i64 y)) := by
  obtain ⟨c, e, x, h1, h2, h3, he, hx', l1, l2⟩ := H.at_ hd
  obtain rfl : (Value.slice A d.fs.length cf, rv) = x := by rw [hx] at hx'; exact Option.some.inj hx'
  have hN := h1.rows i e _ he hx
  have hR := hN.rd
  obtain ⟨z, hz⟩ : ∃ z, e.fs[k]? = some z := ⟨_, List.getElem?_eq_getElem (by omega)⟩
  have hF := hR.fields
  simp only at hF
  rw [← l1] at hF
  obtain ⟨b, oo, rfl, -, -, c1⟩ := sl_span hF (Below.refl _ _) hz
  have hlst : (lsts c).getD i [] = e.fs := lsts_at he
  have had : adr (hdr hs vr (i, k).1) (i, k).2 = some ⟨b, oo + k * 2, none⟩ := by
    show adr (hdr hs vr i) k = _
    rw [hdr_at hx]; rfl
  have hp : (i, k).2 < ((lsts c).getD (i, k).1 []).length := by
    show k < ((lsts c).getD i []).length
    rw [hlst]; omega
  refine ⟨b, oo, z.2, rfl, c1, ?_, fun y => ?_⟩
  · obtain ⟨-, -, ⟨cs, hb, -⟩, -⟩ := h1.put (i, k) hp had 0
    exact Blk.free hb _
  · obtain ⟨q1, -⟩ := h1.put (i, k) hp had y
    refine ⟨_, q1, h2.trans (setG_sz _ _ _), h3.trans ?_⟩
    exact (only_set W b (oo + k * 2 + 1) (.int .i64 y)).mono fun j _ hj => by
      unfold isb at hj
      subst hj
      exact ⟨i, _, hx, .inl rfl⟩
/-- A raw word is another. -/
theorem Ch.raw (H : Ch w0 base g vn vr hs W) {i k : Nat} {d : Nd} (hd : g.nd[i]? = some d) {A : Option Addr} {cr : Nat} {fv : Value} (hx : hs[i]? = some (fv, .slice A d.rs.length cr)) (hk : k < d.rs.length) :
    ∃ b oo z, A = some ⟨b, oo, none⟩ ∧ W.cell? ⟨b, oo + k, none⟩ = some (.int .u64 (z : Nat)) ∧ W.frozen? ⟨b, oo + k, none⟩ = false ∧ ∀ y : Int, 0 ≤ y → Ch w0 base g vn vr hs (W.setCell ⟨b, oo + k, none⟩ (.int .u64 y)) := by
  obtain ⟨c, e, x, h1, h2, h3, he, hx', l1, l2⟩ := H.at_ hd
  obtain rfl : (fv, Value.slice A d.rs.length cr) = x := by rw [hx] at hx'; exact Option.some.inj hx'
  have hN := h1.rows i e _ he hx
  have hR := hN.rd
  obtain ⟨z, hz⟩ : ∃ z, e.rs[k]? = some z := ⟨_, List.getElem?_eq_getElem (by omega)⟩
  have hF := hR.raws
  simp only at hF
  rw [← l2] at hF
  obtain ⟨b, oo, rfl, -, c1⟩ := sl_word16 hF (Below.refl _ _) hz
  obtain ⟨b', c', e3, -⟩ := own_form hN.rs (by omega)
  simp only at e3
  obtain ⟨⟨rfl, rfl⟩, -⟩ : (b = b' ∧ oo = 0) ∧ True := by simp at e3; exact ⟨e3.1, trivial⟩
  refine ⟨b, 0, z, rfl, c1, ?_, fun y0 hy0 => ?_⟩
  · obtain ⟨cs, hb⟩ := own_blk16 hN.rs (k := b) rfl
    exact Blk.free hb _
  · obtain ⟨y, rfl⟩ := Int.eq_ofNat_of_zero_le hy0
    have q1 := h1.putR he hx (k := k) (by omega) rfl y
    rw [Nat.zero_add]
    refine ⟨_, q1, h2.trans (setR_sz _ _ _ _), h3.trans ?_⟩
    exact (only_set W b k (.int .u64 (y : Nat))).mono fun j _ hj => by
      unfold isb at hj
      subst hj
      exact ⟨i, _, hx, .inr rfl⟩
/-- What lies in a block of another type reads as before. -/
theorem Ch.cells (H : Ch w0 base g vn vr hs W) (h0 : OwG w0 base g vn vr hs) {b : Nat} {t : TypeId} {cs : Array Value} (hb : Blk w0 b t cs) (h2 : t ≠ 46) (h3 : t ≠ 47) : Blk W b t cs := by
  obtain ⟨c, _, _, o⟩ := H
  refine hb.keep o ?_
  rintro ⟨i, x, hx, e⟩
  obtain ⟨d, hd⟩ : ∃ d, g.nd[i]? = some d := ⟨_, List.getElem?_eq_getElem (by rw [← h0.len]; exact (List.getElem?_eq_some_iff.1 hx).1)⟩
  rcases e with e | e
  · exact blk_own_ne16 hb (h0.rows i d x hd hx).fs h2 e
  · exact blk_own_ne16 hb (h0.rows i d x hd hx).rs h3 e
theorem Ch.below (H : Ch w0 base g vn vr hs W) (h0 : OwG w0 base g vn vr hs) (hb : base ≤ w0.heap.size) : Only (fun k => base ≤ k) w0 W := by
  obtain ⟨c, _, _, o⟩ := H
  exact o.mono fun k _ hk => by
    obtain ⟨i, x, hx, e⟩ := hk
    obtain ⟨d, hd⟩ : ∃ d, g.nd[i]? = some d := ⟨_, List.getElem?_eq_getElem (by rw [← h0.len]; exact (List.getElem?_eq_some_iff.1 hx).1)⟩
    rcases e with e | e
    · exact (own_lt (h0.rows i d x hd hx).fs e).1
    · exact (own_lt (h0.rows i d x hd hx).rs e).1
end
end Go.Proofs.Ytdlaigghejahdaa
