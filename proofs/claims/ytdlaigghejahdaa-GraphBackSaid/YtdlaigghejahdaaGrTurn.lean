/- Values of a graph of the call's own, turned one by one. -/
import Derived.Test.YtdlaigghejahdaaGrPick
import Derived.Test.YtdlaigghejahdaaGrRt
namespace Go.Proofs.Ytdlaigghejahdaa
open Go.RowKit Go.Lib
set_option maxRecDepth 100000
set_option linter.unusedSimpArgs false
set_option linter.unusedVariables false

/-- One value is another. -/
def setG (g : Gr) (p : Nat × Nat) (v : Sp) : Gr :=
  if p.1 < g.nd.length then ⟨g.nd.modify p.1 fun d => ⟨d.kd, d.fs.set p.2 v, d.rs⟩, g.rt⟩ else ⟨g.nd, g.rt.set p.2 v⟩
/-- Two graphs that differ in values alone. -/
structure ShG (a b : Gr) : Prop where
  len : b.nd.length = a.nd.length
  nd : ∀ (i : Nat) d e, a.nd[i]? = some d → b.nd[i]? = some e → e.kd = d.kd ∧ e.rs = d.rs ∧ e.fs.length = d.fs.length
  rt : b.rt.length = a.rt.length
theorem ShG.refl (a : Gr) : ShG a a := ⟨rfl, fun i d e h1 h2 => by rw [h1] at h2; obtain rfl := Option.some.inj h2; exact ⟨rfl, rfl, rfl⟩, rfl⟩
theorem ShG.trans {a b c : Gr} (h : ShG a b) (k : ShG b c) : ShG a c := ⟨k.len.trans h.len, fun i d e h1 h2 => by
  obtain ⟨x, hx⟩ : ∃ x, b.nd[i]? = some x := ⟨_, List.getElem?_eq_getElem (by rw [h.len]; exact (List.getElem?_eq_some_iff.1 h1).1)⟩
  obtain ⟨p1, p2, p3⟩ := h.nd i d x h1 hx
  obtain ⟨q1, q2, q3⟩ := k.nd i x e hx h2
  exact ⟨q1.trans p1, q2.trans p2, q3.trans p3⟩, k.rt.trans h.rt⟩
theorem lsts_lt {g : Gr} {i : Nat} (h : i < g.nd.length) : ∃ d, g.nd[i]? = some d ∧ (lsts g).getD i [] = d.fs := by
  obtain ⟨d, hd⟩ : ∃ x, g.nd[i]? = some x := ⟨_, List.getElem?_eq_getElem h⟩
  exact ⟨d, hd, lsts_at hd⟩
theorem lsts_gt {g : Gr} {i : Nat} (h : g.nd.length < i) : (lsts g).getD i [] = [] := by
  rw [List.getD_eq_getElem?_getD, List.getElem?_eq_none (by rw [lsts_len]; omega)]
  rfl
theorem ShG.lens {a b : Gr} (h : ShG a b) (i : Nat) : ((lsts b).getD i []).length = ((lsts a).getD i []).length := by
  rcases Nat.lt_trichotomy i a.nd.length with hi | hi | hi
  · obtain ⟨d, hd, e1⟩ := lsts_lt hi
    obtain ⟨e, he, e2⟩ := lsts_lt (g := b) (i := i) (by rw [h.len]; exact hi)
    rw [e1, e2]
    exact (h.nd i d e hd he).2.2
  · subst hi
    have := lsts_root b
    rw [h.len] at this
    rw [this, lsts_root]
    exact h.rt
  · rw [lsts_gt hi, lsts_gt (by rw [h.len]; exact hi)]
theorem mod_at16 {l : List Nd} {i j : Nat} {f : Nd → Nd} {e d : Nd} (h : (l.modify i f)[j]? = some d) (he : l[j]? = some e) : d = if i = j then f e else e := by
  rw [List.getElem?_modify, he] at h
  exact (Option.some.inj h).symm
theorem setG_sh (g : Gr) (p : Nat × Nat) (v : Sp) : ShG g (setG g p v) := by
  unfold setG
  split
  · refine ⟨by simp, fun i d e h1 h2 => ?_, rfl⟩
    rw [mod_at16 h2 h1]
    split <;> simp
  · exact ⟨rfl, fun i d e h1 h2 => by rw [h1] at h2; obtain rfl := Option.some.inj h2; exact ⟨rfl, rfl, rfl⟩, by simp⟩
theorem setG_lsts (g : Gr) (p : Nat × Nat) (v : Sp) (hp : p.1 ≤ g.nd.length) (i : Nat) : (lsts (setG g p v)).getD i [] = if i = p.1 then ((lsts g).getD i []).set p.2 v else (lsts g).getD i [] := by
  have hlen := (setG_sh g p v).len
  rcases Nat.lt_trichotomy i g.nd.length with hi | hi | hi
  · obtain ⟨d, hd, e1⟩ := lsts_lt hi
    obtain ⟨e, he, e2⟩ := lsts_lt (g := setG g p v) (i := i) (by rw [hlen]; exact hi)
    rw [e1, e2]
    unfold setG at he
    split at he
    · rw [mod_at16 he hd]
      by_cases h : p.1 = i
      · rw [if_pos h, if_pos h.symm]
      · rw [if_neg h, if_neg (fun e => h e.symm)]
    · rw [hd] at he
      obtain rfl := Option.some.inj he
      rw [if_neg (by omega)]
  · subst hi
    have h1 := lsts_root (setG g p v)
    rw [hlen] at h1
    rw [h1, lsts_root]
    unfold setG
    split
    · rw [if_neg (by omega)]
    · rw [if_pos (by omega)]
  · rw [lsts_gt hi, lsts_gt (by rw [hlen]; exact hi)]
    split <;> simp
theorem setG_plc (g : Gr) (p : Nat × Nat) (v : Sp) (hp : p.1 ≤ g.nd.length) (hp2 : p.2 < ((lsts g).getD p.1 []).length) (q : Nat × Nat) : plcV (setG g p v) q = if q = p then v else plcV g q := by
  unfold plcV
  rw [setG_lsts g p v hp]
  by_cases h1 : q.1 = p.1
  · rw [if_pos h1]
    by_cases h2 : q.2 = p.2
    · rw [if_pos (Prod.ext h1 h2), h1, h2, List.getD_eq_getElem?_getD, List.getElem?_set_self hp2]
      rfl
    · rw [if_neg (fun e => h2 (by rw [e])), List.getD_eq_getElem?_getD, List.getElem?_set_ne (fun e => h2 e.symm), ← List.getD_eq_getElem?_getD]
  · rw [if_neg h1, if_neg (fun e => h1 (by rw [e]))]
/-- Two graphs of one shape that have the same values are one. -/
theorem ShG.eq {a b : Gr} (h : ShG a b) (hv : ∀ p : Nat × Nat, p.2 < ((lsts a).getD p.1 []).length → plcV b p = plcV a p) : b = a := by
  have hl : ∀ i, (lsts b).getD i [] = (lsts a).getD i [] := by
    intro i
    refine List.ext_getElem? fun k => ?_
    rcases Nat.lt_or_ge k ((lsts a).getD i []).length with hk | hk
    · have := hv (i, k) hk
      unfold plcV at this
      simp only at this
      rw [List.getD_eq_getElem?_getD, List.getD_eq_getElem?_getD (l := (lsts a).getD i [])] at this
      rw [List.getElem?_eq_getElem hk] at this ⊢
      rw [List.getElem?_eq_getElem (by rw [h.lens]; exact hk)] at this ⊢
      simpa using this
    · rw [List.getElem?_eq_none hk, List.getElem?_eq_none (by rw [h.lens]; exact hk)]
  have h1 : b.nd = a.nd := by
    refine List.ext_getElem? fun i => ?_
    rcases Nat.lt_or_ge i a.nd.length with hi | hi
    · obtain ⟨d, hd, e1⟩ := lsts_lt hi
      obtain ⟨e, he, e2⟩ := lsts_lt (g := b) (i := i) (by rw [h.len]; exact hi)
      have e3 := hl i
      rw [e1, e2] at e3
      obtain ⟨q1, q2, -⟩ := h.nd i d e hd he
      rw [hd, he]
      cases d; cases e
      simp only at q1 q2 e3
      rw [q1, q2, e3]
    · rw [List.getElem?_eq_none hi, List.getElem?_eq_none (by rw [h.len]; exact hi)]
  have h2 : b.rt = a.rt := by
    have := hl a.nd.length
    rw [lsts_root] at this
    have h3 := lsts_root b
    rw [h.len] at h3
    rw [← h3, this]
  cases a; cases b
  simp only at h1 h2
  rw [h1, h2]

/-! ### In memory -/
/-- The blocks of values of a graph of the call's own. -/
def VG (hs : List (Value × Value)) (vr : Value) (k : Nat) : Prop := (∃ (i : Nat) (h : Value × Value), hs[i]? = some h ∧ h.1.ownBlock = some k) ∨ vr.ownBlock = some k
theorem spc_set_snd : ∀ (l : List Sp) (k : Nat) (y : Int), k < l.length → (spc l).set (k * 2 + 1) (.int .i64 y) = spc (l.set k ((l.getD k (0, 0)).1, y))
  | [], k, y, h => by simp at h
  | x :: l, 0, y, h => by simp [spc]
  | x :: l, k + 1, y, h => by
    have ih := spc_set_snd l k y (by simpa using h)
    have e : spc (x :: l) = .int .i64 x.1 :: .int .i64 x.2 :: spc l := by simp [spc]
    rw [e, show (k + 1) * 2 + 1 = (k * 2 + 1) + 1 + 1 by omega, List.set_cons_succ, List.set_cons_succ, ih, List.set_cons_succ]
    simp [spc]
/-- The store through a pointer to a value. -/
theorem OwG.put {w : World} {base : Nat} {g : Gr} {vn vr : Value} {hs : List (Value × Value)} (h : OwG w base g vn vr hs) (p : Nat × Nat) (hp : p.2 < ((lsts g).getD p.1 []).length) {bb oo : Nat} (had : adr (hdr hs vr p.1) p.2 = some ⟨bb, oo, none⟩) (y : Int) :
    OwG (w.setCell ⟨bb, oo + 1, none⟩ (.int .i64 y)) base (setG g p ((plcV g p).1, y)) vn vr hs ∧ VG hs vr bb ∧ (∃ cs, Blk w bb 46 cs ∧ oo + 1 < cs.size) ∧ base ≤ bb := by
  rcases Nat.lt_or_ge p.1 g.nd.length with hi | hi
  · obtain ⟨d, hd, e1⟩ := lsts_lt hi
    obtain ⟨x, hx⟩ : ∃ x, hs[p.1]? = some x := ⟨_, List.getElem?_eq_getElem (by rw [h.len]; exact hi)⟩
    rw [e1] at hp
    rw [hdr_at hx] at had
    have hN := h.rows p.1 d x hd hx
    obtain ⟨b, c, e2, -⟩ := own_form hN.fs (by omega)
    have hb : x.1.ownBlock = some b := by rw [e2]; rfl
    rw [e2] at had
    obtain ⟨rfl, rfl⟩ : b = bb ∧ 0 + p.2 * 2 = oo := by
      unfold adr at had
      simpa using had
    rw [Nat.zero_add]
    have hS := hN.fs
    rw [e2] at hS
    have hset := own_set16 hS (p.2 * 2 + 1) (by omega) (.int .i64 y)
    rw [spc_set_snd _ _ _ hp] at hset
    have hpv : (plcV g p).1 = (d.fs.getD p.2 (0, 0)).1 := by unfold plcV; rw [e1]
    have ho := only_set w b (p.2 * 2 + 1) (.int .i64 y)
    have hsg : setG g p ((plcV g p).1, y) = ⟨g.nd.modify p.1 fun d => ⟨d.kd, d.fs.set p.2 ((plcV g p).1, y), d.rs⟩, g.rt⟩ := by unfold setG; rw [if_pos hi]
    rw [hsg]
    refine ⟨⟨by simpa using h.len, ?_, fun i d' h' hd' hh' => ?_, h.apart, own_only h.roots ho (fun k e1' e2' => ?_), h.far⟩, .inl ⟨p.1, x, hx, hb⟩, ?_, ?_⟩
    · simp only [List.length_modify]
      have hnd : ndc (g.nd.modify p.1 fun d => ⟨d.kd, d.fs.set p.2 ((plcV g p).1, y), d.rs⟩) hs = ndc g.nd hs := by
        have key : ∀ (l : List Nd) (hs : List (Value × Value)) (i : Nat) (f : Nd → Nd), (∀ d, (f d).kd = d.kd) → ndc (l.modify i f) hs = ndc l hs := by
          intro l
          induction l with
          | nil => intro hs i f _; simp
          | cons a l ih =>
            intro hs i f hf
            cases i with
            | zero => cases hs <;> simp [ndc, hf]
            | succ i =>
              cases hs with
              | nil => simp [ndc]
              | cons b hs => simp [ndc, ih hs i f hf]
        exact key _ _ _ _ fun _ => rfl
      rw [hnd]
      exact own_only h.nodes ho fun k e1' e2' => by
        unfold isb at e2'
        subst e2'
        exact own_apart16 hN.fs h.nodes (by decide) _ hb e1'
    · by_cases hip : p.1 = i
      · subst hip
        have hd' := mod_at16 hd' hd
        rw [if_pos rfl] at hd'
        rw [hx] at hh'
        obtain rfl := Option.some.inj hh'
        rw [hd']
        refine ⟨?_, own_only hN.rs ho fun k e1' e2' => ?_⟩
        · rw [e2]
          simp only [List.length_set]
          rw [hpv]
          exact hset
        · unfold isb at e2'
          subst e2'
          exact own_apart16 hN.fs hN.rs (by decide) _ hb e1'
      · obtain ⟨d2, hd2⟩ : ∃ d2, g.nd[i]? = some d2 := by
          exact ⟨_, List.getElem?_eq_getElem (by have := (List.getElem?_eq_some_iff.1 hd').1; simpa using this)⟩
        have hd' := mod_at16 hd' hd2
        rw [if_neg hip] at hd'
        obtain rfl := hd'
        have hM := h.rows i _ h' hd2 hh'
        refine hM.only ho (fun k e1' e2' => ?_) (fun k e1' e2' => ?_)
        · unfold isb at e2'
          subst e2'
          rcases Nat.lt_or_ge p.1 i with hlt | hge
          · exact h.apart.fs p.1 i x h' hlt hx hh' _ hb e1'
          · exact h.apart.fs i p.1 h' x (by omega) hh' hx _ e1' hb
        · unfold isb at e2'
          subst e2'
          exact own_apart16 hN.fs hM.rs (by decide) _ hb e1'
    · unfold isb at e2'
      subst e2'
      exact h.far p.1 x hx _ hb e1'
    · rcases hS.2 with ⟨e, -⟩ | ⟨g2, cap, cur, e, _, hg, h3, h4, h5, _⟩
      · cases e
      · obtain ⟨rfl, rfl⟩ : b = g2 ∧ c = cap := by simpa using e
        exact ⟨cur, hg, by omega⟩
    · exact (own_lt hN.fs hb).1
  · have hi2 : p.1 = g.nd.length := by
      rcases Nat.lt_or_ge g.nd.length p.1 with h' | h'
      · rw [lsts_gt h'] at hp; simp at hp
      · omega
    have hp' := hp
    rw [hi2, lsts_root] at hp
    rw [hi2, ← h.len, hdr_root] at had
    obtain ⟨b, c, rfl, -⟩ := own_form h.roots (by omega)
    obtain ⟨rfl, rfl⟩ : b = bb ∧ 0 + p.2 * 2 = oo := by
      unfold adr at had
      simpa using had
    rw [Nat.zero_add]
    have hset := own_set16 h.roots (p.2 * 2 + 1) (by omega) (.int .i64 y)
    rw [spc_set_snd _ _ _ hp] at hset
    have hpv : (plcV g p).1 = (g.rt.getD p.2 (0, 0)).1 := by unfold plcV; rw [hi2, lsts_root]
    have ho := only_set w b (p.2 * 2 + 1) (.int .i64 y)
    have hsg : setG g p ((plcV g p).1, y) = ⟨g.nd, g.rt.set p.2 ((plcV g p).1, y)⟩ := by unfold setG; rw [if_neg (by omega)]
    rw [hsg]
    refine ⟨⟨h.len, own_only h.nodes ho fun k e1' e2' => ?_, fun i d' h' hd' hh' => ?_, h.apart, ?_, h.far⟩, .inr rfl, ?_, ?_⟩
    · unfold isb at e2'
      subst e2'
      exact own_apart16 h.roots h.nodes (by decide) _ rfl e1'
    · have hM := h.rows i d' h' hd' hh'
      refine hM.only ho (fun k e1' e2' => ?_) (fun k e1' e2' => ?_)
      · unfold isb at e2'
        subst e2'
        exact h.far i h' hh' _ e1' rfl
      · unfold isb at e2'
        subst e2'
        exact own_apart16 h.roots hM.rs (by decide) _ rfl e1'
    · simp only [List.length_set]
      rw [hpv]
      exact hset
    · rcases h.roots.2 with ⟨e, -⟩ | ⟨g2, cap, cur, e, _, hg, h3, h4, h5, _⟩
      · cases e
      · obtain ⟨rfl, rfl⟩ : b = g2 ∧ c = cap := by simpa using e
        exact ⟨cur, hg, by omega⟩
    · exact (own_lt h.roots rfl).1
theorem own_blk16 {w : World} {base : Nat} {E : TypeId} {size n k : Nat} {v : Value} {xs : List Value} (h : w.ownsRow base E size v n xs) (e : v.ownBlock = some k) : ∃ cs, Blk w k E cs := by
  rcases h.2 with ⟨rfl, -⟩ | ⟨g, cap, cur, rfl, _, hg, -⟩
  · cases e
  · obtain rfl : g = k := Option.some.inj e
    exact ⟨cur, hg⟩
theorem OwG.vals {w : World} {base : Nat} {g : Gr} {vn vr : Value} {hs : List (Value × Value)} (h : OwG w base g vn vr hs) {k : Nat} (e : VG hs vr k) : ∃ cs, Blk w k 46 cs := by
  rcases e with ⟨i, x, hx, e⟩ | e
  · obtain ⟨d, hd⟩ : ∃ d, g.nd[i]? = some d := ⟨_, List.getElem?_eq_getElem (by rw [← h.len]; exact (List.getElem?_eq_some_iff.1 hx).1)⟩
    exact own_blk16 (h.rows i d x hd hx).fs e
  · exact own_blk16 h.roots e
/-- What is not cells turns. -/
theorem own_kept16 {w w' : World} {base : Nat} {E : TypeId} {size n : Nat} {v : Value} {xs : List Value} {row : Option Nat} (h : w.ownsRow base E size v n xs) (hg : w.grownBy w' row) (hr : ∀ r, row = some r → ∃ o : Obj, w.heap[r]? = some o ∧ o.isCells = false) : w'.ownsRow base E size v n xs := by
  refine ⟨h.1, ?_⟩
  rcases h.2 with h0 | ⟨g, cap, cur, rfl, hb, hg2, rest⟩
  · exact .inl h0
  · exact .inr ⟨g, cap, cur, rfl, hb, blk_kept16 (t := E) hg2 hg hr, rest⟩
theorem OwG.kept {w w' : World} {base : Nat} {g : Gr} {vn vr : Value} {hs : List (Value × Value)} {row : Option Nat} (h : OwG w base g vn vr hs) (hg : w.grownBy w' row) (hr : ∀ r, row = some r → ∃ o : Obj, w.heap[r]? = some o ∧ o.isCells = false) : OwG w' base g vn vr hs :=
  ⟨h.len, own_kept16 h.nodes hg hr, fun i d x hd hx => ⟨own_kept16 (h.rows i d x hd hx).fs hg hr, own_kept16 (h.rows i d x hd hx).rs hg hr⟩, h.apart, own_kept16 h.roots hg hr, h.far⟩
/-- A write into another block. -/
theorem OwG.other {w w' : World} {base b : Nat} {t : TypeId} {cs : Array Value} {g : Gr} {vn vr : Value} {hs : List (Value × Value)} (h : OwG w base g vn vr hs) (hb : Blk w b t cs) (h1 : t ≠ 34) (h2 : t ≠ 46) (h3 : t ≠ 47) (o : Only (isb b) w w') : OwG w' base g vn vr hs := by
  have hne : ∀ {E s n v x}, w.ownsRow base E s v n x → t ≠ E → ∀ k, v.ownBlock = some k → ¬ isb b k := fun hw hE k e e2 => by
    unfold isb at e2
    subst e2
    exact blk_own_ne16 hb hw hE e
  exact ⟨h.len, own_only h.nodes o (hne h.nodes h1), fun i d x hd hx => (h.rows i d x hd hx).only o (hne (h.rows i d x hd hx).fs h2) (hne (h.rows i d x hd hx).rs h3), h.apart, own_only h.roots o (hne h.roots h2), h.far⟩
theorem OwG.apart2 {w w' : World} {base : Nat} {F : Nat → Prop} {g : Gr} {vn vr : Value} {hs : List (Value × Value)} (h : OwG w base g vn vr hs) (o : Only F w w') (hF : ∀ k, F k → ∃ t cs, Blk w k t cs ∧ t ≠ 34 ∧ t ≠ 46 ∧ t ≠ 47) : OwG w' base g vn vr hs := by
  have h1 : ∀ {s n v x}, w.ownsRow base 34 s v n x → ∀ k, v.ownBlock = some k → ¬ F k := fun hw k e f => by
    obtain ⟨t, cs, hb, a, b, c⟩ := hF k f
    exact blk_own_ne16 hb hw a e
  have h2 : ∀ {s n v x}, w.ownsRow base 46 s v n x → ∀ k, v.ownBlock = some k → ¬ F k := fun hw k e f => by
    obtain ⟨t, cs, hb, a, b, c⟩ := hF k f
    exact blk_own_ne16 hb hw b e
  have h3 : ∀ {s n v x}, w.ownsRow base 47 s v n x → ∀ k, v.ownBlock = some k → ¬ F k := fun hw k e f => by
    obtain ⟨t, cs, hb, a, b, c⟩ := hF k f
    exact blk_own_ne16 hb hw c e
  exact ⟨h.len, own_only h.nodes o (h1 h.nodes), fun i d x hd hx => (h.rows i d x hd hx).only o (h2 (h.rows i d x hd hx).fs) (h3 (h.rows i d x hd hx).rs), h.apart, own_only h.roots o (h2 h.roots), h.far⟩
/-- The graph that the iterator goes over is told by the headers. -/
theorem OwG.hd {w : World} {base n0 : Nat} {V : Nat → Prop} {g : Gr} {vn vr : Value} {hs : List (Value × Value)} (h : OwG w base g vn vr hs) (hn : w.heap.size ≤ n0) (hV : ∀ k, V k → (∃ t cs, Blk w k t cs ∧ t ≠ 34)) : HdG V n0 w g vn vr hs :=
  ⟨h.len, (Sl.of_own h.nodes h.nodes.1).more hn, fun b o n c e _ hv => by
    obtain ⟨t, cs, hb, ht⟩ := hV b hv
    exact blk_own_ne16 hb h.nodes ht (by rw [e]; rfl), fun i d x hd hx => ⟨(h.rd.each i d x hd hx).fields.rowF, (h.rd.each i d x hd hx).raws.rowF⟩, h.rd.roots.rowF⟩
end Go.Proofs.Ytdlaigghejahdaa
