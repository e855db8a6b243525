/- The document's own answers for graphs: where a node's references lead. -/
import Derived.Test.YtdlaigghejahdaaRef16E
namespace Go.Proofs.Ytdlaigghejahdaa
open Go.RowKit Go.Lib
set_option maxRecDepth 100000
set_option linter.unusedSimpArgs false
set_option linter.unusedVariables false

theorem one_int16 (w : World) (x : Int) : Sl (w.alloc (.cells #[.int .i64 x] 3)) (w.heap.size + 1) 1 (.slice (some ⟨w.heap.size, 0, none⟩) 1 1) 1 (i64s [x]) := by
  have := Sl.of_blk (size := 1) (n := 1) (c := 1) (Blk.new w 3 #[.int .i64 x]) (by simp) (Nat.le_refl _) (by decide)
  simpa [i64s] using this
theorem refs_next {l : List Sp} {k : Nat} {x y : Int} (h : l[k]? = some (x, y)) : refsOf (l.take (k + 1)) = refsOf (l.take k) ++ (if x = 2 then [y] else []) := by
  unfold refsOf
  rw [List.take_add_one, h]
  by_cases hx : x = 2
  · simp [hx]
  · simp [hx]
theorem refs_le (l : List Sp) : (refsOf l).length ≤ l.length := by
  unfold refsOf
  rw [List.length_map]
  exact List.length_filter_le _ _
theorem leads_in {g : Gr} {n : Nat} {d : Nd} (hd : g.nd[n]? = some d) : leadsG g (n : Int) = refsOf d.fs := by
  have : n < g.nd.length := (List.getElem?_eq_some_iff.1 hd).1
  unfold leadsG
  rw [if_pos (by omega), Int.toNat_natCast, hd]
theorem leads_out {g : Gr} {i : Int} (h : ¬ (0 ≤ i ∧ i < (g.nd.length : Int))) : leadsG g i = [] := if_neg h
set_option maxHeartbeats 4000000 in
theorem rLeads16 (g : Gr) (i : Int) (vn vr : Value) (hs : List (Value × Value)) (B : Nat) (w : World) (h : RdG w B g vn vr hs) (hB : B ≤ w.heap.size) (hl : ∀ d ∈ g.nd, d.fs.length ≤ 8796093022208) :
    Calls Try.prog 15 #[.agg #[vn, vr], .int .i64 i] w fun e w' => ∃ v', e = .returned v' ∧ w'.ownsRow w.heap.size 3 1 v' (leadsG g i).length (i64s (leadsG g i)) ∧ Only nob w w' := by
  obtain ⟨j0, hj0, hy0, hy1, hy2⟩ := info_parts info_int
  have HR := Lib.hid h
  obtain ⟨A, c, rfl, hac, hcm⟩ := h.nodes.form
  unfold maxLen at hcm
  obtain ⟨W, hW, HB⟩ := box_graph w (.slice A g.nd.length c) vr
  have HW := Lib.hid hW
  obtain ⟨p, hp⟩ : ∃ p, p = w.heap.size := ⟨_, rfl⟩
  have HP := Lib.hid hp
  rw [← hp] at HB
  have c0 := HB.out.2.2.1
  obtain ⟨L, hL⟩ : ∃ L, L = leadsG g i := ⟨_, rfl⟩
  have HLL := Lib.hid hL
  rw [← hL]
  clear hW hp h hL
  go_enter Try.func15, Try.ntmps15
  go_upto_region 1 with fail
  rw [HW.out, ← HP.out]
  by_cases h1 : 0 ≤ i
  · by_cases h2 : i < (g.nd.length : Int)
    · obtain ⟨n, rfl⟩ : ∃ n : Nat, i = n := ⟨i.toNat, by omega⟩
      have hn : n < g.nd.length := by omega
      obtain ⟨d, hd⟩ : ∃ x, g.nd[n]? = some x := ⟨_, List.getElem?_eq_getElem hn⟩
      obtain ⟨bb, o, fv, rv, rfl, hbb, hh, g0, g1, g2, -⟩ := HR.out.at_ (HB.out.1.below hB fun _ h => h.elim) hd
      obtain ⟨-, -, fw, rw', -, -, hh', -, -, -, hnd⟩ := HR.out.at_ ((Only.refl nob w).below hB fun _ h => h.elim) hd
      obtain ⟨rfl, rfl⟩ : fw = fv ∧ rw' = rv := by simpa using hh'.symm.trans hh
      clear hh hh'
      obtain ⟨Af, cf, hfv, hafc, hcfm⟩ := hnd.fields.form
      obtain ⟨Arw, crw, hrv, harw, hcrw⟩ := hnd.raws.form
      simp only at hfv hrv
      subst hfv hrv
      unfold maxLen at hcfm
      have hdl := hl d (List.mem_of_getElem? hd)
      have HA := Lib.hid hnd.fields
      have HLG := Lib.hid (HLL.out.trans (leads_in hd))
      obtain ⟨l, hll⟩ : ∃ l, l = d.fs := ⟨_, rfl⟩
      rw [← hll] at HA HLG hdl hafc g1
      clear hl hd hnd hll HLL
      go_wp2_with fail
      go_loopw [5, 7] (fun out k wr => ∃ n : Nat, n ≤ l.length ∧ k = .int .i64 n ∧ Hid (wr.ownsRow w.heap.size 3 1 out (refsOf (l.take n)).length (i64s (refsOf (l.take n)))) ∧ Hid (Only nob w wr)) (fun _ k _ => l.length - (intOf k).toNat)
      case atStart => exact ⟨0, Nat.zero_le _, rfl, Lib.hid (World.ownsRow_nil _ _ _ _), Lib.hid HB.out.1⟩
      case round =>
        obtain ⟨k, hk, rfl, HRW, HO⟩ := hrel
        obtain ⟨Ar, cr, rfl, hcr, hmr⟩ := own_len HRW.out
        unfold maxLen at hmr
        clear c0 g0 g1 g2
        by_cases hlt : k < l.length
        · obtain ⟨⟨x, y⟩, hy⟩ : ∃ x, l[k]? = some x := ⟨_, List.getElem?_eq_getElem hlt⟩
          obtain ⟨b1, o1, rfl, -, c0, c1⟩ := sl_span HA.out (HO.out.below hB fun _ h => h.elim) hy
          have HSN := Lib.hid (refs_next hy)
          have hkl : (refsOf (l.take k)).length ≤ k := by have := refs_le (l.take k); rw [List.length_take] at this; omega
          obtain ⟨P, hP⟩ : ∃ P, P = refsOf (l.take k) := ⟨_, rfl⟩
          rw [← hP] at HRW HSN hcr hkl ⊢
          obtain ⟨n, hn⟩ : ∃ n, n = P.length := ⟨_, rfl⟩
          have HN := Lib.hid hn
          rw [← hn] at HRW hcr hkl ⊢
          have hww : w.heap.size ≤ wr.heap.size := HO.out.size
          simp only at c0 c1
          clear hP hn
          by_cases hx2 : x = 2
          · subst hx2
            rw [if_pos rfl] at HSN
            go_wp2_with (with_reducible refine wpList_append_sl (o := ⟨some 43, _, _, _, _, _⟩) _ rfl (.tmp 36) (.tmp 42) _ rfl w.heap.size 3 j0 _ 1 8 Try.underlying26 hj0 hy0 hy1 hy2 rfl (by decide) (.slice Ar n cr) n (i64s P) rfl ?c1 (wr.heap.size + 1) (.slice (some ⟨wr.heap.size, 0, none⟩) 1 1) 1 (i64s [y]) rfl ?c6 (i64s_one _) ?c2 ?c3 ?c4 ?c5)
            case c1 => exact own_only HRW.out ((Only.refl nob wr).alloc _) (fun _ _ h => h)
            case c6 => exact one_int16 wr _
            case c2 => unfold maxLen; omega
            case c3 => omega
            case c4 => simp; omega
            case c5 =>
              intro v6 w6 H6 o6 _
              have HR6 := Lib.hid (show w6.ownsRow w.heap.size 3 1 v6 (refsOf (l.take (k + 1))).length (i64s (refsOf (l.take (k + 1)))) by
                rw [HSN.out, List.length_append, i64s_append, ← HN.out]
                exact H6.out)
              have h1 := own_only HRW.out ((Only.refl nob wr).alloc (.cells #[.int .i64 y] 3)) (fun _ _ h => h)
              have O6 := Lib.hid (own_nob (HO.out.alloc (.cells #[.int .i64 y] 3)) h1 o6 (Nat.le_refl _))
              clear H6 o6 h1 c0 c1
              go_wp2
              go_roundw
              case rel => exact ⟨k + 1, by omega, by go_num, HR6, O6⟩
              case measure => simp [intOf]; omega
          · have hbq : (x == 2) = false := by simpa using hx2
            rw [if_neg hx2, List.append_nil] at HSN
            clear hx2
            go_wp2
            go_roundw
            case rel => exact ⟨k + 1, by omega, by go_num, by rw [HSN.out, ← HN.out]; exact HRW, HO⟩
            case measure => simp [intOf]; omega
        · obtain rfl : k = l.length := by omega
          have HE := Lib.hid (show L = refsOf (l.take l.length) by rw [HLG.out, List.take_length])
          go_wp2
          go_ret
          exact ⟨_, rfl, by rw [HE.out]; exact HRW.out, HO.out⟩
    · have HLG := Lib.hid (HLL.out.trans (leads_out fun h => h2 h.2))
      clear hl HLL
      go_wp2
      go_ret
      exact ⟨_, rfl, by rw [HLG.out]; exact World.ownsRow_nil _ _ _ _, HB.out.1⟩
  · have HLG := Lib.hid (HLL.out.trans (leads_out fun h => h1 h.1))
    clear hl HLL
    go_wp2
    go_ret
    exact ⟨_, rfl, by rw [HLG.out]; exact World.ownsRow_nil _ _ _ _, HB.out.1⟩
end Go.Proofs.Ytdlaigghejahdaa
