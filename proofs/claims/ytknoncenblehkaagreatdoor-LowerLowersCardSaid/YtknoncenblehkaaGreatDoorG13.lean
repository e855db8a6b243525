/- Contracts of the document's own answers for spans: what they -/
import Derived.Test.YtknoncenblehkaaGreatDoorG08
import Derived.Test.YtknoncenblehkaaGreatDoorG05
import Derived.Deep.RegionHeld3
import Derived.Deep.RegionWith
import Derived.Deep.DrawnRows
set_option maxRecDepth 100000
set_option maxHeartbeats 32000000
set_option linter.unusedSimpArgs false
set_option linter.unusedVariables false
namespace Go.Proofs.YtknoncenblehkaaGreatDoor
open Go.RowKit
theorem ZE (x:Sp) (w:World):
 Calls Tryz.prog 64 #[.agg #[.int .i64 x.1,.int .i64 x.2]] w fun e w'=>e=.returned (.bool (decide x.ok))∧Only nob w w':=by
 by_cases h1:0≤x.1
 · by_cases h2:1≤x.2
   · by_cases h3:x.1≤1099511627776
     · by_cases h4:x.2≤1099511627776 - x.1
       case' pos=>have HK:=ZZ (Yl (p:=x.ok) ⟨h1,h2,h3,h4⟩)
       case' neg=>have HK:=ZZ (Yk (p:=x.ok) fun h=>h4 h.2.2.2)
       all_goals
        go_enter Tryz.func64,Tryz.ntmps64
        go_wp2;go_ret;exact⟨Za (by rw[HK.out]),(Only.refl nob w).alloc _⟩
     · have HK:=ZZ (Yk (p:=x.ok) fun h=>h3 h.2.2.1)
       go_enter Tryz.func64,Tryz.ntmps64
       go_wp2;go_ret;exact⟨Za (by rw[HK.out]),(Only.refl nob w).alloc _⟩
   · have HK:=ZZ (Yk (p:=x.ok) fun h=>h2 h.2.1)
     go_enter Tryz.func64,Tryz.ntmps64
     go_wp2;go_ret;exact⟨Za (by rw[HK.out]),(Only.refl nob w).alloc _⟩
 · have HK:=ZZ (Yk (p:=x.ok) fun h=>h1 h.1)
   go_enter Tryz.func64,Tryz.ntmps64
   go_wp2;go_ret;exact⟨Za (by rw[HK.out]),(Only.refl nob w).alloc _⟩
theorem Zer (x:Sp) (p:Int) (w:World):
 Calls Tryz.prog 96 #[.agg #[.int .i64 x.1,.int .i64 x.2],.int .i64 p] w fun e w'=>e=.returned (.bool (decide (x.has p)))∧Only nob w w':=by
 by_cases h0:x.ok
 · have HM:=ZZ (Yl h0)
   have h1:0≤x.1∧x.1≤1099511627776∧1≤x.2∧x.2≤1099511627776:=by unfold Sp.ok Za6 at h0;omega
   by_cases h2:x.1≤p
   · by_cases h3:p<x.1+x.2
     case' pos=>have HK:=ZZ (Yl (p:=x.has p) ⟨h0,h2,h3⟩)
     case' neg=>have HK:=ZZ (Yk (p:=x.has p) fun h=>h3 h.2.2)
     all_goals
      clear h0
      go_enter Tryz.func96,Tryz.ntmps96
      go_wp2_with fail
      go_at_call 64;refine(ZE x _).mono ?_;rw[HM.out];rintro e w1 ⟨rfl,ho⟩
      have c0:=(ho.cell (p:=⟨w.heap.size,0,none⟩) (by simp) id)
      have c1:=(ho.cell (p:=⟨w.heap.size,1,none⟩) (by simp) id)
      simp at c0 c1;have HO:=ZZ (((Only.refl nob w).alloc _).trans ho);clear ho;go_wp2;go_ret;exact⟨Za (by rw[HK.out];simp;omega),HO.out⟩
   · have HK:=ZZ (Yk (p:=x.has p) fun h=>h2 h.2.1)
     clear h0
     go_enter Tryz.func96,Tryz.ntmps96
     go_wp2_with fail
     go_at_call 64;refine(ZE x _).mono ?_;rw[HM.out];rintro e w1 ⟨rfl,ho⟩
     have c0:=(ho.cell (p:=⟨w.heap.size,0,none⟩) (by simp) id)
     simp at c0;have HO:=ZZ (((Only.refl nob w).alloc _).trans ho);clear ho;go_wp2;go_ret;exact⟨Za (by rw[HK.out]),HO.out⟩
 · have HM:=ZZ (Yk h0)
   have HK:=ZZ (Yk (p:=x.has p) fun h=>h0 h.1);clear h0
   go_enter Tryz.func96,Tryz.ntmps96
   go_wp2_with fail
   go_at_call 64;refine(ZE x _).mono ?_;rw[HM.out];rintro e w1 ⟨rfl,ho⟩;have HO:=ZZ (((Only.refl nob w).alloc _).trans ho);clear ho;go_wp2;go_ret;exact⟨Za (by rw[HK.out]),HO.out⟩
theorem ZcY (x y:Sp) (w:World):
 Calls Tryz.prog 65 #[.agg #[.int .i64 x.1,.int .i64 x.2],.agg #[.int .i64 y.1,.int .i64 y.2]] w fun e w'=>e=.returned (.bool (decide (Sp.meets x y)))∧Only nob w w':=by
 rw[Zkv];have HX: ∀w,Calls Tryz.prog 64 #[.agg #[.int .i64 x.1,.int .i64 x.2]] w fun e w'=>e=.returned (.bool (decide x.ok))∧Only nob w w':=ZE x;have HY: ∀w,Calls Tryz.prog 64 #[.agg #[.int .i64 y.1,.int .i64 y.2]] w fun e w'=>e=.returned (.bool (decide y.ok))∧Only nob w w':=ZE y;have HXY: ∀w,Calls Tryz.prog 96 #[.agg #[.int .i64 x.1,.int .i64 x.2],.int .i64 y.1] w fun e w'=>e=.returned (.bool (decide (x.has y.1)))∧Only nob w w':=Zer x y.1;have HYX: ∀w,Calls Tryz.prog 96 #[.agg #[.int .i64 y.1,.int .i64 y.2],.int .i64 x.1] w fun e w'=>e=.returned (.bool (decide (y.has x.1)))∧Only nob w w':=Zer y x.1;generalize decide x.ok=bx at *;generalize decide y.ok=byy at *;generalize decide (x.has y.1)=bxy at *;generalize decide (y.has x.1)=byx at *
 replace HX:=ZZ HX
 replace HY:=ZZ HY
 replace HXY:=ZZ HXY
 replace HYX:=ZZ HYX
 cases bx
 · go_enter Tryz.func65,Tryz.ntmps65
   go_wp2_with fail
   refine(HX.out _).mono ?_;rintro e w1 ⟨rfl,ho⟩;have HO:=ZZ ((((Only.refl nob w).alloc _).alloc _).trans ho);clear ho;go_wp2;go_ret;exact⟨rfl,HO.out⟩
 · cases byy
   · go_enter Tryz.func65,Tryz.ntmps65
     go_wp2_with fail
     refine(HX.out _).mono ?_;rintro e w1 ⟨rfl,ho⟩;have HO:=ZZ ((((Only.refl nob w).alloc _).alloc _).trans ho);have hc:=ho.old;clear ho
     go_wp2_with fail
     refine(HY.out _).mono ?_;rintro e w2 ⟨rfl,ho⟩;have HO2:=ZZ (HO.out.trans ho);clear ho hc;go_wp2;go_ret;exact⟨rfl,HO2.out⟩
   · cases bxy
     all_goals
      go_enter Tryz.func65,Tryz.ntmps65
      go_wp2_with fail
      refine(HX.out _).mono ?_;rintro e w1 ⟨rfl,ho⟩;have HO:=ZZ ((((Only.refl nob w).alloc _).alloc _).trans ho);have hc:=ho.old
      have hy:w.heap.size<w1.heap.size:=by have:=ho.size;simp at this;omega
      have hz:w.heap.size+1<w1.heap.size:=by have:=ho.size;simp at this;omega
      clear ho
      go_wp2_with fail
      refine(HY.out _).mono ?_;rintro e w2 ⟨rfl,ho⟩;have HO2:=ZZ (HO.out.trans ho);have hc2:=ho.old
      have hy2:w.heap.size<w2.heap.size:=by have:=ho.size;omega
      have hz2:w.heap.size+1<w2.heap.size:=by have:=ho.size;omega
      clear ho
      go_wp2_with fail
      refine(HXY.out _).mono ?_;rintro e w3 ⟨rfl,ho⟩;have HO3:=ZZ (HO2.out.trans ho);have hc3:=ho.old
      have hy3:w.heap.size<w3.heap.size:=by have:=ho.size;omega
      have hz3:w.heap.size+1<w3.heap.size:=by have:=ho.size;omega
      clear ho
      go_wp2_with (refine(HYX.out _).mono ?_;rintro e w4 ⟨rfl,ho4⟩)
      first
      |(have HO4:=ZZ (HO3.out.trans ho4)
        clear ho4 hc hc2 hc3;go_ret
        exact⟨rfl,HO4.out⟩)
      |(go_ret
        exact⟨rfl,HO3.out⟩)
attribute [local go_sem ↓] Go.wp_at_zero Go.wp_at_succ
end Go.Proofs.YtknoncenblehkaaGreatDoor
