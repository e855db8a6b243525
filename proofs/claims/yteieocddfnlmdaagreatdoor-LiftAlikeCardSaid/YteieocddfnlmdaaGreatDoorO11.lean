/- Contracts of the document's own answers for spans: what they -/
import Derived.Test.YteieocddfnlmdaaGreatDoorO06
import Derived.Test.YteieocddfnlmdaaGreatDoorO03
import Derived.Deep.RegionHeld3
import Derived.Deep.RegionWith
import Derived.Deep.DrawnRows
set_option maxRecDepth 100000
set_option maxHeartbeats 32000000
set_option linter.unusedSimpArgs false
set_option linter.unusedVariables false
namespace Go.Proofs.YteieocddfnlmdaaGreatDoor
open Go.RowKit
theorem Zk (x:Sp) (w:World):
 Calls Tryz.prog 111 #[.agg #[.int .i64 x.1,.int .i64 x.2]] w fun e w'=>e=.returned (.bool (decide x.ok))∧Only nob w w':=by
 by_cases h1:0≤x.1
 · by_cases h2:1≤x.2
   · by_cases h3:x.1≤1099511627776
     · by_cases h4:x.2≤1099511627776 - x.1
       case' pos=>have HK:=ZZ (Ym (p:=x.ok) ⟨h1,h2,h3,h4⟩)
       case' neg=>have HK:=ZZ (Yl (p:=x.ok) fun h=>h4 h.2.2.2)
       all_goals
        go_enter Tryz.func111,Tryz.ntmps111
        go_wp2;go_ret;exact⟨Za (by rw[HK.out]),(Only.refl nob w).alloc _⟩
     · have HK:=ZZ (Yl (p:=x.ok) fun h=>h3 h.2.2.1)
       go_enter Tryz.func111,Tryz.ntmps111
       go_wp2;go_ret;exact⟨Za (by rw[HK.out]),(Only.refl nob w).alloc _⟩
   · have HK:=ZZ (Yl (p:=x.ok) fun h=>h2 h.2.1)
     go_enter Tryz.func111,Tryz.ntmps111
     go_wp2;go_ret;exact⟨Za (by rw[HK.out]),(Only.refl nob w).alloc _⟩
 · have HK:=ZZ (Yl (p:=x.ok) fun h=>h1 h.1)
   go_enter Tryz.func111,Tryz.ntmps111
   go_wp2;go_ret;exact⟨Za (by rw[HK.out]),(Only.refl nob w).alloc _⟩
theorem Zaf (x:Sp) (p:Int) (w:World):
 Calls Tryz.prog 193 #[.agg #[.int .i64 x.1,.int .i64 x.2],.int .i64 p] w fun e w'=>e=.returned (.bool (decide (x.has p)))∧Only nob w w':=by
 by_cases h0:x.ok
 · have HM:=ZZ (Ym h0)
   have h1:0≤x.1∧x.1≤1099511627776∧1≤x.2∧x.2≤1099511627776:=by unfold Sp.ok most at h0;omega
   by_cases h2:x.1≤p
   · by_cases h3:p<x.1+x.2
     case' pos=>have HK:=ZZ (Ym (p:=x.has p) ⟨h0,h2,h3⟩)
     case' neg=>have HK:=ZZ (Yl (p:=x.has p) fun h=>h3 h.2.2)
     all_goals
      clear h0
      go_enter Tryz.func193,Tryz.ntmps193
      go_wp2_with fail
      go_at_call 111;refine(Zk x _).mono ?_;rw[HM.out];rintro e w1 ⟨rfl,ho⟩
      have c0:=(ho.cell (p:=⟨w.heap.size,0,none⟩) (by simp) id)
      have c1:=(ho.cell (p:=⟨w.heap.size,1,none⟩) (by simp) id)
      simp at c0 c1;have HO:=ZZ (((Only.refl nob w).alloc _).trans ho);clear ho;go_wp2;go_ret;exact⟨Za (by rw[HK.out];simp;omega),HO.out⟩
   · have HK:=ZZ (Yl (p:=x.has p) fun h=>h2 h.2.1)
     clear h0
     go_enter Tryz.func193,Tryz.ntmps193
     go_wp2_with fail
     go_at_call 111;refine(Zk x _).mono ?_;rw[HM.out];rintro e w1 ⟨rfl,ho⟩
     have c0:=(ho.cell (p:=⟨w.heap.size,0,none⟩) (by simp) id)
     simp at c0;have HO:=ZZ (((Only.refl nob w).alloc _).trans ho);clear ho;go_wp2;go_ret;exact⟨Za (by rw[HK.out]),HO.out⟩
 · have HM:=ZZ (Yl h0)
   have HK:=ZZ (Yl (p:=x.has p) fun h=>h0 h.1);clear h0
   go_enter Tryz.func193,Tryz.ntmps193
   go_wp2_with fail
   go_at_call 111;refine(Zk x _).mono ?_;rw[HM.out];rintro e w1 ⟨rfl,ho⟩;have HO:=ZZ (((Only.refl nob w).alloc _).trans ho);clear ho;go_wp2;go_ret;exact⟨Za (by rw[HK.out]),HO.out⟩
theorem Zer (x y:Sp) (w:World):
 Calls Tryz.prog 194 #[.agg #[.int .i64 x.1,.int .i64 x.2],.agg #[.int .i64 y.1,.int .i64 y.2]] w fun e w'=>e=.returned (.bool (decide (Sp.meets x y)))∧Only nob w w':=by
 rw[Znd];have HX: ∀w,Calls Tryz.prog 111 #[.agg #[.int .i64 x.1,.int .i64 x.2]] w fun e w'=>e=.returned (.bool (decide x.ok))∧Only nob w w':=Zk x;have HY: ∀w,Calls Tryz.prog 111 #[.agg #[.int .i64 y.1,.int .i64 y.2]] w fun e w'=>e=.returned (.bool (decide y.ok))∧Only nob w w':=Zk y;have HXY: ∀w,Calls Tryz.prog 193 #[.agg #[.int .i64 x.1,.int .i64 x.2],.int .i64 y.1] w fun e w'=>e=.returned (.bool (decide (x.has y.1)))∧Only nob w w':=Zaf x y.1;have HYX: ∀w,Calls Tryz.prog 193 #[.agg #[.int .i64 y.1,.int .i64 y.2],.int .i64 x.1] w fun e w'=>e=.returned (.bool (decide (y.has x.1)))∧Only nob w w':=Zaf y x.1;generalize decide x.ok=bx at *;generalize decide y.ok=byy at *;generalize decide (x.has y.1)=bxy at *;generalize decide (y.has x.1)=byx at *
 replace HX:=ZZ HX
 replace HY:=ZZ HY
 replace HXY:=ZZ HXY
 replace HYX:=ZZ HYX
 cases bx
 · go_enter Tryz.func194,Tryz.ntmps194
   go_wp2_with fail
   refine(HX.out _).mono ?_;rintro e w1 ⟨rfl,ho⟩;have HO:=ZZ ((((Only.refl nob w).alloc _).alloc _).trans ho);clear ho;go_wp2;go_ret;exact⟨rfl,HO.out⟩
 · cases byy
   · go_enter Tryz.func194,Tryz.ntmps194
     go_wp2_with fail
     refine(HX.out _).mono ?_;rintro e w1 ⟨rfl,ho⟩;have HO:=ZZ ((((Only.refl nob w).alloc _).alloc _).trans ho);have hc:=ho.old;clear ho
     go_wp2_with fail
     refine(HY.out _).mono ?_;rintro e w2 ⟨rfl,ho⟩;have HO2:=ZZ (HO.out.trans ho);clear ho hc;go_wp2;go_ret;exact⟨rfl,HO2.out⟩
   · cases bxy
     all_goals
      go_enter Tryz.func194,Tryz.ntmps194
      go_wp2_with fail
      refine(HX.out _).mono ?_;rintro e w1 ⟨rfl,ho⟩;have HO:=ZZ ((((Only.refl nob w).alloc _).alloc _).trans ho);have hc:=ho.old
      have hy:w.heap.size<w1.heap.size:=by have:=ho.size;simp at this;omega
      have hz:w.heap.size+1<w1.heap.size:=by have:=ho.size;simp at this;omega
      clear ho
      go_wp2_with fail
      refine(HY.out _).mono ?_;rintro e w2 ⟨rfl,ho⟩;have HO2:=ZZ (HO.out.trans ho);have hc2:=ho.old
      have hy2:w.heap.size<w2.heap.size:=by have:=ho.size;omega
      have hz2:w.heap.size+1<w2.heap.size:=by have:=ho.size;omega
      clear ho
      go_wp2_with fail
      refine(HXY.out _).mono ?_;rintro e w3 ⟨rfl,ho⟩;have HO3:=ZZ (HO2.out.trans ho);have hc3:=ho.old
      have hy3:w.heap.size<w3.heap.size:=by have:=ho.size;omega
      have hz3:w.heap.size+1<w3.heap.size:=by have:=ho.size;omega
      clear ho
      go_wp2_with (refine(HYX.out _).mono ?_;rintro e w4 ⟨rfl,ho4⟩)
      first
      |(have HO4:=ZZ (HO3.out.trans ho4)
        clear ho4 hc hc2 hc3;go_ret
        exact⟨rfl,HO4.out⟩)
      |(go_ret
        exact⟨rfl,HO3.out⟩)
theorem Zdx (x y:Sp) (w:World):
 Calls Tryz.prog 148 #[.agg #[.int .i64 x.1,.int .i64 x.2],.agg #[.int .i64 y.1,.int .i64 y.2]] w fun e w'=>e=.returned (.bool (decide (Sp.within x y)))∧Only nob w w':=by
 by_cases h1:x.ok
 · have HX:=ZZ (Ym h1)
   have hb:0≤x.1∧x.1≤1099511627776∧1≤x.2∧x.2≤1099511627776:=by unfold Sp.ok most at h1;omega
   by_cases h2:y.ok
   · have HY:=ZZ (Ym h2)
     by_cases h3:y.has x.1
     · have H1:=ZZ (Ym h3)
       by_cases h4:y.has (x.1+x.2 - 1)
       case' pos=>
        have HK:=ZZ (Ym (p:=Sp.within x y) ⟨h1,h2,h3,h4⟩);have H2:=ZZ (Ym h4)
       case' neg=>
        have HK:=ZZ (Yl (p:=Sp.within x y) fun h=>h4 h.2.2.2);have H2:=ZZ (Yl h4)
       all_goals
        clear h1 h2 h3 h4
        go_enter Tryz.func148,Tryz.ntmps148
        go_wp2_with fail
        refine(Zk x _).mono ?_;rw[HX.out];rintro e w1 ⟨rfl,ho⟩;have HO1:=ZZ ((((Only.refl nob w).alloc _).alloc _).trans ho);have hc1:=ho.old
        have hy1:w.heap.size<w1.heap.size:=by have:=ho.size;simp at this;omega
        have hz1:w.heap.size+1<w1.heap.size:=by have:=ho.size;simp at this;omega
        clear ho
        go_wp2_with fail
        refine(Zk y _).mono ?_;rw[HY.out];rintro e w2 ⟨rfl,ho⟩;have HO2:=ZZ (HO1.out.trans ho);have hc2:=ho.old
        have hy2:w.heap.size<w2.heap.size:=by have:=ho.size;omega
        have hz2:w.heap.size+1<w2.heap.size:=by have:=ho.size;omega
        clear ho
        go_wp2_with fail
        refine(Zaf y x.1 _).mono ?_;rw[H1.out];rintro e w3 ⟨rfl,ho⟩;have HO3:=ZZ (HO2.out.trans ho);have hc3:=ho.old
        have hy3:w.heap.size<w3.heap.size:=by have:=ho.size;omega
        have hz3:w.heap.size+1<w3.heap.size:=by have:=ho.size;omega
        clear ho
        go_wp2_with fail
        refine(Zaf y (x.1+x.2 - 1) _).mono ?_;rw[H2.out];rintro e w4 ⟨rfl,ho⟩;have HO4:=ZZ (HO3.out.trans ho);have hc4:=ho.old
        have hy4:w.heap.size<w4.heap.size:=by have:=ho.size;omega
        have hz4:w.heap.size+1<w4.heap.size:=by have:=ho.size;omega
        clear ho;clear hc1 hc2 hc3 hc4;go_wp2;go_ret;exact⟨Za (by rw[HK.out]),HO4.out⟩
     · have H1:=ZZ (Yl h3)
       have HK:=ZZ (Yl (p:=Sp.within x y) fun h=>h3 h.2.2.1);clear h1 h2 h3
       go_enter Tryz.func148,Tryz.ntmps148
       go_wp2_with fail
       refine(Zk x _).mono ?_;rw[HX.out];rintro e w1 ⟨rfl,ho⟩;have HO1:=ZZ ((((Only.refl nob w).alloc _).alloc _).trans ho);have hc1:=ho.old
       have hy1:w.heap.size<w1.heap.size:=by have:=ho.size;simp at this;omega
       have hz1:w.heap.size+1<w1.heap.size:=by have:=ho.size;simp at this;omega
       clear ho
       go_wp2_with fail
       refine(Zk y _).mono ?_;rw[HY.out];rintro e w2 ⟨rfl,ho⟩;have HO2:=ZZ (HO1.out.trans ho);have hc2:=ho.old
       have hy2:w.heap.size<w2.heap.size:=by have:=ho.size;omega
       have hz2:w.heap.size+1<w2.heap.size:=by have:=ho.size;omega
       clear ho
       go_wp2_with fail
       refine(Zaf y x.1 _).mono ?_;rw[H1.out];rintro e w3 ⟨rfl,ho⟩;have HO3:=ZZ (HO2.out.trans ho);have hc3:=ho.old
       have hy3:w.heap.size<w3.heap.size:=by have:=ho.size;omega
       have hz3:w.heap.size+1<w3.heap.size:=by have:=ho.size;omega
       clear ho;clear hc1 hc2 hc3;go_wp2;go_ret;exact⟨Za (by rw[HK.out]),HO3.out⟩
   · have HY:=ZZ (Yl h2)
     have HK:=ZZ (Yl (p:=Sp.within x y) fun h=>h2 h.2.1);clear h1 h2
     go_enter Tryz.func148,Tryz.ntmps148
     go_wp2_with fail
     refine(Zk x _).mono ?_;rw[HX.out];rintro e w1 ⟨rfl,ho⟩;have HO1:=ZZ ((((Only.refl nob w).alloc _).alloc _).trans ho);have hc1:=ho.old
     have hy1:w.heap.size<w1.heap.size:=by have:=ho.size;simp at this;omega
     have hz1:w.heap.size+1<w1.heap.size:=by have:=ho.size;simp at this;omega
     clear ho
     go_wp2_with fail
     refine(Zk y _).mono ?_;rw[HY.out];rintro e w2 ⟨rfl,ho⟩;have HO2:=ZZ (HO1.out.trans ho);have hc2:=ho.old
     have hy2:w.heap.size<w2.heap.size:=by have:=ho.size;omega
     have hz2:w.heap.size+1<w2.heap.size:=by have:=ho.size;omega
     clear ho;clear hc1 hc2;go_wp2;go_ret;exact⟨Za (by rw[HK.out]),HO2.out⟩
 · have HX:=ZZ (Yl h1)
   have HK:=ZZ (Yl (p:=Sp.within x y) fun h=>h1 h.1);clear h1
   go_enter Tryz.func148,Tryz.ntmps148
   go_wp2_with fail
   refine(Zk x _).mono ?_;rw[HX.out];rintro e w1 ⟨rfl,ho⟩;have HO1:=ZZ ((((Only.refl nob w).alloc _).alloc _).trans ho);have hc1:=ho.old
   have hy1:w.heap.size<w1.heap.size:=by have:=ho.size;simp at this;omega
   have hz1:w.heap.size+1<w1.heap.size:=by have:=ho.size;simp at this;omega
   clear ho;clear hc1;go_wp2;go_ret;exact⟨Za (by rw[HK.out]),HO1.out⟩
theorem Zgd (v:Value) (l:List Sp) (p:Int) (B:Nat) (w:World) (h:Sl w B 2 v l.length (spc l)) (hB:B≤w.heap.size):
 Calls Tryz.prog 196 #[v,.int .i64 p] w fun e w'=>e=.returned (.bool (decide (cov l p)))∧Only nob w w':=by
 have HA:=ZZ h;obtain⟨A,ca,rfl,hac,ham, -⟩:=h;unfold maxLen at ham
 go_enter Tryz.func196,Tryz.ntmps196
 go_wp2_with fail
 go_loopw [5] (fun i wr=> ∃k:Nat,k≤l.length∧i=.int .i64 k∧Hid (∀(j:Nat) x,j<k→l[j]? =some x→ ¬Sp.has x p)∧Only nob w wr) (fun i _=>l.length - (intOf i).toNat)
 case atStart=>exact⟨0,Yu _,rfl,fun j _ hj _=>absurd hj (Nat.not_lt_zero j),Only.refl _ _⟩
 case round=>
  obtain⟨k,hk,rfl,hno,hO⟩:=hrel;have HX:=ZZ hO;by_cases hlt:k<l.length
  · obtain⟨x,hx⟩: ∃x,l[k]? =some x:=⟨_,Ya hlt⟩
    obtain⟨b,o,rfl,hb,c0,c1⟩:=sl_span HA.out (hO.below hB fun _ h=>h.elim) hx;have HXX:=ZZ hx;clear hO hx;by_cases hp:x.has p
    · have HP:=ZZ (Ym hp)
      have HK:=ZZ (Ym (Ztg HXX.out hp));clear hp
      go_wp2_with fail
      refine(Zaf x p _).mono ?_;rw[HP.out];rintro e w1 ⟨rfl,ho⟩;have HO:=ZZ (HX.out.trans ho);clear ho;go_wp2;go_ret;exact⟨Za (by rw[HK.out]),HO.out⟩
    · have HP:=ZZ (Yl hp)
      have HN:=ZZ hp;clear hp
      go_wp2_with fail
      refine(Zaf x p _).mono ?_;rw[HP.out];rintro e w1 ⟨rfl,ho⟩;have HO:=ZZ (HX.out.trans ho);clear ho;go_wp2
      go_roundw
      case rel=>
       refine⟨k+1,by omega,by go_num,fun j y hj hy=>?_,HO.out⟩;rcases Yq j k with h'|h'
       · exact hno.out j y h' hy
       · obtain rfl:j=k:=by omega
         rw[HXX.out] at hy;obtain rfl:=Yp hy;exact HN.out
      case measure=>simp[intOf];omega
  · obtain rfl:k=l.length:=by omega
    have HK:=ZZ (Yl (Zuu (l:=l) (p:=p) fun j x hj=>hno.out j x (Yk.1 hj).1 hj));clear hO;go_wp2;go_ret;exact⟨Za (by rw[HK.out]),HX.out⟩
theorem Zep (v:Value) (l:List Sp) (B:Nat) (w:World) (h:Sl w B 2 v l.length (spc l)) (hB:B≤w.heap.size):
 Calls Tryz.prog 149 #[v] w fun e w'=>e=.returned (.bool (decide (Z9 l)))∧Only nob w w':=by
 have HA:=ZZ h;obtain⟨A,ca,rfl,hac,ham, -⟩:=h;unfold maxLen at ham
 go_enter Tryz.func149,Tryz.ntmps149
 go_wp2_with fail
 go_loopw [3] (fun i wr=> ∃k:Nat,k≤l.length∧i=.int .i64 k∧Hid (∀(i:Nat) x,i<k→l[i]? =some x→x.ok∧ ∀(j:Nat) y,j<i→l[j]? =some y→ ¬Sp.meets x y)∧Only nob w wr) (fun i _=>l.length - (intOf i).toNat)
 case atStart=>exact⟨0,Yu _,rfl,fun j _ hj _=>absurd hj (Nat.not_lt_zero j),Only.refl _ _⟩
 case round=>
  obtain⟨k,hk,rfl,hall,hO⟩:=hrel;have HX:=ZZ hO;by_cases hlt:k<l.length
  · obtain⟨x,hx⟩: ∃x,l[k]? =some x:=⟨_,Ya hlt⟩
    obtain⟨b,o,rfl,hb,c0,c1⟩:=sl_span HA.out (hO.below hB fun _ h=>h.elim) hx;have HXX:=ZZ hx;clear hO hx;by_cases hp:x.ok
    · have HP:=ZZ (Ym hp)
      have HPP:=ZZ hp;clear hp
      go_wp2_with fail
      refine(Zk x _).mono ?_;rw[HP.out];rintro e w1 ⟨rfl,ho⟩;have HO:=ZZ (HX.out.trans ho);clear ho c0 c1
      obtain⟨wo,rfl⟩: ∃wo:World,wo=wr:=⟨_,rfl⟩
      go_wp2_with fail
      go_loopw [4] (fun i wr=> ∃j:Nat,j≤k∧i=.int .i64 j∧Hid (∀(q:Nat) y,q<j→l[q]? =some y→ ¬Sp.meets x y)∧Only nob w wr) (fun i _=>k - (intOf i).toNat)
      case atStart=>exact⟨0,Yu _,rfl,fun j _ hj _=>absurd hj (Nat.not_lt_zero j),HO.out⟩
      case round=>
       obtain⟨j,hj,rfl,hin,hO⟩:=hrel;have HY:=ZZ hO;by_cases hjl:j<k
       · obtain⟨y,hy⟩: ∃y,l[j]? =some y:=⟨_,Ya (by omega)⟩
         obtain⟨b1,o1,e1, -,c0,c1⟩:=sl_span HA.out (hO.below hB fun _ h=>h.elim) HXX.out
         obtain⟨rfl,rfl⟩:b1=b∧o1=o:=by simpa using e1.symm
         obtain⟨b2,o2,e2, -,d0,d1⟩:=sl_span HA.out (hO.below hB fun _ h=>h.elim) hy
         obtain⟨rfl,rfl⟩:b2=b1∧o2=o1:=by simpa using e2.symm
         have HYY:=ZZ hy
         have hj2:j<l.length:=by omega
         have HY2:=ZZ (hO.drewN 1);clear hO hy e1 e2
         go_wp2_with fail
         go_still_tail 8,(by kernel_rfl)
         change wpList _ _ _ _ _ wr.drew;generalize hwd:wr.drew=wd;have HO3:=ZZ (show Only nob w wd by rw[← hwd];exact HY2.out);clear hwd c0 c1 d0 d1;by_cases hm:Sp.meets x y
         · have HM:=ZZ (Ym hm)
           have HK:=ZZ (Yl (Zid HXX.out HYY.out hjl hm));clear hm
           go_wp2_with fail
           refine(Zer x y _).mono ?_;rw[HM.out];rintro e w2 ⟨rfl,ho⟩;have HO4:=ZZ (HO3.out.trans ho);clear ho;go_wp2;go_ret;exact⟨Za (by rw[HK.out]),HO4.out⟩
         · have HM:=ZZ (Yl hm)
           have HN:=ZZ hm;clear hm
           go_wp2_with fail
           refine(Zer x y _).mono ?_;rw[HM.out];rintro e w2 ⟨rfl,ho⟩;have HO4:=ZZ (HO3.out.trans ho);clear ho;go_wp2
           go_roundw
           case rel=>
            refine⟨j+1,by omega,by go_num,fun q z hq hz=>?_,HO4.out⟩;rcases Yq q j with h'|h'
            · exact hin.out q z h' hz
            · obtain rfl:q=j:=by omega
              rw[HYY.out] at hz;obtain rfl:=Yp hz;exact HN.out
           case measure=>simp[intOf];omega
       · obtain rfl:j=k:=by omega
         clear hO;go_wp2
         go_roundw
         case rel=>
          refine⟨j+1,by omega,by go_num,fun i z hi hz=>?_,HY.out⟩;rcases Yq i j with h'|h'
          · exact hall.out i z h' hz
          · obtain rfl:i=j:=by omega
            rw[HXX.out] at hz;obtain rfl:=Yp hz;exact⟨HPP.out,hin.out⟩
         case measure=>simp[intOf];omega
    · have HP:=ZZ (Yl hp)
      have HK:=ZZ (Yl (Zi7 HXX.out hp));clear hp
      go_wp2_with fail
      refine(Zk x _).mono ?_;rw[HP.out];rintro e w1 ⟨rfl,ho⟩;have HO:=ZZ (HX.out.trans ho);clear ho;go_wp2;go_ret;exact⟨Za (by rw[HK.out]),HO.out⟩
  · obtain rfl:k=l.length:=by omega
    have HK:=ZZ (Ym (Zo1 (l:=l) fun i x hi=>hall.out i x (Yk.1 hi).1 hi));clear hO;go_wp2;go_ret;exact⟨Za (by rw[HK.out]),HX.out⟩
theorem ZjT (v:Value) (l:List Sp) (B:Nat) (w:World) (h:Sl w B 2 v l.length (spc l)) (hB:B≤w.heap.size) (hl:l.length≤100000):
 Calls Tryz.prog 226 #[v] w fun e w'=> ∃v' L,e=.returned v'∧Zbe l l.length L∧w'.ownsRow w.heap.size 51 2 v' L.length (spc L)∧Only nob w w':=by
 obtain⟨i0,hi0,hz0,hz1,hz2⟩:=info_parts ZaN;have HA:=ZZ h;obtain⟨A,ca,rfl,hac,ham, -⟩:=h;unfold maxLen at ham
 go_enter Tryz.func226,Tryz.ntmps226
 go_wp2_with fail
 go_loopw [3,4] (fun s i wr=> ∃(k:Nat) (L:List Sp),k≤l.length∧i=.int .i64 k∧Zbe l k L∧wr.ownsRow w.heap.size 51 2 s L.length (spc L)∧Only nob w wr) (fun _ i _=>l.length - (intOf i).toNat)
 case atStart=>exact⟨0,[],Yu _,rfl,⟨List.Pairwise.nil,by simp⟩,World.ownsRow_nil _ _ _ _,Only.refl _ _⟩
 case round=>
  obtain⟨k,L,hk,rfl,hS,hown,hO⟩:=hrel;have HX:=ZZ hO;have HS:=ZZ hS;have HW:=ZZ hown;have hL:=HS.out.len hk
  have hLk:L.length≤k:=by omega
  obtain⟨A1,c1,rfl,hc1,hm1⟩:=Zi hown;unfold maxLen at hm1;clear hO hS hown;by_cases hlt:k<l.length
  · obtain⟨x,hx⟩: ∃x,l[k]? =some x:=⟨_,Ya hlt⟩
    obtain⟨b,o,rfl,hb,c0,c1'⟩:=sl_span HA.out (HX.out.below hB fun _ h=>h.elim) hx;have HXX:=ZZ hx;have HSL:=ZZ (Sl.of_own HW.out HW.out.1);have HL:=ZZ hL;clear hx hL
    obtain⟨wo,rfl⟩: ∃wo:World,wo=wr:=⟨_,rfl⟩
    go_upto_block 2 with fail
    go_cut [5] (fun s5 wx=> ∃(a m:Nat),a≤L.length∧s5=.int .i64 a∧Hid (∀(j:Nat) y,a≤j→L[j]? =some y→Sp.lt x y)∧Hid (a=0∨ ∃y,L[a - 1]? =some y∧ ¬Sp.lt x y)∧wx=wo.drewN m)
    case first=>
     go_wp2_with fail
     go_loopw [5] (fun i wr=> ∃(a m:Nat),a≤L.length∧i=.int .i64 a∧Hid (∀(j:Nat) y,a≤j→L[j]? =some y→Sp.lt x y)∧wr=wo.drewN m) (fun i _=>(intOf i).toNat)
     case atStart=>exact⟨L.length,0,Yj _,rfl,(fun j y hj hy=>by rw[List.getElem?_eq_none hj] at hy;cases hy),rfl⟩
     case round=>
      obtain⟨a,m,ha,rfl,hbig,rfl⟩:=hrel
      have hex:(Hid (a=0∨ ∃y,L[a - 1]? =some y∧ ¬Sp.lt x y)∧(decide (0<a)=false∨(0<a∧ ∃y:Sp,L[a - 1]? =some y∧(y.1<x.1∨x.1=y.1∧ ¬x.2<y.2))))∨
       (0<a∧ ∃y:Sp,L[a - 1]? =some y∧Hid (Sp.lt x y)∧(x.1<y.1∨x.1=y.1∧x.2<y.2)):=by
       rcases Nat.eq_zero_or_pos a with h0|hpos
       · exact .inl ⟨.inl h0,.inl (by simp;omega)⟩
       · have hy:L[a - 1]? =some L[a - 1]:=Ya (by omega)
         by_cases hlt:Sp.lt x L[a - 1]
         · exact .inr ⟨hpos,_,hy,hlt,hlt⟩
         · exact .inl ⟨.inr ⟨_,hy,hlt⟩,.inr ⟨hpos,_,hy,by unfold Sp.lt at hlt;omega⟩⟩
      rcases hex with⟨HE,hd|⟨hpos,y,hy,hd|⟨hd,hd2⟩⟩⟩|⟨hpos,y,hy,HLT,hd|⟨hd,hd2⟩⟩
      case' inl.inr.inl=>
       obtain⟨b2,o2,rfl, -,d0,d1⟩:=sl_span HSL.out (Below.refl _ _) hy
       have hd':decide (x.1<y.1)=false:=by simp;omega
       have hd3:(x.1==y.1)=false:=by simp;omega
       clear hd hy
      case' inl.inr.inr=>
       obtain⟨b2,o2,rfl, -,d0,d1⟩:=sl_span HSL.out (Below.refl _ _) hy
       have hd':decide (x.1<y.1)=false:=by simp;omega
       have hd3:(x.1==y.1)=true:=by simp;omega
       have hd4:decide (x.2<y.2)=false:=by simpa using hd2
       clear hd hd2 hy
      case' inr.inl=>
       obtain⟨b2,o2,rfl, -,d0,d1⟩:=sl_span HSL.out (Below.refl _ _) hy
       have hd':decide (x.1<y.1)=true:=by simpa using hd
       have HY:=ZZ hy;clear hd hy
      case' inr.inr=>
       obtain⟨b2,o2,rfl, -,d0,d1⟩:=sl_span HSL.out (Below.refl _ _) hy
       have hd':decide (x.1<y.1)=false:=by simp;omega
       have hd3:(x.1==y.1)=true:=by simp;omega
       have hd4:decide (x.2<y.2)=true:=by simpa using hd2
       have HY:=ZZ hy;clear hd hd2 hy
      case inr.inl=>
       go_wp2_with fail
       go_quiet (fail)
       go_wp2
       go_roundw
       case rel=>
        refine⟨a - 1,_,by omega,congrArg (Value.int .i64) (by omega),fun j z hj hz=>?_,rfl⟩;rcases Yq j a with h'|h'
        · obtain rfl:j=a - 1:=by omega
          rw[HY.out] at hz;obtain rfl:=Yp hz;exact HLT.out
        · exact hbig.out j z h' hz
       case measure=>simp[intOf];omega
      case inr.inr=>
       go_wp2_with fail
       go_quiet (fail)
       go_wp2
       go_roundw
       case rel=>
        refine⟨a - 1,_,by omega,congrArg (Value.int .i64) (by omega),fun j z hj hz=>?_,rfl⟩;rcases Yq j a with h'|h'
        · obtain rfl:j=a - 1:=by omega
          rw[HY.out] at hz;obtain rfl:=Yp hz;exact HLT.out
        · exact hbig.out j z h' hz
       case measure=>simp[intOf];omega
      all_goals
       go_wp2_with fail
       go_quiet (fail)
       go_wp2_with fail
       go_meet
       exact⟨a,_,ha,rfl,hbig,HE,World.drewN_drewN _ _ _⟩
    case rest=>
     obtain⟨a,m,ha,rfl,hbig,HE,rfl⟩:=hcut;have hcut1:=ZiZ Tryz.underlying25 hi0 A1 L.length c1 a (by omega);have hcut2:=ZfW Tryz.underlying25 hi0 A1 L.length c1 a ha;rw[hz1] at hcut1 hcut2;have HT:=ZZ (ZsY HSL.out ha);have HDR:=ZZ (Zs3 HSL.out ha);have HO0:=ZZ (HX.out.drewN m);have hsz:w.heap.size≤wo.heap.size:=HX.out.size
     go_wp2_with (with_reducible refine Zf (o:=⟨some 65,_,_,_,_,_⟩) _ rfl (.tmp 61) (.tmp 64) _ rfl wo.heap.size 51 i0 _ 2 16 Tryz.underlying25 hi0 hz0 hz1 hz2 rfl (by decide) (.slice (some ⟨wo.heap.size,0,none⟩) 0 0) 0 [] rfl ?c1 wo.heap.size (Zc1 A1 0 a c1 2) a (spc (L.take a)) rfl ?c6 (ZbF _) ?c2 ?c3 ?c4 ?c5)
     case c1=>exact Zdf (wo.drewN m) _ _
     case c6=>exact HT.out.below (((Only.refl nob wo).drewN m).alloc _).whole
     case c2=>unfold maxLen;omega
     case c3=>omega
     case c4=>simp
     case c5=>
      intro v1 w1 H1 o1 _;have HO1:=ZZ (HO0.out.trans (ZbA (w:=wo.drewN m) o1));have HB1:=ZZ (show Below wo.heap.size wo w1 from((Only.refl nob wo).drewN m).whole.trans (ZbA (w:=wo.drewN m) o1).whole);have HW1:=ZZ (show w1.ownsRow wo.heap.size 51 2 v1 a (spc (L.take a)) by simpa using H1.out);obtain⟨b3,o3,e3, -,d0,d1⟩:=sl_span HA.out (HO1.out.below hB fun _ h=>h.elim) HXX.out
      obtain⟨rfl,rfl⟩:b3=b∧o3=o:=by simpa using e3.symm
      obtain⟨A2,c2,rfl, -, -⟩:=Zi HW1.out;have hs1:wo.heap.size≤w1.heap.size:=HB1.out.size;clear H1 o1 e3
      go_wp2_with (with_reducible refine Zf (o:=⟨some 72,_,_,_,_,_⟩) _ rfl (.tmp 66) (.tmp 71) _ rfl wo.heap.size 51 i0 _ 2 16 Tryz.underlying25 hi0 hz0 hz1 hz2 rfl (by decide) (.slice A2 a c2) a (spc (L.take a)) rfl ?d1 (w1.heap.size+1) (.slice (some ⟨w1.heap.size,0,none⟩) 1 1) 1 (spc [x]) rfl ?d6 (ZbF _) ?d2 ?d3 ?d4 ?d5)
      case d1=>exact HW1.out.alloc _
      case d6=>
       have:=Sl.of_blk (size:=2) (n:=1) (c:=1) (Blk.new w1 51 #[.int .i64 x.1,.int .i64 x.2]) rfl (Yj _) (by decide)
       simpa[spc] using this
      case d2=>unfold maxLen;omega
      case d3=>omega
      case d4=>simp;omega
      case d5=>
       intro v2 w2 H2 o2 _;have hb2:=Zct (HW1.out.alloc (.cells #[.int .i64 x.1,.int .i64 x.2] 51)) o2 (by simp;omega);have HB2:=ZZ (show Below wo.heap.size wo w2 from(HB1.out.alloc hs1 _).trans hb2);have HO2:=ZZ (Zay (HO1.out.alloc _) (HW1.out.alloc (.cells #[.int .i64 x.1,.int .i64 x.2] 51)) o2 hsz);have HW2:=ZZ (show w2.ownsRow wo.heap.size 51 2 v2 (a+1) (spc (L.take a++[x])) by rw[ZaV];exact H2.out);obtain⟨A3,c3,rfl, -, -⟩:=Zi HW2.out;have hs2:wo.heap.size≤w2.heap.size:=HB2.out.size;clear H2 o2 hb2
       go_wp2_with (with_reducible refine Zf (o:=⟨some 77,_,_,_,_,_⟩) _ rfl (.tmp 73) (.tmp 76) _ rfl wo.heap.size 51 i0 _ 2 16 Tryz.underlying25 hi0 hz0 hz1 hz2 rfl (by decide) (.slice A3 (a+1) c3) (a+1) (spc (L.take a++[x])) rfl ?e1 wo.heap.size (Zc1 A1 a L.length c1 2) (L.length - a) (spc (L.drop a)) rfl ?e6 (ZbF _) ?e2 ?e3 ?e4 ?e5)
       case e1=>exact HW2.out
       case e6=>exact HDR.out.below HB2.out
       case e2=>unfold maxLen;omega
       case e3=>omega
       case e4=>exact hs2
       case e5=>
        intro v3 w3 H3 o3 _;have hb3:=Zct HW2.out o3 hs2;have HO3:=ZZ (Zay HO2.out HW2.out o3 hsz)
        have hlen:(L.take a++x::L.drop a).length=a+1+(L.length - a):=by simp;omega
        have HW3:=ZZ (show w3.ownsRow w.heap.size 51 2 v3 (L.take a++x::L.drop a).length (spc (L.take a++x::L.drop a)) by
         rw[hlen];have h3:=ZE (base':=w.heap.size) H3.out fun q hq=>Yi hsz (Zl H3.out hq).1;rw[← ZaV,List.append_assoc] at h3
         exact h3)
        have HS3:=ZZ (Zh8 HS.out HXX.out ha hbig.out HE.out);clear H3 o3 hb3 hlen;go_wp2
        go_roundw
        case rel=>exact⟨k+1,_,by omega,by go_num,HS3.out,HW3.out,HO3.out⟩
        case measure=>simp[intOf];omega
  · obtain rfl:k=l.length:=by omega
    go_wp2;go_ret;exact⟨_,L,rfl,HS.out,HW.out,HX.out⟩
theorem ZjC (v:Value) (L:List Sp) (x y:Int) (B:Nat) (w:World) (h:w.ownsRow B 51 2 v L.length (spc L)) (hB:B≤w.heap.size) (hn:L.length≤1000000) (hL: ∀z∈L,Sp.ok z) (hx:0≤x∧x≤1099511627776) (hy:0≤y∧y≤1099511627776):
 Calls Tryz.prog 197 #[v,.int .i64 x,.int .i64 y] w fun e w'=> ∃v',e=.returned v'∧w'.ownsRow B 51 2 v' (Zj7 L x y).length (spc (Zj7 L x y))∧Only (fun k=>v.ownBlock=some k) w w':=by
 obtain⟨i0,hi0,hz0,hz1,hz2⟩:=info_parts ZaN
 rcases Zgl L with rfl|⟨p,z,rfl⟩
 · have HW:=ZZ h
   obtain⟨A,c,rfl,hc,hm⟩:=Zi h;unfold maxLen at hm;have hd:decide (0<0)=false:=rfl;clear h hd
   go_enter Tryz.func197,Tryz.ntmps197
   go_wp2_with fail
   go_quiet (fail)
   go_wp2_with (with_reducible refine Zf (o:=⟨some 50,_,_,_,_,_⟩) _ rfl (.tmp 43) (.tmp 49) _ rfl B 51 i0 _ 2 16 Tryz.underlying25 hi0 hz0 hz1 hz2 rfl (by decide) (.slice A 0 c) 0 [] rfl ?c1 (w.heap.size+1) (.slice (some ⟨w.heap.size,0,none⟩) 1 1) 1 (spc [(x,y - x)]) rfl ?c6 (ZbF _) ?c2 ?c3 ?c4 ?c5)
   case c1=>exact(HW.out:w.ownsRow B _ 2 _ 0 []).alloc _
   case c6=>
    have:=Sl.of_blk (size:=2) (n:=1) (c:=1) (Blk.new (w.drewN nq) 51 #[.int .i64 x,.int .i64 (y - x)]) rfl (Yj _) (by decide)
    simpa[spc] using this
   case c2=>unfold maxLen;omega
   case c3=>omega
   case c4=>simp;omega
   case c5=>
    intro v1 w1 H1 o1 _;have HO:=ZZ ((((Only.refl (fun k=>(Value.slice A 0 c).ownBlock=some k) w).drewN nq).alloc _).trans o1);have HW1:=ZZ (show w1.ownsRow B 51 2 v1 (Zj7 [] x y).length (spc (Zj7 [] x y)) from H1.out);clear H1 o1;go_wp2;go_ret;exact⟨_,rfl,HW1.out,HO.out⟩
 · have HW:=ZZ h
   have hz:=hL z (by simp)
   have hzb:0≤z.1∧z.1≤1099511627776∧1≤z.2∧z.2≤1099511627776:=by unfold Sp.ok most at hz;omega
   have hlen:(p++[z]).length=p.length+1:=by simp
   have HLEN:=ZZ hlen;obtain⟨g,c,rfl,hc,hm,hg⟩:=ZhG h (by omega);unfold maxLen at hm;obtain⟨q0,q1⟩:=ZkF (l:=p++[z]) (k:=p.length) (x:=z) (by simp);have d0:w.cell? ⟨g,p.length * 2,none⟩=some (.int .i64 z.1):=(h.cellAt _ (by omega)).trans q0;have d1:w.cell? ⟨g,p.length * 2+1,none⟩=some (.int .i64 z.2):=(h.cellAt _ (by omega)).trans q1;have f1:=h.frozenAt (p.length * 2+1);have hst:=h.stored (p.length * 2+1) (.int .i64 (y - z.1));rw[ZqN p z (z.1,y - z.1) rfl] at hst;have HST:=ZZ hst
   obtain⟨n,hn1⟩: ∃n,n=(p++[z]).length:=⟨_,rfl⟩
   have hn0:0<n:=by omega
   have hnp:n - 1=p.length:=by omega
   rw[← hn1] at HW HST hc hn ⊢;rw[← hnp] at d0 d1 f1 HST;have HNP:=ZZ hnp;have HN1:=ZZ hn1
   have hdn:decide (0<n)=true:=by simpa using hn0
   clear h hst q0 q1 hL hz hlen hn1 hnp;by_cases hj:z.1+z.2=x
   · have hj':(z.1+z.2==x)=true:=by simpa using hj
     have HP:=ZZ (Zh9 p z x y hj);clear hj
     go_enter Tryz.func197,Tryz.ntmps197
     go_wp2_with fail
     go_quiet (fail)
     go_wp2;go_ret;refine⟨_,rfl,?_,?_⟩
     · rw[HP.out,show(p++[(z.1,y - z.1)]).length=n by rw[HN1.out];simp]
       exact ZaO HST.out.1 rfl
     · exact((Only.refl (fun k=>(Value.slice (some (⟨g,0,none⟩:Addr)) n c).ownBlock=some k) w).drewN nq).setCell (p:=⟨g,(n - 1) * 2+1,none⟩) (fun _=>show some g=some g from rfl) _
   · have hj':(z.1+z.2==x)=false:=by simpa using hj
     have HP:=ZZ (Zh6 p z x y hj);clear hj
     go_enter Tryz.func197,Tryz.ntmps197
     go_wp2_with fail
     go_quiet (fail)
     go_wp2_with (with_reducible refine Zf (o:=⟨some 50,_,_,_,_,_⟩) _ rfl (.tmp 43) (.tmp 49) _ rfl B 51 i0 _ 2 16 Tryz.underlying25 hi0 hz0 hz1 hz2 rfl (by decide) (.slice (some ⟨g,0,none⟩) n c) n (spc (p++[z])) rfl ?d1 (w.heap.size+1) (.slice (some ⟨w.heap.size,0,none⟩) 1 1) 1 (spc [(x,y - x)]) rfl ?d6 (ZbF _) ?d2 ?d3 ?d4 ?d5)
     case d1=>exact HW.out.alloc _
     case d6=>
      have:=Sl.of_blk (size:=2) (n:=1) (c:=1) (Blk.new (w.drewN nq) 51 #[.int .i64 x,.int .i64 (y - x)]) rfl (Yj _) (by decide)
      simpa[spc] using this
     case d2=>unfold maxLen;omega
     case d3=>omega
     case d4=>simp;omega
     case d5=>
      intro v1 w1 H1 o1 _;have HO:=ZZ ((((Only.refl (fun k=>(Value.slice (some (⟨g,0,none⟩:Addr)) n c).ownBlock=some k) w).drewN nq).alloc _).trans o1)
      have HW1:=ZZ (show w1.ownsRow B 51 2 v1 (Zj7 (p++[z]) x y).length (spc (Zj7 (p++[z]) x y)) by
       rw[HP.out,ZaV,Ys, ← HN1.out]
       exact H1.out)
      clear H1 o1;go_wp2;go_ret;exact⟨_,rfl,HW1.out,HO.out⟩
def marks:List Sp→List Sp
 |[]=>[]
 |x::l=>(if x.ok then[(x.1,0),(x.1+x.2,0)] else[])++marks l
theorem Zez (l m:List Sp):marks (l++m)=marks l++marks m:=by
 induction l with
 |nil=>rfl
 |cons x l ih=>simp only[List.cons_append,marks,ih,List.append_assoc]
theorem Zi3 (l:List Sp):(marks l).length≤2 * l.length:=by
 induction l with
 |nil=>simp[marks]
 |cons x l ih=>
  simp only[marks,Ys,List.length_cons]
  split <;> simp <;> omega
theorem Zo4 (l:List Sp) (p:Int):(∃y∈marks l,y.1=p)↔ ∃x∈l,Sp.ok x∧(p=x.1∨p=x.1+x.2):=by
 induction l with
 |nil=>simp[marks]
 |cons x l ih=>
  simp only[marks,Yr,or_and_right,exists_or,ih,List.mem_cons,exists_eq_left];refine or_congr ?_ Iff.rfl;by_cases hx:x.ok
  · simp[hx,eq_comm]
  · simp[hx]
theorem Zn7 {l:List Sp} {k:Nat} {x:Sp} (h:l[k]? =some x) (hx:x.ok):marks (l.take (k+1))=marks (l.take k)++[(x.1,0),(x.1+x.2,0)]:=by
 rw[Zt h,Zez];simp[marks,hx]
theorem Zma {l:List Sp} {k:Nat} {x:Sp} (h:l[k]? =some x) (hx: ¬x.ok):marks (l.take (k+1))=marks (l.take k):=by
 rw[Zt h,Zez];simp[marks,hx]
def ZgH (L:List Sp) (i:Nat) (E:List Int):Prop:=Zfn E∧(∀v,v∈E↔ ∃y∈L.take i,y.1=v)∧E.length≤i
theorem Zkh {L:List Sp} {i:Nat} {E:List Int} {y:Sp} (h:ZgH L i E) (hs:Zbc L) (hy:L[i]? =some y) (hn:i=0∨ ∃z,L[i - 1]? =some z∧y.1≠z.1):ZgH L (i+1) (E++[y.1]):=by
 obtain⟨h1,h2,h3⟩:=h;refine⟨?_,fun v=>?_,by simp;omega⟩
 · unfold Zfn
   rw[List.pairwise_append];refine⟨h1,List.pairwise_singleton _ _,fun a ha b hb=>?_⟩;obtain rfl:=Yt.1 hb;obtain⟨q,hq,rfl⟩:=(h2 a).1 ha;obtain⟨j,hj,rfl⟩:=List.getElem_of_mem hq;simp only[List.length_take] at hj;rw[List.getElem_take];obtain⟨hi,rfl⟩:=Yk.1 hy
   rcases hn with rfl|⟨z,hz,hne⟩
   · omega
   · obtain⟨hi1,rfl⟩:=Yk.1 hz
     have ha1:Sp.le (L[j]'(by omega)) (L[i-1]'hi1):=by
      rcases Yq j (i - 1) with hlt|hge
      · exact List.pairwise_iff_getElem.1 hs j (i - 1) _ _ hlt
      · obtain rfl:j=i - 1:=by omega
        unfold Sp.le;omega
     have ha2:Sp.le (L[i-1]'hi1) (L[i]'hi):=List.pairwise_iff_getElem.1 hs (i - 1) i _ _ (by omega);unfold Sp.le at ha1 ha2;omega
 · rw[Zt hy,Yr,Yt,h2]
   simp only[Yr,Yt,or_and_right,exists_or,exists_eq_left];exact or_congr Iff.rfl eq_comm
theorem Zkt {L:List Sp} {i:Nat} {E:List Int} {y z:Sp} (h:ZgH L i E) (hy:L[i]? =some y) (hi:0<i) (hz:L[i - 1]? =some z) (he:y.1=z.1):ZgH L (i+1) E:=by
 obtain⟨h1,h2,h3⟩:=h;refine⟨h1,fun v=>?_,by omega⟩;rw[h2,Zt hy];simp only[Yr,Yt,or_and_right,exists_or,exists_eq_left];constructor
 · exact .inl
 · rintro(h|rfl)
   · exact h
   · refine⟨z,?_,he.symm⟩
     obtain⟨hz1,rfl⟩:=Yk.1 hz;rw[List.mem_take_iff_getElem];exact⟨i - 1,by omega,rfl⟩
def Zdb (l:List Sp) (E:List Int):Prop:=Zfn E∧(∀v,v∈E↔ ∃x∈l,Sp.ok x∧(v=x.1∨v=x.1+x.2))∧E.length≤2 * l.length
theorem ZsJ {l L:List Sp} {E:List Int} (hL:Zbe (marks l) (marks l).length L) (h:ZgH L L.length E):Zdb l E:=by
 have hm:=Zi3 l;have hlen:=hL.len (Yj _);have hp:=hL.2;rw[List.take_length] at hp;refine⟨h.1,fun v=>?_,by have:=h.2.2;omega⟩;rw[h.2.1,List.take_length, ← Zo4];exact⟨fun ⟨y,hy,e⟩=>⟨y,hp.mem_iff.1 hy,e⟩,fun ⟨y,hy,e⟩=>⟨y,hp.mem_iff.2 hy,e⟩⟩
theorem Zjf (v:Value) (l:List Sp) (B:Nat) (w:World) (h:Sl w B 2 v l.length (spc l)) (hB:B≤w.heap.size) (hl:l.length≤40000):
 Calls Tryz.prog 195 #[v] w fun e w'=> ∃v' E,e=.returned v'∧Zdb l E∧w'.ownsRow w.heap.size 3 1 v' E.length (i64s E)∧Only nob w w':=by
 obtain⟨i0,hi0,hz0,hz1,hz2⟩:=info_parts ZaN;obtain⟨j0,hj0,hy0,hy1,hy2⟩:=info_parts ZaM;have HA:=ZZ h;obtain⟨A,ca,rfl,hac,ham, -⟩:=h;unfold maxLen at ham
 go_enter Tryz.func195,Tryz.ntmps195
 go_wp2_with fail
 go_loopw [3,4] (fun s i wr=> ∃(k:Nat),k≤l.length∧i=.int .i64 k∧wr.ownsRow w.heap.size 51 2 s (marks (l.take k)).length (spc (marks (l.take k)))∧Only nob w wr) (fun _ i _=>l.length - (intOf i).toNat)
 case atStart=>exact⟨0,Yu _,rfl,World.ownsRow_nil _ _ _ _,Only.refl _ _⟩
 case round=>
  obtain⟨k,hk,rfl,hown,hO⟩:=hrel;have HX:=ZZ hO;have HW:=ZZ hown;obtain⟨A1,c1,rfl,hc1,hm1⟩:=Zi hown;unfold maxLen at hm1;have hml:(marks (l.take k)).length≤2 * k:=Yi (Zi3 _) (by simp;omega)
  obtain⟨M,hM⟩: ∃M,M=marks (l.take k):=⟨_,rfl⟩
  rw[← hM] at HW hc1 hml ⊢;have HM:=ZZ hM;clear hO hown hM;by_cases hlt:k<l.length
  · obtain⟨x,hx⟩: ∃x,l[k]? =some x:=⟨_,Ya hlt⟩
    obtain⟨b,o,rfl,hb,c0,c1'⟩:=sl_span HA.out (HX.out.below hB fun _ h=>h.elim) hx;have HXX:=ZZ hx;clear hx;by_cases hp:x.ok
    · have HP:=ZZ (Ym hp)
      have hxb:0≤x.1∧x.1≤1099511627776∧1≤x.2∧x.2≤1099511627776:=by unfold Sp.ok most at hp;omega
      have HE:=ZZ (Zn7 HXX.out hp);clear hp
      go_wp2_with fail
      refine(Zk x _).mono ?_;rw[HP.out];rintro e w1 ⟨rfl,ho⟩;have HO:=ZZ (HX.out.trans ho);have HW1:=ZZ (Zb HW.out ho fun _ _=>id);obtain⟨b3,o3,e3, -,d0,d1⟩:=sl_span HA.out (HO.out.below hB fun _ h=>h.elim) HXX.out
      obtain⟨rfl,rfl⟩:b3=b∧o3=o:=by simpa using e3.symm
      clear ho c0 c1' e3
      go_wp2_with fail
      have hsum:IntKind.i64.wrap (x.1+x.2)=x.1+x.2:=IntWalk.i64_in _ (by omega)
      have hi1:(0:Int)≤(k:Int):=by omega
      have hi2:(k:Int)<(l.length:Int):=by omega
      have hsl: ∀w':World,w'.heap=(w1.alloc (.cells #[.int .i64 x.1,.int .i64 0,.int .i64 (x.1+x.2),.int .i64 0] 51)).heap→Sl w' (w1.heap.size+1) 2 (.slice (some ⟨w1.heap.size,0,none⟩) 2 2) 2 (spc [(x.1,0),(x.1+x.2,0)]):=by
       intro w' e
       have:=Sl.of_blk (size:=2) (n:=2) (c:=2) (Blk.new w1 51 #[.int .i64 x.1,.int .i64 0,.int .i64 (x.1+x.2),.int .i64 0]) rfl (Yj _) (by decide)
       exact Sl.heap (by simpa[spc] using this) e
      have HSL:=ZZ hsl
      have hfar: ∀w' w3:World,w'.heap=(w1.alloc (.cells #[.int .i64 x.1,.int .i64 0,.int .i64 (x.1+x.2),.int .i64 0] 51)).heap→Only (fun k=>(Value.slice A1 M.length c1).ownBlock=some k) w' w3→
       w3.cell? ⟨b3,o3+k * 2,none⟩=some (.int .i64 x.1)∧w3.cell? ⟨b3,o3+k * 2+1,none⟩=some (.int .i64 x.2):=by
       intro w' w3 e q
       have hlt:b3<w1.heap.size:=by have:=HO.out.size;omega
       have hk': ∀j,w'.cell? ⟨b3,j,none⟩=w1.cell? ⟨b3,j,none⟩:=fun j=>by
        rw[show w'.cell? ⟨b3,j,none⟩=(w1.alloc (.cells #[.int .i64 x.1,.int .i64 0,.int .i64 (x.1+x.2),.int .i64 0] 51)).cell? ⟨b3,j,none⟩ by simp only[World.cell?,e]];exact World.cell?_alloc_lt _ _ _ hlt
       have hf: ∀j,w3.cell? ⟨b3,j,none⟩=w1.cell? ⟨b3,j,none⟩:=fun j=>(q.cell (p:=⟨b3,j,none⟩) (by show b3<w'.heap.size;rw[e];simp;omega) (fun he=>by have h1:w.heap.size≤b3:=(Zl HW1.out he).1;omega)).trans (hk' j);exact⟨(hf _).trans d0,(hf _).trans d1⟩
      have HFAR:=ZZ hfar;clear hsl hfar
      go_region_held3 (fun w'=>w'.cell? ⟨b3,o3+k * 2,none⟩=some (.int .i64 x.1)∧w'.cell? ⟨b3,o3+k * 2+1,none⟩=some (.int .i64 x.2)) (first|go_keep|exact HFAR.out _ _ (by rfl) q3)
       ((refine ZX _ (by rfl) _ _ _ (by rfl) w.heap.size 51 i0 _ 2 16 Tryz.underlying25 hi0 hz0 hz1 hz2 (by rfl) (by decide) (.slice A1 M.length c1) M.length (spc M) (by rfl) (ZaO (HW1.out.alloc (.cells #[.int .i64 x.1,.int .i64 0,.int .i64 (x.1+x.2),.int .i64 0] 51)) rfl) (w1.heap.size+1) (.slice (some ⟨w1.heap.size,0,none⟩) 2 2) 2 (spc [(x.1,0),(x.1+x.2,0)]) (by rfl) (HSL.out _ rfl) (ZbF _) (by unfold maxLen;omega) (by omega) (by simp;have:=HO.out.size;omega) ?_;intro v3 w3 H3 q3 _))
      have HO3:=ZZ (Zay ((HO.out.alloc (.cells #[.int .i64 x.1,.int .i64 0,.int .i64 (x.1+x.2),.int .i64 0] 51)).drewN 1) (ZaO (HW1.out.alloc (.cells #[.int .i64 x.1,.int .i64 0,.int .i64 (x.1+x.2),.int .i64 0] 51)) rfl) q3 (Yj _))
      have HW3:=ZZ (show w3.ownsRow w.heap.size 51 2 v3 (marks (l.take (k+1))).length (spc (marks (l.take (k+1)))) by
       rw[HE.out, ← HM.out,ZaV,Ys]
       exact H3.out)
      clear H3 q3;go_wp2
      go_roundw
      case rel=>exact⟨k+1,by omega,by go_num,HW3.out,HO3.out⟩
      case measure=>simp[intOf];omega
    · have HP:=ZZ (Yl hp)
      have HE:=ZZ (Zma HXX.out hp);clear hp
      go_wp2_with fail
      refine(Zk x _).mono ?_;rw[HP.out];rintro e w1 ⟨rfl,ho⟩;have HO:=ZZ (HX.out.trans ho);have HW1:=ZZ (Zb HW.out ho fun _ _=>id);clear ho;go_wp2
      go_roundw
      case rel=>exact⟨k+1,by omega,by go_num,by rw[HE.out, ← HM.out];exact HW1.out,HO.out⟩
      case measure=>simp[intOf];omega
  · obtain rfl:k=l.length:=by omega
    have HMM:=ZZ (show M=marks l by rw[HM.out,List.take_length]);have HSL:=ZZ (Sl.of_own HW.out HW.out.1)
    obtain⟨wo,rfl⟩: ∃wo:World,wo=wr:=⟨_,rfl⟩
    go_wp2_with fail
    go_at_call 226;refine(ZjT _ M _ _ HSL.out (Yj _) (by omega)).mono ?_;rintro e w1 ⟨v1,L,rfl,hS,hW,ho⟩;have HS:=ZZ hS
    have hLn:L.length≤80000:=by have:=hS.len (Yj _);omega
    have HW1:=ZZ hW;have HSL1:=ZZ (Sl.of_own hW hW.1);have HO1:=ZZ (HX.out.trans ho);obtain⟨A2,c2,rfl,hc2,hm2⟩:=Zi hW;unfold maxLen at hm2;clear hS hW ho
    go_wp2_with fail
    go_loopw [5,6] (fun s i wr=> ∃(k:Nat) (E:List Int),k≤L.length∧i=.int .i64 k∧ZgH L k E∧wr.ownsRow w1.heap.size 3 1 s E.length (i64s E)∧Only nob w1 wr) (fun _ i _=>L.length - (intOf i).toNat)
    case atStart=>exact⟨0,[],Yu _,rfl,⟨List.Pairwise.nil,by simp,Yj _⟩,World.ownsRow_nil _ _ _ _,Only.refl _ _⟩
    case round=>
     obtain⟨i,E,hi,rfl,hE,hown,hO⟩:=hrel;have HY:=ZZ hO;have HE:=ZZ hE;have HWE:=ZZ hown;have hEl:=hE.2.2;obtain⟨A3,c3,rfl,hc3,hm3⟩:=Zi hown;unfold maxLen at hm3;clear hO hE hown;by_cases hlt:i<L.length
     · obtain⟨y,hy⟩: ∃y,L[i]? =some y:=⟨_,Ya hlt⟩
       obtain⟨b,o,rfl,hb,d0,d1⟩:=sl_span HSL1.out (HY.out.whole) hy;have HYY:=ZZ hy;clear hy
       go_upto_region 12 with fail
       go_cut [62] (fun s wx=> ∃(f:Bool) (m:Nat),s=.bool f∧wx=wr.drewN m∧(f=true→Hid (i=0∨ ∃z:Sp,L[i - 1]? =some z∧y.1≠z.1))∧(f=false→Hid (0<i∧ ∃z:Sp,L[i - 1]? =some z∧y.1=z.1)))
       case first=>
        rcases Nat.eq_zero_or_pos i with h0|hpos
        · have hd:(i==0)=true:=by simpa using h0
          go_quiet (fail)
          go_wp2_with fail
          go_meet
          exact⟨true,_,rfl,rfl,fun _=>.inl h0,fun h=>by cases h⟩
        · have hd:(i==0)=false:=by simp;omega
          obtain⟨z,hz⟩: ∃z,L[i - 1]? =some z:=⟨_,Ya (by omega)⟩
          obtain⟨b4,o4,e4, -,g0,g1⟩:=sl_span HSL1.out (HY.out.whole) hz
          obtain⟨rfl,rfl⟩:b4=b∧o4=o:=by simpa using e4.symm
          have HZ:=ZZ hz
          have hdi:((i:Int)==0)=false:=by simp;omega
          have q1:(0:Int)≤(i:Int) - 1:=by omega
          have q2:(i:Int) - 1<(L.length:Int):=by omega
          have q3:IntKind.i64.wrap ((i:Int) - 1)=(i:Int) - 1:=IntWalk.i64_in _ (by omega)
          have q4:((i:Int) - 1).toNat=i - 1:=by omega
          clear hz e4 d1 g1;by_cases he:y.1=z.1
          · have he1:(y.1==z.1)=true:=by simpa using he
            have he2:(y.1 !=z.1)=false:=by simpa using he
            have HEQ:=ZZ he;clear he
            go_quiet (fail)
            go_wp2_with fail
            go_meet
            exact⟨false,_,rfl,rfl,(fun h=>by cases h),fun _=>⟨hpos,z,HZ.out,HEQ.out⟩⟩
          · have he1:(y.1==z.1)=false:=by simpa using he
            have he2:(y.1 !=z.1)=true:=by simpa using he
            have HEQ:=ZZ he;clear he
            go_quiet (fail)
            go_wp2_with fail
            go_meet
            exact⟨true,_,rfl,rfl,(fun _=>.inr ⟨z,HZ.out,HEQ.out⟩),fun h=>by cases h⟩
       case rest=>
        obtain⟨f,m,rfl,rfl,h1,h2⟩:=hcut
        cases f
        · have HN:=h2 rfl
          have HP2:=ZZ (let ⟨hp,z,hz,he⟩:=HN.out;Zkt HE.out HYY.out hp hz he);clear h1 h2 d0 d1;go_wp2
          go_roundw
          case rel=>exact⟨i+1,E,by omega,by go_num,HP2.out,ZaO HWE.out rfl,HY.out.drewN m⟩
          case measure=>simp[intOf];omega
        · have HN:=h1 rfl
          have HP2:=ZZ (Zkh HE.out HS.out.1 HYY.out HN.out);have hs1:w1.heap.size≤wr.heap.size:=HY.out.size;clear h1 h2 d1
          go_wp2_with (with_reducible refine Zf (o:=⟨some 70,_,_,_,_,_⟩) _ rfl (.tmp 63) (.tmp 69) _ rfl w1.heap.size 3 j0 _ 1 8 Tryz.underlying35 hj0 hy0 hy1 hy2 rfl (by decide) (.slice A3 E.length c3) E.length (i64s E) rfl ?d1 (wr.heap.size+1) (.slice (some ⟨wr.heap.size,0,none⟩) 1 1) 1 (i64s [y.1]) rfl ?d6 (ZcY _) ?d2 ?d3 ?d4 ?d5)
          case d1=>exact ZaO (HWE.out.alloc (.cells #[.int .i64 y.1] 3)) rfl
          case d6=>
           have:=Sl.of_blk (size:=1) (n:=1) (c:=1) (Blk.new wr 3 #[.int .i64 y.1]) rfl (Yj _) (by decide)
           have h2:Sl (wr.alloc (.cells #[.int .i64 y.1] 3)) (wr.heap.size+1) 1 (.slice (some ⟨wr.heap.size,0,none⟩) 1 1) 1 (i64s [y.1]):=by simpa[i64s] using this
           exact h2.heap rfl
          case d2=>unfold maxLen;omega
          case d3=>omega
          case d4=>simp;omega
          case d5=>
           intro v3 w3 H3 o3 _;have HO3:=ZZ (Zay ((HY.out.drewN m).alloc (.cells #[.int .i64 y.1] 3)) (ZaO (HWE.out.alloc (.cells #[.int .i64 y.1] 3)) rfl) o3 (Yj _))
           have HW3:=ZZ (show w3.ownsRow w1.heap.size 3 1 v3 (E++[y.1]).length (i64s (E++[y.1])) by
            rw[Znc,Ys]
            exact H3.out)
           clear H3 o3;go_wp2
           go_roundw
           case rel=>exact⟨i+1,E++[y.1],by omega,by go_num,HP2.out,HW3.out,HO3.out⟩
           case measure=>simp[intOf];omega
     · obtain rfl:i=L.length:=by omega
       have HF:=ZZ (ZsJ (l:=l) (L:=L) (E:=E) (by rw[← HMM.out];exact HS.out) HE.out);go_wp2;go_ret;exact⟨_,E,rfl,HF.out,ZE HWE.out (fun q hq=>Yi HO1.out.size (Zl HWE.out hq).1),HO1.out.trans HY.out⟩
theorem ZcT {l:List Sp} {E:List Int} (h:Zdb l E) {i:Nat} {v:Int} (hv:E[i]? =some v):0≤v∧v≤most:=by
 obtain⟨x,_,hx,rfl|rfl⟩:=(h.2.1 v).1 (Yo hv)
 · unfold Sp.ok most at *;omega
 · unfold Sp.ok most at *;omega
theorem ZfO {E:List Int} (h:Zfn E) {i:Nat} {a b:Int} (ha:E[i]? =some a) (hb:E[i+1]? =some b):a<b:=by
 obtain⟨h1,rfl⟩:=Yk.1 ha;obtain⟨h2,rfl⟩:=Yk.1 hb;exact List.pairwise_iff_getElem.1 h i (i+1) h1 h2 (by omega)
theorem ZgM {E:List Int} (h:Zfn E) {i:Nat} {a b v:Int} (ha:E[i]? =some a) (hb:E[i+1]? =some b) (hv:v∈E):v≤a∨b≤v:=by
 obtain⟨h1,rfl⟩:=Yk.1 ha;obtain⟨h2,rfl⟩:=Yk.1 hb;obtain⟨j,hj,rfl⟩:=List.getElem_of_mem hv;have hp:=List.pairwise_iff_getElem.1 h;rcases Nat.lt_trichotomy j i with hlt|rfl|hgt
 · have:=hp j i hj h1 hlt;omega
 · exact .inl (Int.le_refl _)
 · rcases Yq (i+1) j with hlt|hge
   · have:=hp (i+1) j h2 hj hlt;omega
   · obtain rfl:j=i+1:=by omega
     exact .inr (Int.le_refl _)
theorem Zeg {l:List Sp} {E:List Int} (h:Zdb l E) {i:Nat} {a b p:Int} (ha:E[i]? =some a) (hb:E[i+1]? =some b) (hp:a≤p) (hq:p<b) {x:Sp} (hx:x∈l):x.has p↔x.has a:=by
 have hlt:=ZfO h.1 ha hb;constructor
 · rintro⟨h1,h2,h3⟩
   have g1:=ZgM h.1 ha hb ((h.2.1 x.1).2 ⟨x,hx,h1,.inl rfl⟩);exact⟨h1,by omega,by omega⟩
 · rintro⟨h1,h2,h3⟩
   have g1:=ZgM h.1 ha hb ((h.2.1 (x.1+x.2)).2 ⟨x,hx,h1,.inr rfl⟩);exact⟨h1,by omega,by omega⟩
theorem Zig {E:List Int} (h:Zfn E) {e v:Int} (he:E[0]? =some e) (hv:v∈E):e≤v:=by
 obtain⟨h1,rfl⟩:=Yk.1 he;obtain⟨j,hj,rfl⟩:=List.getElem_of_mem hv;rcases Nat.eq_zero_or_pos j with rfl|hp
 · exact Int.le_refl _
 · have:=List.pairwise_iff_getElem.1 h 0 j h1 hj hp;omega
theorem ZjN {E:List Int} (h:Zfn E) {i:Nat} {e v:Int} (he:E[i]? =some e) (hi:E.length≤i+1) (hv:v∈E):v≤e:=by
 obtain⟨h1,rfl⟩:=Yk.1 he;obtain⟨j,hj,rfl⟩:=List.getElem_of_mem hv;rcases Yq j i with hlt|hge
 · have:=List.pairwise_iff_getElem.1 h j i hj h1 hlt;omega
 · obtain rfl:j=i:=by omega
   exact Int.le_refl _
def ZiW (Q:Int→Prop) (E:List Int) (i:Nat) (O:List Sp):Prop:=((E=[]∧O=[])∨ ∃e,E[i]? =some e∧ZtF Q e O)∧O.length≤i
theorem Zqh {l:List Sp} {E:List Int} {Q:Int→Prop} (h:Zdb l E) (hQ: ∀p,Q p→cov l p):ZiW Q E 0 []:=by
 refine⟨?_,Yj _⟩
 rcases E with _|⟨e,E⟩
 · exact .inl ⟨rfl,rfl⟩
 · refine .inr ⟨e,rfl,Joined.nil,fun p=>⟨fun hc=>absurd hc (ZbH p),fun ⟨h1,h2⟩=>?_⟩,fun _ h=>by cases h⟩
   obtain⟨x,hx,hp⟩:=hQ p h1
   have:=Zig h.1 rfl ((h.2.1 x.1).2 ⟨x,hx,hp.1,.inl rfl⟩)
   have:=hp.2.1
   omega
theorem ZpZ (O:List Sp) (a b:Int):(Zj7 O a b).length≤O.length+1:=by
 rcases Zgl O with rfl|⟨p,z,rfl⟩
 · simp[Zq0]
 · by_cases h:z.1+z.2=a
   · rw[Zh9 p z a b h];simp
   · rw[Zh6 p z a b h];simp
theorem ZtV {l:List Sp} {E:List Int} {Q:Int→Prop} (h:Zdb l E) {i:Nat} {O:List Sp} {a b:Int} (hO:ZiW Q E i O) (ha:E[i]? =some a) (hb:E[i+1]? =some b) (hq: ∀p,a≤p→p<b→Q p):ZiW Q E (i+1) (Zj7 O a b):=by
 have ra:=ZcT h ha;have rb:=ZcT h hb;rcases hO with⟨⟨rfl,_⟩|⟨e,he,hL⟩,hlen⟩
 · cases ha
 · rw[ha] at he
   obtain rfl:=Yp he;exact⟨.inr ⟨b,hb,Zq6 hL (ZfO h.1 ha hb) ra.1 rb.2 hq⟩,by have:=ZpZ O a b;omega⟩
theorem Zs8 {l:List Sp} {E:List Int} {Q:Int→Prop} (h:Zdb l E) {i:Nat} {O:List Sp} {a b:Int} (hO:ZiW Q E i O) (ha:E[i]? =some a) (hb:E[i+1]? =some b) (hq: ∀p,a≤p→p<b→ ¬Q p):ZiW Q E (i+1) O:=by
 rcases hO with⟨⟨rfl,_⟩|⟨e,he,hL⟩,hlen⟩
 · cases ha
 · rw[ha] at he
   obtain rfl:=Yp he;exact⟨.inr ⟨b,hb,ZoA hL (ZfO h.1 ha hb) hq⟩,by omega⟩
theorem ZsP {l:List Sp} {E:List Int} {Q:Int→Prop} (h:Zdb l E) (hQ: ∀p,Q p→cov l p) {i:Nat} {O:List Sp} (hO:ZiW Q E i O) (hi:E.length≤i+1):Joined O∧ ∀p,cov O p↔Q p:=by
 rcases hO with⟨⟨rfl,rfl⟩|⟨e,he,hL⟩,_⟩
 · refine⟨Joined.nil,fun p=>⟨fun hc=>absurd hc (ZbH p),fun h1=>?_⟩⟩
   obtain⟨x,hx,hp⟩:=hQ p h1
   have:=(h.2.1 x.1).2 ⟨x,hx,hp.1,.inl rfl⟩
   cases this
 · refine⟨hL.1,fun p=>(hL.2.1 p).trans ⟨fun h=>h.1,fun h1=>⟨h1,?_⟩⟩⟩
   obtain⟨x,hx,hp⟩:=hQ p h1
   have:=ZjN h.1 he hi ((h.2.1 (x.1+x.2)).2 ⟨x,hx,hp.1,.inr rfl⟩)
   have:=hp.2.2
   omega
theorem ZuY {Q:Int→Prop} {E:List Int} {i:Nat} {O:List Sp} (h:ZiW Q E i O): ∀z∈O,Sp.ok z:=by
 rcases h with⟨⟨_,rfl⟩|⟨e,_,hL⟩,_⟩
 · intro z hz;cases hz
 · exact hL.1.1
theorem Zno {l:List Sp} {E:List Int} (h:Zdb l E) {i:Nat} {a b p:Int} (ha:E[i]? =some a) (hb:E[i+1]? =some b) (hp:a≤p) (hq:p<b) {m:List Sp} (hm: ∀x∈m,x∈l):cov m p↔cov m a:=
 ⟨fun ⟨x,hx,hh⟩=>⟨x,hx,(Zeg h ha hb hp hq (hm x hx)).1 hh⟩,fun ⟨x,hx,hh⟩=>⟨x,hx,(Zeg h ha hb hp hq (hm x hx)).2 hh⟩⟩
theorem Zkn {w w':World} {B c k:Nat} {A:Option Addr} {E:List Int} {z:Int} (h:Sl w B 1 (.slice A E.length c) E.length (i64s E)) (hb:Below B w w') (hz:E[k]? =some z):
 ∃g o,A=some ⟨g,o,none⟩∧g<B∧w'.cell? ⟨g,o+k,none⟩=some (.int .i64 z):=by
 have hk:k<E.length:=(Yk.1 hz).1;obtain⟨b,o,c',e,_,_,hlt,hc⟩:=(h.below hb).at_ (by omega)
 obtain⟨rfl,rfl⟩:A=some ⟨b,o,none⟩∧c=c':=by simpa using e
 exact⟨b,o,rfl,hlt,hc _ _ (Zd8 hz)⟩
attribute [local go_sem ↓] Go.wp_at_zero Go.wp_at_succ
def free (x:Sp) (l:List Sp) (p:Int):Prop:=x.has p∧ ¬cov l p
theorem ZgC {x:Sp} {l:List Sp} {E:List Int} (h:Zdb (x::l) E) {i:Nat} {a b p:Int} (ha:E[i]? =some a) (hb:E[i+1]? =some b) (hp:a≤p) (hq:p<b):free x l p↔free x l a:=by
 unfold free;rw[Zeg h ha hb hp hq List.mem_cons_self,Zno h ha hb hp hq (m:=l) fun y hy=>List.mem_cons_of_mem _ hy]
theorem ZjB (x:Sp) (v:Value) (l:List Sp) (B:Nat) (w:World) (h:Sl w B 2 v l.length (spc l)) (hB:B≤w.heap.size) (hl:l.length≤30000):
 Calls Tryz.prog 151 #[.agg #[.int .i64 x.1,.int .i64 x.2],v] w fun e w'=> ∃v' O,e=.returned v'∧Joined O∧(∀p,cov O p↔free x l p)∧w'.ownsRow w.heap.size 51 2 v' O.length (spc O)∧Only nob w w':=by
 obtain⟨i0,hi0,hz0,hz1,hz2⟩:=info_parts ZaN;have HA:=ZZ h;obtain⟨A,ca,rfl,hac,ham, -⟩:=h;unfold maxLen at ham
 go_enter Tryz.func151,Tryz.ntmps151
 go_wp2_with (with_reducible refine Zf (o:=⟨some 11,_,_,_,_,_⟩) _ rfl (.tmp 9) (.tmp 10) _ rfl w.heap.size 51 i0 _ 2 16 Tryz.underlying25 hi0 hz0 hz1 hz2 rfl (by decide) (.slice (some ⟨w.heap.size+1,0,none⟩) 1 1) 1 (spc [x]) rfl ?c1 B (.slice A l.length ca) l.length (spc l) rfl ?c6 (ZbF _) ?c2 ?c3 ?c4 ?c5)
 case c1=>
  have hb:Blk ((w.alloc (.cells #[.int .i64 x.1,.int .i64 x.2] 51)).alloc (.cells #[.int .i64 x.1,.int .i64 x.2] 51)) (w.heap.size+1) 51 #[.int .i64 x.1,.int .i64 x.2]:=Blk.newAt _ _ _ _ (by simp)
  have:=ZmD (base:=w.heap.size) (size:=2) (n:=1) hb (by omega) rfl (by decide)
  simpa[spc] using this
 case c6=>exact HA.out.below ((((Below.refl _ w).alloc hB _)).alloc (by simp;omega) _)
 case c2=>unfold maxLen;omega
 case c3=>omega
 case c4=>simp;omega
 case c5=>
  intro v1 w1 H1 o1 _;have O1:=ZZ (show Only nob w w1 from(((Only.refl nob w).alloc _).alloc _).andThen o1 fun i hi e=>by simp[Value.ownBlock] at e;omega);have hx1:Blk w1 w.heap.size 51 #[.int .i64 x.1,.int .i64 x.2]:=((Blk.new w _ _).alloc _).keep o1 (fun e=>by simp[Value.ownBlock] at e);have HX1:=ZZ hx1
  have HSL:=ZZ (show Sl w1 w1.heap.size 2 v1 (x::l).length (spc (x::l)) by
   have:=Sl.of_own H1.out H1.out.1
   rw[← ZaV] at this
   simpa[Nat.add_comm] using this)
  have hs1:w.heap.size≤w1.heap.size:=O1.out.size;clear H1 o1 hx1
  go_wp2_with fail
  go_at_call 195;refine(Zjf _ (x::l) _ _ HSL.out (Yj _) (by simp;omega)).mono ?_;rintro e w2 ⟨v2,E,rfl,hE,hW,ho⟩;have HE:=ZZ hE
  have hEl:E.length≤80000:=by have:=hE.2.2;simp at this;omega
  have HSE:=ZZ (Sl.of_own hW hW.1);have O2:=ZZ (O1.out.trans ho);have hs2:w.heap.size≤w2.heap.size:=O2.out.size
  have hs3:w.heap.size<w2.heap.size:=by have:=HX1.out.lt;have:=ho.size;omega
  have HX2:=ZZ (HX1.out.keep ho id);obtain⟨A2,c2,rfl,hc2,hm2⟩:=Zi hW;unfold maxLen at hm2;clear hE hW ho
  go_wp2_with fail
  go_loopw [6,7] (fun s i wr=> ∃(k:Nat) (O:List Sp),i=.int .i64 k∧k≤E.length∧ZiW (free x l) E k O∧wr.ownsRow w2.heap.size 51 2 s O.length (spc O)∧Only nob w2 wr) (fun _ i _=>E.length - (intOf i).toNat)
  case atStart=>exact⟨0,[],rfl,Yu _,Zqh HE.out (fun p hp=>Zau.2 (.inl hp.1)),World.ownsRow_nil _ _ _ _,Only.refl _ _⟩
  case round=>
   obtain⟨k,O,rfl,hk,hAt,hown,hO⟩:=hrel;have HAt:=ZZ hAt;have HW:=ZZ hown;have HO:=ZZ hO;have hOl:=hAt.2;clear hAt hown hO;obtain⟨A3,c3,rfl, -, -⟩:=Zi HW.out;by_cases hlt:k+1<E.length
   · obtain⟨a,ha⟩: ∃a,E[k]? =some a:=⟨_,Ya (by omega)⟩
     obtain⟨b,hb⟩: ∃b,E[k+1]? =some b:=⟨_,Ya hlt⟩
     obtain⟨g,q,rfl,hg,c0⟩:=Zkn HSE.out HO.out.whole ha;have hx2:=HX2.out.keep HO.out id;have x0:=hx2.cell 0;have x1:=hx2.cell 1;simp at x0 x1;have HAA:=ZZ ha;have HBB:=ZZ hb;have ra:=ZcT HE.out ha;have rb:=ZcT HE.out hb
     have hk1:k<E.length:=by omega
     unfold most at ra rb
     have hwr:w.heap.size<wr.heap.size:=by have:=HO.out.size;omega
     have hgr:g<wr.heap.size:=by have:=HO.out.size;omega
     clear ha hb hx2;have HCall:=ZZ (fun (p:Int) (w':World) (ho:Only nob wr w')=>Zgd _ l p B w' (HA.out.below (((O2.out.trans HO.out).trans ho).below hB fun _ h=>h.elim)) (Yi hB (Yi hs2 (Yi HO.out.size ho.size))))
     go_upto_region 6 with fail
     go_cut [34] (fun s wx=> ∃f:Bool,s=.bool f∧Only nob wr wx∧(f=true→Hid (free x l a))∧(f=false→Hid (¬free x l a)))
     case first=>
      by_cases hh:x.has a
      · have HH:=ZZ (Ym hh)
        have HHH:=ZZ hh;by_cases hc:cov l a
        case' pos=>have HC:=ZZ (Ym hc)
        case' neg=>have HC:=ZZ (Yl hc)
        all_goals
         have HCC:=ZZ hc;clear hh hc
         go_region_held3 (fun w'=>w'.cell? ⟨w.heap.size,0,none⟩=some (.int .i64 x.1)∧w'.cell? ⟨w.heap.size,1,none⟩=some (.int .i64 x.2)∧w'.cell? ⟨g,q+k,none⟩=some (.int .i64 a)) (first|go_keep|exact⟨(o5.old _ _ hwr).trans x0,(o5.old _ _ hwr).trans x1,(o5.old _ _ hgr).trans c0⟩|exact⟨(o6.old _ _ (Yw hwr o5.size)).trans ((o5.old _ _ hwr).trans x0),(o6.old _ _ (Yw hwr o5.size)).trans ((o5.old _ _ hwr).trans x1),(o6.old _ _ (Yw hgr o5.size)).trans ((o5.old _ _ hgr).trans c0)⟩)
          (first
            |(go_at_call 193;refine(Zaf x a _).mono ?_;rw[HH.out];rintro e w5 ⟨rfl,o5⟩)
            |(go_at_call 196;refine(HCall.out a _ ?_).mono ?_;exact o5.drewL;rw[HC.out];rintro e w6 ⟨rfl,o6⟩))
         go_wp2_with fail
         go_meet
         first
         |exact⟨false,rfl,o5.drewL.trans o6,(fun h=>by cases h),fun _ hf=>hf.2 HCC.out⟩
         |exact⟨true,rfl,o5.drewL.trans o6,(fun _=>⟨HHH.out,HCC.out⟩),fun h=>by cases h⟩
      · have HH:=ZZ (Yl hh)
        have HHH:=ZZ hh;clear hh
        first
        |go_region_with (go_at_call 193;refine(Zaf x a _).mono ?_;rw[HH.out];rintro e w5 ⟨rfl,o5⟩)
        |fail
        all_goals
         go_wp2_with fail
         go_meet
         exact⟨false,rfl,o5.drewL,(fun h=>by cases h),fun _ hf=>HHH.out hf.1⟩
     case rest=>
      obtain⟨f,rfl,o5,h1,h2⟩:=hcut;have HO5:=ZZ (HO.out.trans o5);have HW5:=ZZ (Zb HW.out o5 fun _ _=>id)
      cases f
      · have HN:=h2 rfl
        have HQ:=ZZ (Zs8 HE.out HAt.out HAA.out HBB.out fun p g1 g2 hf=>HN.out ((ZgC HE.out HAA.out HBB.out g1 g2).1 hf));clear h1 h2 o5 c0 x0 x1;go_wp2
        go_roundw
        case rel=>exact⟨k+1,O,by go_num,by omega,HQ.out,HW5.out,HO5.out⟩
        case measure=>simp[intOf];omega
      · have HN:=h1 rfl
        have HQ:=ZZ (ZtV HE.out HAt.out HAA.out HBB.out fun p g1 g2=>(ZgC HE.out HAA.out HBB.out g1 g2).2 HN.out);obtain⟨g1,q1,e1, -,d0⟩:=Zkn HSE.out HO5.out.whole HAA.out
        obtain⟨rfl,rfl⟩:g1=g∧q1=q:=by simpa using e1.symm
        obtain⟨g2,q2,e2, -,d1⟩:=Zkn HSE.out HO5.out.whole HBB.out
        obtain⟨rfl,rfl⟩:g2=g1∧q2=q1:=by simpa using e2.symm
        have s1:IntKind.i64.wrap ((k:Int)+1)=(k:Int)+1:=IntWalk.i64_in _ (by omega)
        have s2:(0:Int)≤(k:Int)+1:=by omega
        have s3:(k:Int)+1<(E.length:Int):=by omega
        have s4:((k:Int)+1).toNat=k+1:=by omega
        clear h1 h2 o5 c0 x0 x1 e1 e2
        go_wp2_with fail
        go_still_tail 10,(by kernel_rfl)
        change wpList _ _ _ _ _ wc.drew;generalize hwd:wc.drew=w3;have HO3:=ZZ (show Only nob w2 w3 by rw[← hwd];exact HO5.out.drewN 1);have HW3:=ZZ (show w3.ownsRow w2.heap.size 51 2 (.slice A3 O.length c3) O.length (spc O) by rw[← hwd];exact ZaO HW5.out rfl);clear hwd d0 d1 s1 s2 s3 s4
        go_wp2_with fail
        go_at_call 197;refine(ZjC _ O a b w2.heap.size _ HW3.out HO3.out.size (by omega) (ZuY HAt.out) ra rb).mono ?_;rintro e w4 ⟨v4,rfl,hW4,o4⟩;have HW4:=ZZ hW4;have HO4:=ZZ (Zay HO3.out HW3.out o4 (Yj _));clear hW4 o4;go_wp2
        go_roundw
        case rel=>exact⟨k+1,_,by go_num,by omega,HQ.out,HW4.out,HO4.out⟩
        case measure=>simp[intOf];omega
   · have HF:=ZZ (ZsP HE.out (fun p hp=>Zau.2 (.inl hp.1)) HAt.out (by omega))
     go_wp2;go_ret;exact⟨_,O,rfl,HF.out.1,HF.out.2,ZE HW.out (fun q hq=>Yi hs2 (Zl HW.out hq).1),O2.out.trans HO.out⟩
end Go.Proofs.YteieocddfnlmdaaGreatDoor
