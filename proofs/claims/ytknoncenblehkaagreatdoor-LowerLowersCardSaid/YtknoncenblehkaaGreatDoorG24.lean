/- The document's own answer whether two heaps are the same. -/
import Derived.Test.YtknoncenblehkaaGreatDoorG21
set_option maxRecDepth 100000
set_option maxHeartbeats 32000000
set_option linter.unusedSimpArgs false
set_option linter.unusedVariables false
namespace Go.Proofs.YtknoncenblehkaaGreatDoor
section
open Go.RowKit
theorem Zo7 {s t:St} (h1:s.cf.semi=t.cf.semi∧s.cf.large=t.cf.large∧s.cf.slots=t.cf.slots∧s.cf.limit=t.cf.limit) (h2:s.sec=t.sec) (h3:s.top=t.top) (h4:s.ws=t.ws) (h5:s.tb=t.tb) (h6:s.fr=t.fr) (h7:s.sl=t.sl):s=t:=by
 obtain⟨⟨a,b,c,d⟩,e,f,g,h,i,j⟩:=s;obtain⟨⟨a',b',c',d'⟩,e',f',g',h',i',j'⟩:=t;simp only at h1 h2 h3 h4 h5 h6 h7;obtain⟨rfl,rfl,rfl,rfl⟩:=h1;subst h2 h3 h4 h5 h6 h7;rfl
def Zor (a b:Cf):Bool:=decide (a.semi=b.semi∧a.large=b.large∧a.slots=b.slots∧a.limit=b.limit)
theorem Zp4 (a b:Cf) (w:World):(Op.equalIn 10000 23 (.agg #[.int .i64 a.semi,.int .i64 a.large,.int .i64 a.slots,.int .i64 a.limit]) (.agg #[.int .i64 b.semi,.int .i64 b.large,.int .i64 b.slots,.int .i64 b.limit])).run Tryz.prog w=.ok (Zor a b) w:=by
 have hS:Tryz.prog.underlying 23=some (.struct (Tryz.prog.fieldsOf 23)):=by kernel_rfl
 rw[show(10000:Nat)=9999+1 from rfl,run_equalIn_agg w 9999 23 _ _ hS (by kernel_rfl)];simp only[Program.fieldsOf,Tryz.underlying23];go_simp;unfold Zor
 by_cases h1:a.semi=b.semi <;> by_cases h2:a.large=b.large <;> by_cases h3:a.slots=b.slots <;> by_cases h4:a.limit=b.limit <;> simp[h1,h2,h3,h4]
theorem ZnS:Zpy 12:=by
 intro s t vw vt vf vs uw ut uf us B B' w hs ht hB hB';have HRS:=ZZ hs;have HRT:=ZZ ht;obtain⟨W,hW,HA1⟩:=Za3 w s vw vt vf vs;obtain⟨W2,hW2,HA2⟩:=Za3 W t uw ut uf us;have HWB:=ZZ (show(w.alloc (.cells #[.int .i64 s.cf.semi,.int .i64 s.cf.large,.int .i64 s.cf.slots,.int .i64 s.cf.limit,.bool s.sec,vw,.int .i64 s.top,vt,vf,vs] 34)).alloc (.cells #[.int .i64 t.cf.semi,.int .i64 t.cf.large,.int .i64 t.cf.slots,.int .i64 t.cf.limit,.bool t.sec,uw,.int .i64 t.top,ut,uf,us] 34)=W2 by rw[hW,hW2]);have HB:=ZZ (And.intro (HA1.out.1.trans HA2.out.1) True.intro)
 have hz:W.heap.size=w.heap.size+1:=by rw[← hW];simp
 have XA0:=ZZ (HA1.out.2.2.keep HA2.out.1);have XB0:=ZZ HA2.out.2.2;rw[hz] at XB0;have HWS:=ZZ (show ∀W',Only nob W2 W'→Calls Tryz.prog 34 #[vw,uw] W' fun e w'=>e=.returned (.bool (decide (s.ws=t.ws)))∧Only nob W' w' from fun W' o=>Zpg vw uw s.ws t.ws B B' W' (HRS.out.words.below ((HB.out.1.trans o).below hB fun _ h=>h.elim)) (HRT.out.words.below ((HB.out.1.trans o).below hB' fun _ h=>h.elim)));have HTS:=ZZ (show ∀W',Only nob W2 W'→Calls Tryz.prog 35 #[vt,ut] W' fun e w'=>e=.returned (.bool (decide (s.tb=t.tb)))∧Only nob W' w' from fun W' o=>Zd5 vt ut s.tb t.tb B B' W' (HRS.out.tab.below ((HB.out.1.trans o).below hB fun _ h=>h.elim)) (HRT.out.tab.below ((HB.out.1.trans o).below hB' fun _ h=>h.elim)));have HFS:=ZZ (show ∀W',Only nob W2 W'→Calls Tryz.prog 35 #[vf,uf] W' fun e w'=>e=.returned (.bool (decide (s.fr=t.fr)))∧Only nob W' w' from fun W' o=>Zd5 vf uf s.fr t.fr B B' W' (HRS.out.free.below ((HB.out.1.trans o).below hB fun _ h=>h.elim)) (HRT.out.free.below ((HB.out.1.trans o).below hB' fun _ h=>h.elim)));have HSS:=ZZ (show ∀W',Only nob W2 W'→Calls Tryz.prog 36 #[vs,us] W' fun e w'=>e=.returned (.bool (decide (s.sl=t.sl)))∧Only nob W' w' from fun W' o=>ZnN vs us s.sl t.sl B B' W' (HRS.out.slots.below ((HB.out.1.trans o).below hB fun _ h=>h.elim)) (HRT.out.slots.below ((HB.out.1.trans o).below hB' fun _ h=>h.elim)));have heq:=Zp4 s.cf t.cf
 obtain⟨q,hq⟩: ∃q,q=ZiX s t:=⟨_,rfl⟩
 have HNE:=ZZ (show ¬s=t→q=false from fun h=>hq.trans (ZlS h));have HEQ:=ZZ (show s=t→q=true from fun h=>hq.trans (ZfR h));rw[← hq];obtain⟨c0,c1,c2,c3,c4,c5,c6,c7,c8,c9⟩:=XA0.out;obtain⟨d0,d1,d2,d3,d4,d5,d6,d7,d8,d9⟩:=XB0.out;clear hs ht hW hW2 hz hq;by_cases h1:Zor s.cf t.cf=true
 case neg=>
  have HF:=ZZ (HNE.out fun e=>by rw[e] at h1;exact h1 (by unfold Zor;simp));rw[show Zor s.cf t.cf=false by simpa using h1] at heq;clear h1
  go_enter Tryz.func12,Tryz.ntmps12
  go_upto_region 1 with fail
  rw[HWB.out];go_wp2;go_ret;exact⟨Za (by rw[HF.out]),HB.out.1⟩
 case pos=>
  by_cases h2:s.sec=t.sec
  case neg=>
   have HF:=ZZ (HNE.out fun e=>h2 (by rw[e]));rw[h1] at heq
   have b2:(s.sec !=t.sec)=true:=by simpa using h2
   clear h1
   go_enter Tryz.func12,Tryz.ntmps12
   go_upto_region 1 with fail
   rw[HWB.out];go_wp2;go_ret;exact⟨Za (by rw[HF.out]),HB.out.1⟩
  case pos=>
   by_cases h3:s.top=t.top
   case neg=>
    have HF:=ZZ (HNE.out fun e=>h3 (by rw[e]));rw[h1] at heq
    have b2:(s.sec !=t.sec)=false:=by simpa using h2
    have b3:(s.top !=t.top)=true:=by simpa using h3
    clear h1 h3;rw[h2] at HWB
    go_enter Tryz.func12,Tryz.ntmps12
    go_upto_region 1 with fail
    rw[HWB.out];go_wp2;go_ret;exact⟨Za (by rw[HF.out]),HB.out.1⟩
   case pos=>
    by_cases h4:s.ws=t.ws
    case neg=>
     have HF:=ZZ (HNE.out fun e=>h4 (by rw[e]));rw[h1] at heq
     have b2:(s.sec !=t.sec)=false:=by simpa using h2
     have b3:(s.top !=t.top)=false:=by simpa using h3
     rw[Yk h4] at HWS;clear h1 h3 h4;rw[h2] at HWB
     go_enter Tryz.func12,Tryz.ntmps12
     go_upto_region 1 with fail
     rw[HWB.out]
     go_wp2_with fail
     go_at_call 34;refine(HWS.out _ (Only.refl _ _)).mono ?_;rintro e w3 ⟨rfl,o⟩;have O3:=ZZ ((show Hid (Only nob W2 W2) from ZZ (Only.refl _ _)).out.trans o);have XA3:=ZZ (XA0.out.keep o);have XB3:=ZZ (XB0.out.keep o);clear c0 c1 c2 c3 c4 c5 c6 c7 c8 c9 d0 d1 d2 d3 d4 d5 d6 d7 d8 d9;clear o;obtain⟨c0,c1,c2,c3,c4,c5,c6,c7,c8,c9⟩:=XA3.out;obtain⟨d0,d1,d2,d3,d4,d5,d6,d7,d8,d9⟩:=XB3.out;clear c0 c1 c2 c3 c4 c5 c6 c7 c8 c9 d0 d1 d2 d3 d4 d5 d6 d7 d8 d9;go_wp2;go_ret;exact⟨Za (by rw[HF.out]),HB.out.1.trans O3.out⟩
    case pos=>
     by_cases h5:s.tb=t.tb
     case neg=>
      have HF:=ZZ (HNE.out fun e=>h5 (by rw[e]));rw[h1] at heq
      have b2:(s.sec !=t.sec)=false:=by simpa using h2
      have b3:(s.top !=t.top)=false:=by simpa using h3
      rw[Yl h4] at HWS;rw[Yk h5] at HTS;clear h1 h3 h4 h5;rw[h2] at HWB
      go_enter Tryz.func12,Tryz.ntmps12
      go_upto_region 1 with fail
      rw[HWB.out]
      go_wp2_with fail
      go_at_call 34;refine(HWS.out _ (Only.refl _ _)).mono ?_;rintro e w3 ⟨rfl,o⟩;have O3:=ZZ ((show Hid (Only nob W2 W2) from ZZ (Only.refl _ _)).out.trans o);have XA3:=ZZ (XA0.out.keep o);have XB3:=ZZ (XB0.out.keep o);clear c0 c1 c2 c3 c4 c5 c6 c7 c8 c9 d0 d1 d2 d3 d4 d5 d6 d7 d8 d9;clear o;obtain⟨c0,c1,c2,c3,c4,c5,c6,c7,c8,c9⟩:=XA3.out;obtain⟨d0,d1,d2,d3,d4,d5,d6,d7,d8,d9⟩:=XB3.out
      go_wp2_with fail
      go_at_call 35;refine(HTS.out _ O3.out).mono ?_;rintro e w4 ⟨rfl,o⟩;have O4:=ZZ (O3.out.trans o);have XA4:=ZZ (XA3.out.keep o);have XB4:=ZZ (XB3.out.keep o);clear c0 c1 c2 c3 c4 c5 c6 c7 c8 c9 d0 d1 d2 d3 d4 d5 d6 d7 d8 d9;clear o;obtain⟨c0,c1,c2,c3,c4,c5,c6,c7,c8,c9⟩:=XA4.out;obtain⟨d0,d1,d2,d3,d4,d5,d6,d7,d8,d9⟩:=XB4.out;clear c0 c1 c2 c3 c4 c5 c6 c7 c8 c9 d0 d1 d2 d3 d4 d5 d6 d7 d8 d9;go_wp2;go_ret;exact⟨Za (by rw[HF.out]),HB.out.1.trans O4.out⟩
     case pos=>
      by_cases h6:s.fr=t.fr
      case neg=>
       have HF:=ZZ (HNE.out fun e=>h6 (by rw[e]));rw[h1] at heq
       have b2:(s.sec !=t.sec)=false:=by simpa using h2
       have b3:(s.top !=t.top)=false:=by simpa using h3
       rw[Yl h4] at HWS;rw[Yl h5] at HTS;rw[Yk h6] at HFS;clear h1 h3 h4 h5 h6;rw[h2] at HWB
       go_enter Tryz.func12,Tryz.ntmps12
       go_upto_region 1 with fail
       rw[HWB.out]
       go_wp2_with fail
       go_at_call 34;refine(HWS.out _ (Only.refl _ _)).mono ?_;rintro e w3 ⟨rfl,o⟩;have O3:=ZZ ((show Hid (Only nob W2 W2) from ZZ (Only.refl _ _)).out.trans o);have XA3:=ZZ (XA0.out.keep o);have XB3:=ZZ (XB0.out.keep o);clear c0 c1 c2 c3 c4 c5 c6 c7 c8 c9 d0 d1 d2 d3 d4 d5 d6 d7 d8 d9;clear o;obtain⟨c0,c1,c2,c3,c4,c5,c6,c7,c8,c9⟩:=XA3.out;obtain⟨d0,d1,d2,d3,d4,d5,d6,d7,d8,d9⟩:=XB3.out
       go_wp2_with fail
       go_at_call 35;refine(HTS.out _ O3.out).mono ?_;rintro e w4 ⟨rfl,o⟩;have O4:=ZZ (O3.out.trans o);have XA4:=ZZ (XA3.out.keep o);have XB4:=ZZ (XB3.out.keep o);clear c0 c1 c2 c3 c4 c5 c6 c7 c8 c9 d0 d1 d2 d3 d4 d5 d6 d7 d8 d9;clear o;obtain⟨c0,c1,c2,c3,c4,c5,c6,c7,c8,c9⟩:=XA4.out;obtain⟨d0,d1,d2,d3,d4,d5,d6,d7,d8,d9⟩:=XB4.out
       go_wp2_with fail
       go_at_call 35;refine(HFS.out _ O4.out).mono ?_;rintro e w5 ⟨rfl,o⟩;have O5:=ZZ (O4.out.trans o);have XA5:=ZZ (XA4.out.keep o);have XB5:=ZZ (XB4.out.keep o);clear c0 c1 c2 c3 c4 c5 c6 c7 c8 c9 d0 d1 d2 d3 d4 d5 d6 d7 d8 d9;clear o;obtain⟨c0,c1,c2,c3,c4,c5,c6,c7,c8,c9⟩:=XA5.out;obtain⟨d0,d1,d2,d3,d4,d5,d6,d7,d8,d9⟩:=XB5.out;clear c0 c1 c2 c3 c4 c5 c6 c7 c8 c9 d0 d1 d2 d3 d4 d5 d6 d7 d8 d9;go_wp2;go_ret;exact⟨Za (by rw[HF.out]),HB.out.1.trans O5.out⟩
      case pos=>
       by_cases h7:s.sl=t.sl
       case neg=>
        have HF:=ZZ (HNE.out fun e=>h7 (by rw[e]));rw[h1] at heq
        have b2:(s.sec !=t.sec)=false:=by simpa using h2
        have b3:(s.top !=t.top)=false:=by simpa using h3
        rw[Yl h4] at HWS;rw[Yl h5] at HTS;rw[Yl h6] at HFS;rw[Yk h7] at HSS;clear h1 h3 h4 h5 h6 h7;rw[h2] at HWB
        go_enter Tryz.func12,Tryz.ntmps12
        go_upto_region 1 with fail
        rw[HWB.out]
        go_wp2_with fail
        go_at_call 34;refine(HWS.out _ (Only.refl _ _)).mono ?_;rintro e w3 ⟨rfl,o⟩;have O3:=ZZ ((show Hid (Only nob W2 W2) from ZZ (Only.refl _ _)).out.trans o);have XA3:=ZZ (XA0.out.keep o);have XB3:=ZZ (XB0.out.keep o);clear c0 c1 c2 c3 c4 c5 c6 c7 c8 c9 d0 d1 d2 d3 d4 d5 d6 d7 d8 d9;clear o;obtain⟨c0,c1,c2,c3,c4,c5,c6,c7,c8,c9⟩:=XA3.out;obtain⟨d0,d1,d2,d3,d4,d5,d6,d7,d8,d9⟩:=XB3.out
        go_wp2_with fail
        go_at_call 35;refine(HTS.out _ O3.out).mono ?_;rintro e w4 ⟨rfl,o⟩;have O4:=ZZ (O3.out.trans o);have XA4:=ZZ (XA3.out.keep o);have XB4:=ZZ (XB3.out.keep o);clear c0 c1 c2 c3 c4 c5 c6 c7 c8 c9 d0 d1 d2 d3 d4 d5 d6 d7 d8 d9;clear o;obtain⟨c0,c1,c2,c3,c4,c5,c6,c7,c8,c9⟩:=XA4.out;obtain⟨d0,d1,d2,d3,d4,d5,d6,d7,d8,d9⟩:=XB4.out
        go_wp2_with fail
        go_at_call 35;refine(HFS.out _ O4.out).mono ?_;rintro e w5 ⟨rfl,o⟩;have O5:=ZZ (O4.out.trans o);have XA5:=ZZ (XA4.out.keep o);have XB5:=ZZ (XB4.out.keep o);clear c0 c1 c2 c3 c4 c5 c6 c7 c8 c9 d0 d1 d2 d3 d4 d5 d6 d7 d8 d9;clear o;obtain⟨c0,c1,c2,c3,c4,c5,c6,c7,c8,c9⟩:=XA5.out;obtain⟨d0,d1,d2,d3,d4,d5,d6,d7,d8,d9⟩:=XB5.out
        go_wp2_with fail
        go_at_call 36;refine(HSS.out _ O5.out).mono ?_;rintro e w6 ⟨rfl,o⟩;have O6:=ZZ (O5.out.trans o);have XA6:=ZZ (XA5.out.keep o);have XB6:=ZZ (XB5.out.keep o);clear c0 c1 c2 c3 c4 c5 c6 c7 c8 c9 d0 d1 d2 d3 d4 d5 d6 d7 d8 d9;clear o;obtain⟨c0,c1,c2,c3,c4,c5,c6,c7,c8,c9⟩:=XA6.out;obtain⟨d0,d1,d2,d3,d4,d5,d6,d7,d8,d9⟩:=XB6.out;clear c0 c1 c2 c3 c4 c5 c6 c7 c8 c9 d0 d1 d2 d3 d4 d5 d6 d7 d8 d9;go_wp2;go_ret;exact⟨Za (by rw[HF.out]),HB.out.1.trans O6.out⟩
       case pos=>
        have HF:=ZZ (HEQ.out (Zo7 (of_decide_eq_true h1) h2 h3 h4 h5 h6 h7));rw[h1] at heq
        have b2:(s.sec !=t.sec)=false:=by simpa using h2
        have b3:(s.top !=t.top)=false:=by simpa using h3
        rw[Yl h4] at HWS;rw[Yl h5] at HTS;rw[Yl h6] at HFS;rw[Yl h7] at HSS;clear h1 h3 h4 h5 h6 h7;rw[h2] at HWB
        go_enter Tryz.func12,Tryz.ntmps12
        go_upto_region 1 with fail
        rw[HWB.out]
        go_wp2_with fail
        go_at_call 34;refine(HWS.out _ (Only.refl _ _)).mono ?_;rintro e w3 ⟨rfl,o⟩;have O3:=ZZ ((show Hid (Only nob W2 W2) from ZZ (Only.refl _ _)).out.trans o);have XA3:=ZZ (XA0.out.keep o);have XB3:=ZZ (XB0.out.keep o);clear c0 c1 c2 c3 c4 c5 c6 c7 c8 c9 d0 d1 d2 d3 d4 d5 d6 d7 d8 d9;clear o;obtain⟨c0,c1,c2,c3,c4,c5,c6,c7,c8,c9⟩:=XA3.out;obtain⟨d0,d1,d2,d3,d4,d5,d6,d7,d8,d9⟩:=XB3.out
        go_wp2_with fail
        go_at_call 35;refine(HTS.out _ O3.out).mono ?_;rintro e w4 ⟨rfl,o⟩;have O4:=ZZ (O3.out.trans o);have XA4:=ZZ (XA3.out.keep o);have XB4:=ZZ (XB3.out.keep o);clear c0 c1 c2 c3 c4 c5 c6 c7 c8 c9 d0 d1 d2 d3 d4 d5 d6 d7 d8 d9;clear o;obtain⟨c0,c1,c2,c3,c4,c5,c6,c7,c8,c9⟩:=XA4.out;obtain⟨d0,d1,d2,d3,d4,d5,d6,d7,d8,d9⟩:=XB4.out
        go_wp2_with fail
        go_at_call 35;refine(HFS.out _ O4.out).mono ?_;rintro e w5 ⟨rfl,o⟩;have O5:=ZZ (O4.out.trans o);have XA5:=ZZ (XA4.out.keep o);have XB5:=ZZ (XB4.out.keep o);clear c0 c1 c2 c3 c4 c5 c6 c7 c8 c9 d0 d1 d2 d3 d4 d5 d6 d7 d8 d9;clear o;obtain⟨c0,c1,c2,c3,c4,c5,c6,c7,c8,c9⟩:=XA5.out;obtain⟨d0,d1,d2,d3,d4,d5,d6,d7,d8,d9⟩:=XB5.out
        go_wp2_with fail
        go_at_call 36;refine(HSS.out _ O5.out).mono ?_;rintro e w6 ⟨rfl,o⟩;have O6:=ZZ (O5.out.trans o);have XA6:=ZZ (XA5.out.keep o);have XB6:=ZZ (XB5.out.keep o);clear c0 c1 c2 c3 c4 c5 c6 c7 c8 c9 d0 d1 d2 d3 d4 d5 d6 d7 d8 d9;clear o;obtain⟨c0,c1,c2,c3,c4,c5,c6,c7,c8,c9⟩:=XA6.out;obtain⟨d0,d1,d2,d3,d4,d5,d6,d7,d8,d9⟩:=XB6.out;clear c0 c1 c2 c3 c4 c5 c6 c7 c8 c9 d0 d1 d2 d3 d4 d5 d6 d7 d8 d9;go_wp2;go_ret;exact⟨Za (by rw[HF.out]),HB.out.1.trans O6.out⟩
section
variable {s:St}
theorem ZoF (h: ¬s.cf.ok):ZbW s=1:=by unfold ZbW;rw[if_neg h]
theorem ZoI (h1:s.cf.ok) (h: ¬(s.ws.length:Int)=Zk s.cf):ZbW s=2:=by unfold ZbW;rw[if_pos h1,if_neg h]
theorem Zo8 (h1:s.cf.ok) (h2:(s.ws.length:Int)=Zk s.cf) (h:r3 s=false):ZbW s=3:=by unfold ZbW;rw[if_pos h1,if_pos h2,if_neg (by rw[h];decide)]
theorem Zop (h1:s.cf.ok) (h2:(s.ws.length:Int)=Zk s.cf) (h3:r3 s=true) (h: ¬wkE s.steps=0):ZbW s=4:=by unfold ZbW;rw[if_pos h1,if_pos h2,if_pos h3,if_neg h]
theorem Zpk (h1:s.cf.ok) (h2:(s.ws.length:Int)=Zk s.cf) (h3:r3 s=true) (h4:wkE s.steps=0) (h:r5 s=false):ZbW s=5:=by unfold ZbW;rw[if_pos h1,if_pos h2,if_pos h3,if_pos h4,if_neg (by rw[h];decide)]
theorem ZoR (h1:s.cf.ok) (h2:(s.ws.length:Int)=Zk s.cf) (h3:r3 s=true) (h4:wkE s.steps=0) (h5:r5 s=true) (h:r6 s=false):ZbW s=6:=by unfold ZbW;rw[if_pos h1,if_pos h2,if_pos h3,if_pos h4,if_pos h5,if_neg (by rw[h];decide)]
theorem ZoX (h1:s.cf.ok) (h2:(s.ws.length:Int)=Zk s.cf) (h3:r3 s=true) (h4:wkE s.steps=0) (h5:r5 s=true) (h6:r6 s=true) (h:r7 s=false):ZbW s=7:=by unfold ZbW;rw[if_pos h1,if_pos h2,if_pos h3,if_pos h4,if_pos h5,if_pos h6,if_neg (by rw[h];decide)]
theorem Zo3 (h1:s.cf.ok) (h2:(s.ws.length:Int)=Zk s.cf) (h3:r3 s=true) (h4:wkE s.steps=0) (h5:r5 s=true) (h6:r6 s=true) (h7:r7 s=true) (h:r8 s=false):ZbW s=8:=by unfold ZbW;rw[if_pos h1,if_pos h2,if_pos h3,if_pos h4,if_pos h5,if_pos h6,if_pos h7,if_neg (by rw[h];decide)]
theorem Zov (h1:s.cf.ok) (h2:(s.ws.length:Int)=Zk s.cf) (h3:r3 s=true) (h4:wkE s.steps=0) (h5:r5 s=true) (h6:r6 s=true) (h7:r7 s=true) (h8:r8 s=true) (h:r9 s=false):ZbW s=9:=by unfold ZbW;rw[if_pos h1,if_pos h2,if_pos h3,if_pos h4,if_pos h5,if_pos h6,if_pos h7,if_pos h8,if_neg (by rw[h];decide)]
theorem Zlc (h4:wkE s.steps=0) (h6:r6 s=true) {p:Int} (hp:p∈s.objs):ohE s.ws p=0:=by
 unfold St.objs at hp;rcases Yq.1 hp with hp|hp
 · exact Zes h4 hp
 · obtain⟨x,hx,rfl⟩:=List.mem_map.1 hp
   unfold r6 at h6;rw[Bool.and_eq_true,List.all_eq_true] at h6
   have:=h6.2 x hx
   unfold big at this;rw[Bool.and_eq_true,decide_eq_true_iff] at this;exact this.1
end
end
section
open Go.RowKit
end
end Go.Proofs.YtknoncenblehkaaGreatDoor
