/- Plans over a graph: the state of a plan, one meeting, one lo The document's own answers for graphs: the same values, word -/
import Derived.Test.YtknoncenblehkaaGreatDoorG29
set_option maxRecDepth 100000
set_option maxHeartbeats 32000000
set_option linter.unusedSimpArgs false
set_option linter.unusedVariables false
namespace Go.Proofs.YtknoncenblehkaaGreatDoor
section
open Go.RowKit
structure PSt where
 small:List Int
 begins:List Int
 looked:List Bool
 large:List Int
 pile:List Int
 top:Int
def PSt.none:PSt:=⟨[],[],[],[],[],0⟩
theorem ZgR:Tryz.prog.follows .mixedOrders=true:=by kernel_rfl
theorem Zbb {α:Type} {p:α→Bool} {l:List α} {k:Nat} {x:α} (hx:l[k]? =some x) (hp:p x=false):l.all p=false:=by
 rw[List.all_eq_false];exact⟨x,Yn hx,by rw[hp];simp⟩
theorem ZfL {α:Type} {p:α→Bool} {l:List α} (h: ∀(j:Nat) y,j<l.length→l[j]? =some y→p y=true):l.all p=true:=by
 rw[List.all_eq_true];intro y hy;obtain⟨j,hj⟩:=List.getElem?_of_mem hy;exact h j y (Yj.1 hj).1 hj
theorem Zcu {α:Type} {p:α→Bool} {l:List α} {k:Nat} {x:α} (h: ∀(j:Nat) y,j<k→l[j]? =some y→p y=true) (hx:l[k]? =some x) (hp:p x=true): ∀(j:Nat) y,j<k+1→l[j]? =some y→p y=true:=fun j y hj hy=>by
 rcases Yp j k with h'|h'
 · exact h j y h' hy
 · obtain rfl:j=k:=by omega
   rw[hx] at hy;obtain rfl:=Yo hy;exact hp
theorem Zdr (w:World) (vn vr:Value): ∃W,w.alloc (.cells #[vn,vr] 27)=W∧Hid (Only nob w W∧Blk W w.heap.size 27 #[vn,vr]∧W.cell? ⟨w.heap.size,0,none⟩=some vn∧W.cell? ⟨w.heap.size,1,none⟩=some vr):=
 ⟨_,rfl,ZZ ⟨(Only.refl nob w).alloc _,Blk.new _ _ _,(Blk.new w 27 #[vn,vr]).cell 0,(Blk.new w 27 #[vn,vr]).cell 1⟩⟩
theorem ZaA (w:World) (k:Int) (fv rv:Value): ∃W,w.alloc (.cells #[.int .i64 k,fv,rv] 56)=W∧Hid (Only nob w W∧Blk W w.heap.size 56 #[.int .i64 k,fv,rv]∧W.cell? ⟨w.heap.size,0,none⟩=some (.int .i64 k)∧W.cell? ⟨w.heap.size,1,none⟩=some fv∧W.cell? ⟨w.heap.size,2,none⟩=some rv):=by
 have h:=Blk.new w 56 #[.int .i64 k,fv,rv];exact⟨_,rfl,ZZ ⟨(Only.refl nob w).alloc _,h,h.cell 0,h.cell 1,h.cell 2⟩⟩
theorem Zlh (A:Option Addr) (n c:Nat) (vr v:Value) (l:List Sp) (B:Nat) (w:World) (hn:n≤9223372036854775807) (h:Sl w B 2 v l.length (spc l)) (hB:B≤w.heap.size):
 Calls Tryz.prog 62 #[.agg #[.slice A n c,vr],v] w fun e w'=>e=.returned (.bool (l.all (vOk n)))∧Only nob w w':=by
 have HA:=ZZ h;obtain⟨Al,ca,rfl,hac,ham, -⟩:=h;unfold maxLen at ham;obtain⟨W,hW,HB⟩:=Zdr w (.slice A n c) vr;have HW:=ZZ hW;have HMY:=ZZ (fun (k x:Int) (w:World)=>ZaY k x w)
 obtain⟨q,hq⟩: ∃q,q=l.all (vOk n):=⟨_,rfl⟩
 have HQ:=ZZ hq;rw[← hq]
 obtain⟨p,hp⟩: ∃p,p=w.heap.size:=⟨_,rfl⟩
 have HP:=ZZ hp;rw[← hp] at HB;clear hW hq hp
 go_enter Tryz.func62,Tryz.ntmps62
 go_upto_region 1 with fail
 rw[HW.out, ← HP.out]
 go_wp2_with fail
 go_loopw [5] (fun i wr=> ∃k:Nat,k≤l.length∧i=.int .i64 k∧Hid (∀(j:Nat) y,j<k→l[j]? =some y→vOk n y=true)∧Hid (Only nob W wr)) (fun i _=>l.length - (intOf i).toNat)
 case atStart=>exact⟨0,Yt _,rfl,fun j _ hj _=>absurd hj (Nat.not_lt_zero j),ZZ (Only.refl _ _)⟩
 case round=>
  obtain⟨k,hk,rfl,hno,HO⟩:=hrel;by_cases hlt:k<l.length
  · obtain⟨⟨x,y⟩,hy⟩: ∃x,l[k]? =some x:=⟨_,Ya hlt⟩
    obtain⟨b1,o1,rfl, -,c0,c1⟩:=Zy HA.out ((HB.out.1.trans HO.out).below hB fun _ h=>h.elim) hy;have HY:=ZZ hy;have HV:=ZZ (show vOk n (x,y)=(Zat x y&&!(decide (x=2)&&decide ((n:Int)≤y))) from rfl);have HM:=ZZ (fun w=>HMY.out x y w)
    obtain⟨m,hm⟩: ∃m,m=Zat x y:=⟨_,rfl⟩
    rw[← hm] at HV HM;have d0:=Zh (HO.out.keeps HB.out.2.2.1);have e0:=Zh c0;have e1:=Zh c1;clear hy hm c0 c1
    go_upto_region 4 with fail
    refine Zm ZgR (by kernel_rfl) ?_
    cases m with
    |false=>
     have HN:=ZZ (HQ.out.trans (Zbb HY.out (by rw[HV.out];rfl)))
     repeat (with_reducible refine wpQuiet_step ?_;intro K' hK';go_simp;first|(with_reducible refine hK' _ ?_;clear hK' K')|(rw[if_neg];rotate_left;(· simp[undef]);with_reducible refine hK' _ ?_;clear hK' K')|(apply Exists.intro;with_reducible refine⟨fun _=>?_,hK' _ ?_⟩;(go_at_call 95;with_reducible refine Zq (HM.out _));clear hK' K'))
     refine wpQuiet_nil ?_;rintro w' ⟨⟨nq,osq⟩,rfl⟩;obtain⟨W7,hW7,O7⟩:=Zt wr nq osq;rw[hW7];clear hW7 d0 e0 e1;go_wp2;go_ret;exact⟨Za (by rw[HN.out]),HB.out.1.trans (HO.out.trans O7.out)⟩
    |true=>
     by_cases h2:x=2
     · subst h2
       by_cases h3:(n:Int)≤y
       · have HN:=ZZ (HQ.out.trans (Zbb HY.out (by rw[HV.out];simp[h3])))
         repeat (with_reducible refine wpQuiet_step ?_;intro K' hK';go_simp;first|(with_reducible refine hK' _ ?_;clear hK' K')|(rw[if_neg];rotate_left;(· simp[undef]);with_reducible refine hK' _ ?_;clear hK' K')|(apply Exists.intro;with_reducible refine⟨fun _=>?_,hK' _ ?_⟩;(go_at_call 95;with_reducible refine Zq (HM.out _));clear hK' K'))
         refine wpQuiet_nil ?_;rintro w' ⟨⟨nq,osq⟩,rfl⟩;obtain⟨W7,hW7,O7⟩:=Zt wr nq osq;rw[hW7];clear hW7 d0 e0 e1;go_wp2;go_ret;exact⟨Za (by rw[HN.out]),HB.out.1.trans (HO.out.trans O7.out)⟩
       · have HN:=ZZ (Zcu hno.out HY.out (by rw[HV.out];simp;omega))
         repeat (with_reducible refine wpQuiet_step ?_;intro K' hK';go_simp;first|(with_reducible refine hK' _ ?_;clear hK' K')|(rw[if_neg];rotate_left;(· simp[undef]);with_reducible refine hK' _ ?_;clear hK' K')|(apply Exists.intro;with_reducible refine⟨fun _=>?_,hK' _ ?_⟩;(go_at_call 95;with_reducible refine Zq (HM.out _));clear hK' K'))
         refine wpQuiet_nil ?_;rintro w' ⟨⟨nq,osq⟩,rfl⟩;obtain⟨W7,hW7,O7⟩:=Zt wr nq osq;rw[hW7];have O8:=ZZ (HO.out.trans O7.out);clear hW7 d0 e0 e1;go_wp2
         go_roundw
         case rel=>exact⟨k+1,by omega,by go_num,HN,O8⟩
         case measure=>simp[intOf];omega
     · have hbq:(x==2)=false:=by simpa using h2
       have HN:=ZZ (Zcu hno.out HY.out (by rw[HV.out];simp[h2]));clear h2
       repeat (with_reducible refine wpQuiet_step ?_;intro K' hK';go_simp;first|(with_reducible refine hK' _ ?_;clear hK' K')|(rw[if_neg];rotate_left;(· simp[undef]);with_reducible refine hK' _ ?_;clear hK' K')|(apply Exists.intro;with_reducible refine⟨fun _=>?_,hK' _ ?_⟩;(go_at_call 95;with_reducible refine Zq (HM.out _));clear hK' K'))
       refine wpQuiet_nil ?_;rintro w' ⟨⟨nq,osq⟩,rfl⟩;obtain⟨W7,hW7,O7⟩:=Zt wr nq osq;rw[hW7];have O8:=ZZ (HO.out.trans O7.out);clear hW7 d0 e0 e1;go_wp2
       go_roundw
       case rel=>exact⟨k+1,by omega,by go_num,HN,O8⟩
       case measure=>simp[intOf];omega
  · obtain rfl:k=l.length:=by omega
    have HN:=ZZ (HQ.out.trans (ZfL fun j y hj hy=>hno.out j y hj hy));go_wp2;go_ret;exact⟨Za (by rw[HN.out]),HB.out.1.trans HO.out⟩
theorem ZeH (n:Nat) (d:Nd):(d.kd<0∧Zfo n d=false)∨(0≤d.kd∧31<d.kd∧Zfo n d=false)∨(0≤d.kd∧d.kd≤31∧4096<(d.fs.length:Int)∧Zfo n d=false)∨(0≤d.kd∧d.kd≤31∧(d.fs.length:Int)≤4096∧4096<(d.rs.length:Int)∧Zfo n d=false)∨(0≤d.kd∧d.kd≤31∧(d.fs.length:Int)≤4096∧(d.rs.length:Int)≤4096∧Zfo n d=d.fs.all (vOk n)):=by
 unfold Zfo;by_cases h1:d.kd<0
 · exact .inl ⟨h1,by rw[Yk (by omega)];rfl⟩
 by_cases h2:31<d.kd
 · exact .inr (.inl ⟨by omega,h2,by rw[Yk (by omega)];rfl⟩)
 by_cases h3:4096<(d.fs.length:Int)
 · exact .inr (.inr (.inl ⟨by omega,by omega,h3,by rw[Yk (p:=d.fs.length≤4096) (by omega)];simp⟩))
 by_cases h4:4096<(d.rs.length:Int)
 · exact .inr (.inr (.inr (.inl ⟨by omega,by omega,by omega,h4,by rw[Yk (p:=d.rs.length≤4096) (by omega)];simp⟩)))
 · exact .inr (.inr (.inr (.inr ⟨by omega,by omega,by omega,by omega,by rw[Yl (p:=0≤d.kd∧d.kd≤31) (by omega),Yl (p:=d.fs.length≤4096) (by omega),Yl (p:=d.rs.length≤4096) (by omega)];simp⟩)))
theorem Zlu:ZkJ 27:=by
 intro g vn vr hs B w h hB hfit;have HR:=ZZ h;obtain⟨A,c,rfl,hac,hcm⟩:=h.nodes.form;obtain⟨Ar,cr,rfl,harc,hcrm⟩:=h.roots.form;unfold maxLen at hcm hcrm;obtain⟨W,hW,HB⟩:=Zdr w (.slice A g.nd.length c) (.slice Ar g.rt.length cr);have HW:=ZZ hW
 have hnl:g.nd.length≤9223372036854775807:=by omega
 have HSD:=ZZ (fun (v:Value) (l:List Sp) (w':World) (B':Nat) (h:Sl w' B' 2 v l.length (spc l)) (hB:B'≤w'.heap.size)=>Zlh A g.nd.length c (.slice Ar g.rt.length cr) v l B' w' hnl h hB)
 obtain⟨q,hq⟩: ∃q,q=Zb6 g:=⟨_,rfl⟩
 have HQ:=ZZ (hq.trans (show Zb6 g=(g.nd.all (Zfo g.nd.length)&&g.rt.all (vOk g.nd.length)) from rfl));rw[← hq]
 obtain⟨p,hp⟩: ∃p,p=w.heap.size:=⟨_,rfl⟩
 have HP:=ZZ hp;rw[← hp] at HB;clear hW hq hp h hfit;have c0:=HB.out.2.2.1
 go_enter Tryz.func27,Tryz.ntmps27
 go_upto_region 1 with fail
 rw[HW.out, ← HP.out]
 go_wp2_with fail
 go_loopw [3,4] (fun i _ wr=> ∃k:Nat,k≤g.nd.length∧i=.int .i64 k∧Hid (∀(j:Nat) y,j<k→g.nd[j]? =some y→Zfo g.nd.length y=true)∧Hid (Only nob W wr)) (fun i _ _=>g.nd.length - (intOf i).toNat)
 case atStart=>exact⟨0,Yt _,rfl,fun j _ hj _=>absurd hj (Nat.not_lt_zero j),ZZ (Only.refl _ _)⟩
 case round=>
  obtain⟨k,hk,rfl,hno,HO⟩:=hrel;clear c0;have c0:=HO.out.keeps HB.out.2.2.1;have c1:=HO.out.keeps HB.out.2.2.2;by_cases hlt:k<g.nd.length
  · obtain⟨d,hd⟩: ∃x,g.nd[k]? =some x:=⟨_,Ya hlt⟩
    obtain⟨bb,o,fv,rv,rfl,hbb, -,g0,g1,g2,hnd⟩:=HR.out.at_ ((HB.out.1.trans HO.out).below hB fun _ h=>h.elim) hd;obtain⟨Af,cf,hfv,hafc,hcfm⟩:=hnd.fields.form;obtain⟨Arw,crw,hrv,harw,hcrw⟩:=hnd.raws.form;simp only at hfv hrv;subst hfv hrv;unfold maxLen at hcfm hcrw;have HD:=ZZ hd;have HND:=ZZ hnd;obtain⟨W2,hW2,HB2⟩:=ZaA wr d.kd (.slice Af d.fs.length cf) (.slice Arw d.rs.length crw);have HW2:=ZZ hW2;have O2:=ZZ (HO.out.trans HB2.out.1);have e0:=HB2.out.1.keeps c0;have e1:=HB2.out.1.keeps c1;have hcs:=ZeH g.nd.length d
    obtain⟨kd,hkd⟩: ∃kd,kd=d.kd:=⟨_,rfl⟩
    rw[← hkd] at g0 HB2 HW2 hcs;clear hd hnd hW2 hkd
    go_upto_region 5 with fail
    rw[HW2.out];obtain⟨-, -,d0,d1,d2⟩:=HB2.out;clear g0 g1 g2 c0 c1
    rcases hcs with⟨h1,hf⟩|⟨h1,h2,hf⟩|⟨h1,h2,h3,hf⟩|⟨h1,h2,h3,h4,hf⟩|⟨h1,h2,h3,h4,hf⟩
    · have HN:=ZZ (show q=false by rw[HQ.out,Zbb HD.out hf];rfl)
      clear hf;go_wp2;go_ret;exact⟨Za (by rw[HN.out]),HB.out.1.trans O2.out⟩
    · have HN:=ZZ (show q=false by rw[HQ.out,Zbb HD.out hf];rfl)
      clear hf;go_wp2;go_ret;exact⟨Za (by rw[HN.out]),HB.out.1.trans O2.out⟩
    · have HN:=ZZ (show q=false by rw[HQ.out,Zbb HD.out hf];rfl)
      clear hf;go_wp2;go_ret;exact⟨Za (by rw[HN.out]),HB.out.1.trans O2.out⟩
    · have HN:=ZZ (show q=false by rw[HQ.out,Zbb HD.out hf];rfl)
      clear hf;go_wp2;go_ret;exact⟨Za (by rw[HN.out]),HB.out.1.trans O2.out⟩
    · have HF:=ZZ hf
      have HSC:=ZZ (HSD.out (.slice Af d.fs.length cf) d.fs W2 B (HND.out.fields.below (HB2.out.1.below (Yh hB (HB.out.1.trans HO.out).size) fun _ h=>h.elim)) (Yh hB (HB.out.1.trans O2.out).size))
      obtain⟨sd,hsd⟩: ∃sd,sd=d.fs.all (vOk g.nd.length):=⟨_,rfl⟩
      rw[← hsd] at HF HSC;clear hf hsd
      go_wp2_with fail
      go_at_call 62;refine HSC.out.mono ?_;rintro e w3 ⟨rfl,o3⟩;have O3:=ZZ (O2.out.trans o3);clear o3 d0 d1 d2 e0 e1
      cases sd with
      |false=>
       have HN:=ZZ (show q=false by rw[HQ.out,Zbb HD.out HF.out];rfl);go_wp2;go_ret;exact⟨Za (by rw[HN.out]),HB.out.1.trans O3.out⟩
      |true=>
       have HN:=ZZ (Zcu hno.out HD.out HF.out);go_wp2
       go_roundw
       case rel=>exact⟨k+1,by omega,by go_num,HN,O3⟩
       case measure=>simp[intOf];omega
  · obtain rfl:k=g.nd.length:=by omega
    have HN:=ZZ (show q=g.rt.all (vOk g.nd.length) by rw[HQ.out,ZfL fun j y hj hy=>hno.out j y hj hy];simp);have HSC:=ZZ (HSD.out (.slice Ar g.rt.length cr) g.rt wr B (HR.out.roots.below ((HB.out.1.trans HO.out).below hB fun _ h=>h.elim)) (Yh hB (HB.out.1.trans HO.out).size))
    obtain⟨sd,hsd⟩: ∃sd,sd=g.rt.all (vOk g.nd.length):=⟨_,rfl⟩
    rw[← hsd] at HN HSC;clear hsd
    go_wp2_with fail
    go_at_call 62;refine HSC.out.mono ?_;rintro e w3 ⟨rfl,o3⟩;have O3:=ZZ (HO.out.trans o3);clear o3 c0 c1;go_wp2;go_ret;exact⟨Za (by rw[HN.out]),HB.out.1.trans O3.out⟩
end
section
open Go.RowKit Go.Lib
theorem ZiY:(Tryz.prog.info? 59).map (fun i=>(i.zero,i.size,i.bytes))=some (some (.agg #[.int .i64 0,.int .i64 0]),2,16):=by kernel_rfl
theorem ZbA (w:World) (k x:Int): ∃W,w.alloc (.cells #[.int .i64 k,.int .i64 x] 59)=W∧Hid (Only nob w W∧Blk W w.heap.size 59 #[.int .i64 k,.int .i64 x]):=
 ⟨_,rfl,ZZ ⟨(Only.refl nob w).alloc _,Blk.new w _ _⟩⟩
theorem ZnF:Zmz 30:=by
 intro d h B w hr;obtain⟨fv,rv⟩:=h;obtain⟨Af,cf,hfv,hafc,hcfm⟩:=hr.fields.form;obtain⟨Arw,crw,hrv,harw,hcrw⟩:=hr.raws.form;simp only at hfv hrv;subst hfv hrv;obtain⟨W,hW,HB⟩:=ZaA w d.kd (.slice Af d.fs.length cf) (.slice Arw d.rs.length crw);have HW:=ZZ hW;obtain⟨-, -,d0,d1,d2⟩:=HB.out;have HZ:=ZZ (show ndSz d=wrap64 (wrap64 (1+(d.fs.length:Int))+(d.rs.length:Int)) by rw[Zev];rfl)
 obtain⟨z,hz⟩: ∃z,z=ndSz d:=⟨_,rfl⟩
 rw[← hz] at HZ ⊢;simp only;clear hW hr hz
 go_enter Tryz.func30,Tryz.ntmps30
 go_upto_region 1 with fail
 rw[HW.out];go_wp2;go_ret;exact⟨Zbf (by rw[HZ.out]),HB.out.1⟩
end
end Go.Proofs.YtknoncenblehkaaGreatDoor
