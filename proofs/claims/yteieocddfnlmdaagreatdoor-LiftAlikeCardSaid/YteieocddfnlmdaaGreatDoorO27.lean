/- The document's own answers for graphs: the same values, word A region that draws its order, whose last operation writes a The document's own plans in memory: a plan's state behind a -/
import Derived.OrdersHeld
import Derived.Test.YteieocddfnlmdaaGreatDoorO26
set_option maxRecDepth 100000
set_option maxHeartbeats 32000000
set_option linter.unusedSimpArgs false
set_option linter.unusedVariables false
namespace Go.Proofs.YteieocddfnlmdaaGreatDoor
section
open Go.RowKit
theorem ZbV:Tryz.prog.follows .mixedOrders=true:=by kernel_rfl
theorem Zhj {α:Type} {l m:List α} (h:l.length≠m.length):l≠m:=fun e=>h (by rw[e])
theorem Zfh {α:Type} {l m:List α} {k:Nat} {x y:α} (hx:l[k]? =some x) (hy:m[k]? =some y) (h:x≠y):l≠m:=fun e=>h (by rw[e,hy] at hx;exact(Yp hx).symm)
theorem Ze3 {α:Type} {l m:List α} (hl:l.length=m.length) (h: ∀(j:Nat) x,j<l.length→l[j]? =some x→m[j]? =some x):l=m:=by
 refine List.ext_getElem? fun j=>?_;rcases Yq j l.length with hj|hj
 · rw[h j _ hj (Ya hj)]
   exact Ya hj
 · rw[List.getElem?_eq_none hj,List.getElem?_eq_none (by omega)]
theorem Zcb {α:Type} {p:α→Bool} {l:List α} {k:Nat} {x:α} (hx:l[k]? =some x) (hp:p x=false):l.all p=false:=by
 rw[List.all_eq_false];exact⟨x,Yo hx,by rw[hp];simp⟩
theorem Zh1 {α:Type} {p:α→Bool} {l:List α} (h: ∀(j:Nat) y,j<l.length→l[j]? =some y→p y=true):l.all p=true:=by
 rw[List.all_eq_true];intro y hy;obtain⟨j,hj⟩:=List.getElem?_of_mem hy;exact h j y (Yk.1 hj).1 hj
theorem ZdV {α:Type} {p:α→Bool} {l:List α} {k:Nat} {x:α} (h: ∀(j:Nat) y,j<k→l[j]? =some y→p y=true) (hx:l[k]? =some x) (hp:p x=true): ∀(j:Nat) y,j<k+1→l[j]? =some y→p y=true:=fun j y hj hy=>by
 rcases Yq j k with h'|h'
 · exact h j y h' hy
 · obtain rfl:j=k:=by omega
   rw[hx] at hy;obtain rfl:=Yp hy;exact hp
theorem ZcE {w w':World} {B:Nat} {A:Option Addr} {c k:Nat} {l:List Nat} {x:Nat} (h:Sl w B 1 (.slice A l.length c) l.length (u64s l)) (hb:Below B w w') (hx:l[k]? =some x):
 ∃b o,A=some ⟨b,o,none⟩∧b<B∧w'.cell? ⟨b,o+k,none⟩=some (.int .u64 (x:Nat)):=by
 have hk:k<l.length:=(Yk.1 hx).1;obtain⟨b,o,c',e,_,_,hlt,hc⟩:=(h.below hb).at_ (by omega)
 obtain⟨rfl,rfl⟩:A=some ⟨b,o,none⟩∧c=c':=by simpa using e
 refine⟨b,o,rfl,hlt,hc _ _ ?_⟩;simp[u64s,hx]
theorem Zco (w:World) (vn vr:Value): ∃W,w.alloc (.cells #[vn,vr] 34)=W∧Hid (Only nob w W∧Blk W w.heap.size 34 #[vn,vr]∧W.cell? ⟨w.heap.size,0,none⟩=some vn∧W.cell? ⟨w.heap.size,1,none⟩=some vr):=
 ⟨_,rfl,ZZ ⟨(Only.refl nob w).alloc _,Blk.new _ _ _,(Blk.new w 34 #[vn,vr]).cell 0,(Blk.new w 34 #[vn,vr]).cell 1⟩⟩
theorem Zat (w:World) (k:Int) (fv rv:Value): ∃W,w.alloc (.cells #[.int .i64 k,fv,rv] 54)=W∧Hid (Only nob w W∧Blk W w.heap.size 54 #[.int .i64 k,fv,rv]∧W.cell? ⟨w.heap.size,0,none⟩=some (.int .i64 k)∧W.cell? ⟨w.heap.size,1,none⟩=some fv∧W.cell? ⟨w.heap.size,2,none⟩=some rv):=by
 have h:=Blk.new w 54 #[.int .i64 k,fv,rv];exact⟨_,rfl,ZZ ⟨(Only.refl nob w).alloc _,h,h.cell 0,h.cell 1,h.cell 2⟩⟩
theorem ZpS (A:Option Addr) (n c:Nat) (vr v:Value) (l:List Sp) (B:Nat) (w:World) (hn:n≤9223372036854775807) (h:Sl w B 2 v l.length (spc l)) (hB:B≤w.heap.size):
 Calls Tryz.prog 129 #[.agg #[.slice A n c,vr],v] w fun e w'=>e=.returned (.bool (l.all (vOk n)))∧Only nob w w':=by
 have HA:=ZZ h;obtain⟨Al,ca,rfl,hac,ham, -⟩:=h;unfold maxLen at ham;obtain⟨W,hW,HB⟩:=Zco w (.slice A n c) vr;have HW:=ZZ hW;have HMY:=ZZ (fun (k x:Int) (w:World)=>ZmT k x w)
 obtain⟨q,hq⟩: ∃q,q=l.all (vOk n):=⟨_,rfl⟩
 have HQ:=ZZ hq;rw[← hq]
 obtain⟨p,hp⟩: ∃p,p=w.heap.size:=⟨_,rfl⟩
 have HP:=ZZ hp;rw[← hp] at HB;clear hW hq hp
 go_enter Tryz.func129,Tryz.ntmps129
 go_upto_region 1 with fail
 rw[HW.out, ← HP.out]
 go_wp2_with fail
 go_loopw [5] (fun i wr=> ∃k:Nat,k≤l.length∧i=.int .i64 k∧Hid (∀(j:Nat) y,j<k→l[j]? =some y→vOk n y=true)∧Hid (Only nob W wr)) (fun i _=>l.length - (intOf i).toNat)
 case atStart=>exact⟨0,Yu _,rfl,fun j _ hj _=>absurd hj (Nat.not_lt_zero j),ZZ (Only.refl _ _)⟩
 case round=>
  obtain⟨k,hk,rfl,hno,HO⟩:=hrel;by_cases hlt:k<l.length
  · obtain⟨⟨x,y⟩,hy⟩: ∃x,l[k]? =some x:=⟨_,Ya hlt⟩
    obtain⟨b1,o1,rfl, -,c0,c1⟩:=sl_span HA.out ((HB.out.1.trans HO.out).below hB fun _ h=>h.elim) hy;have HY:=ZZ hy;have HV:=ZZ (show vOk n (x,y)=(ZbC x y&&!(decide (x=2)&&decide ((n:Int)≤y))) from rfl);have HM:=ZZ (fun w=>HMY.out x y w)
    obtain⟨m,hm⟩: ∃m,m=ZbC x y:=⟨_,rfl⟩
    rw[← hm] at HV HM;have d0:=Zh (HO.out.keeps HB.out.2.2.1);have e0:=Zh c0;have e1:=Zh c1;clear hy hm c0 c1
    go_upto_region 4 with fail
    refine Ze ZbV (by kernel_rfl) ?_
    cases m with
    |false=>
     have HN:=ZZ (HQ.out.trans (Zcb HY.out (by rw[HV.out];rfl)))
     repeat (with_reducible refine wpQuiet_step ?_;intro K' hK';go_simp;first|(with_reducible refine hK' _ ?_;clear hK' K')|(rw[if_neg];rotate_left;(· simp[undef]);with_reducible refine hK' _ ?_;clear hK' K')|(apply Exists.intro;with_reducible refine⟨fun _=>?_,hK' _ ?_⟩;(go_at_call 175;with_reducible refine Zg (HM.out _));clear hK' K'))
     refine wpQuiet_nil ?_;rintro w' ⟨⟨nq,osq⟩,rfl⟩;obtain⟨W7,hW7,O7⟩:=Zn wr nq osq;rw[hW7];clear hW7 d0 e0 e1;go_wp2;go_ret;exact⟨Za (by rw[HN.out]),HB.out.1.trans (HO.out.trans O7.out)⟩
    |true=>
     by_cases h2:x=2
     · subst h2
       by_cases h3:(n:Int)≤y
       · have HN:=ZZ (HQ.out.trans (Zcb HY.out (by rw[HV.out];simp[h3])))
         repeat (with_reducible refine wpQuiet_step ?_;intro K' hK';go_simp;first|(with_reducible refine hK' _ ?_;clear hK' K')|(rw[if_neg];rotate_left;(· simp[undef]);with_reducible refine hK' _ ?_;clear hK' K')|(apply Exists.intro;with_reducible refine⟨fun _=>?_,hK' _ ?_⟩;(go_at_call 175;with_reducible refine Zg (HM.out _));clear hK' K'))
         refine wpQuiet_nil ?_;rintro w' ⟨⟨nq,osq⟩,rfl⟩;obtain⟨W7,hW7,O7⟩:=Zn wr nq osq;rw[hW7];clear hW7 d0 e0 e1;go_wp2;go_ret;exact⟨Za (by rw[HN.out]),HB.out.1.trans (HO.out.trans O7.out)⟩
       · have HN:=ZZ (ZdV hno.out HY.out (by rw[HV.out];simp;omega))
         repeat (with_reducible refine wpQuiet_step ?_;intro K' hK';go_simp;first|(with_reducible refine hK' _ ?_;clear hK' K')|(rw[if_neg];rotate_left;(· simp[undef]);with_reducible refine hK' _ ?_;clear hK' K')|(apply Exists.intro;with_reducible refine⟨fun _=>?_,hK' _ ?_⟩;(go_at_call 175;with_reducible refine Zg (HM.out _));clear hK' K'))
         refine wpQuiet_nil ?_;rintro w' ⟨⟨nq,osq⟩,rfl⟩;obtain⟨W7,hW7,O7⟩:=Zn wr nq osq;rw[hW7];have O8:=ZZ (HO.out.trans O7.out);clear hW7 d0 e0 e1;go_wp2
         go_roundw
         case rel=>exact⟨k+1,by omega,by go_num,HN,O8⟩
         case measure=>simp[intOf];omega
     · have hbq:(x==2)=false:=by simpa using h2
       have HN:=ZZ (ZdV hno.out HY.out (by rw[HV.out];simp[h2]));clear h2
       repeat (with_reducible refine wpQuiet_step ?_;intro K' hK';go_simp;first|(with_reducible refine hK' _ ?_;clear hK' K')|(rw[if_neg];rotate_left;(· simp[undef]);with_reducible refine hK' _ ?_;clear hK' K')|(apply Exists.intro;with_reducible refine⟨fun _=>?_,hK' _ ?_⟩;(go_at_call 175;with_reducible refine Zg (HM.out _));clear hK' K'))
       refine wpQuiet_nil ?_;rintro w' ⟨⟨nq,osq⟩,rfl⟩;obtain⟨W7,hW7,O7⟩:=Zn wr nq osq;rw[hW7];have O8:=ZZ (HO.out.trans O7.out);clear hW7 d0 e0 e1;go_wp2
       go_roundw
       case rel=>exact⟨k+1,by omega,by go_num,HN,O8⟩
       case measure=>simp[intOf];omega
  · obtain rfl:k=l.length:=by omega
    have HN:=ZZ (HQ.out.trans (Zh1 fun j y hj hy=>hno.out j y hj hy));go_wp2;go_ret;exact⟨Za (by rw[HN.out]),HB.out.1.trans HO.out⟩
theorem Zgo (n:Nat) (d:Nd):(d.kd<0∧Zja n d=false)∨(0≤d.kd∧31<d.kd∧Zja n d=false)∨(0≤d.kd∧d.kd≤31∧4096<(d.fs.length:Int)∧Zja n d=false)∨(0≤d.kd∧d.kd≤31∧(d.fs.length:Int)≤4096∧4096<(d.rs.length:Int)∧Zja n d=false)∨(0≤d.kd∧d.kd≤31∧(d.fs.length:Int)≤4096∧(d.rs.length:Int)≤4096∧Zja n d=d.fs.all (vOk n)):=by
 unfold Zja;by_cases h1:d.kd<0
 · exact .inl ⟨h1,by rw[Yl (by omega)];rfl⟩
 by_cases h2:31<d.kd
 · exact .inr (.inl ⟨by omega,h2,by rw[Yl (by omega)];rfl⟩)
 by_cases h3:4096<(d.fs.length:Int)
 · exact .inr (.inr (.inl ⟨by omega,by omega,h3,by rw[Yl (p:=d.fs.length≤4096) (by omega)];simp⟩))
 by_cases h4:4096<(d.rs.length:Int)
 · exact .inr (.inr (.inr (.inl ⟨by omega,by omega,by omega,h4,by rw[Yl (p:=d.rs.length≤4096) (by omega)];simp⟩)))
 · exact .inr (.inr (.inr (.inr ⟨by omega,by omega,by omega,by omega,by rw[Ym (p:=0≤d.kd∧d.kd≤31) (by omega),Ym (p:=d.fs.length≤4096) (by omega),Ym (p:=d.rs.length≤4096) (by omega)];simp⟩)))
theorem Zlj:ZnT 86:=by
 intro g vn vr hs B w h hB hfit;have HR:=ZZ h;obtain⟨A,c,rfl,hac,hcm⟩:=h.nodes.form;obtain⟨Ar,cr,rfl,harc,hcrm⟩:=h.roots.form;unfold maxLen at hcm hcrm;obtain⟨W,hW,HB⟩:=Zco w (.slice A g.nd.length c) (.slice Ar g.rt.length cr);have HW:=ZZ hW
 have hnl:g.nd.length≤9223372036854775807:=by omega
 have HSD:=ZZ (fun (v:Value) (l:List Sp) (w':World) (B':Nat) (h:Sl w' B' 2 v l.length (spc l)) (hB:B'≤w'.heap.size)=>ZpS A g.nd.length c (.slice Ar g.rt.length cr) v l B' w' hnl h hB)
 obtain⟨q,hq⟩: ∃q,q=ZC g:=⟨_,rfl⟩
 have HQ:=ZZ (hq.trans (show ZC g=(g.nd.all (Zja g.nd.length)&&g.rt.all (vOk g.nd.length)) from rfl));rw[← hq]
 obtain⟨p,hp⟩: ∃p,p=w.heap.size:=⟨_,rfl⟩
 have HP:=ZZ hp;rw[← hp] at HB;clear hW hq hp h hfit;have c0:=HB.out.2.2.1
 go_enter Tryz.func86,Tryz.ntmps86
 go_upto_region 1 with fail
 rw[HW.out, ← HP.out]
 go_wp2_with fail
 go_loopw [3,4] (fun i _ wr=> ∃k:Nat,k≤g.nd.length∧i=.int .i64 k∧Hid (∀(j:Nat) y,j<k→g.nd[j]? =some y→Zja g.nd.length y=true)∧Hid (Only nob W wr)) (fun i _ _=>g.nd.length - (intOf i).toNat)
 case atStart=>exact⟨0,Yu _,rfl,fun j _ hj _=>absurd hj (Nat.not_lt_zero j),ZZ (Only.refl _ _)⟩
 case round=>
  obtain⟨k,hk,rfl,hno,HO⟩:=hrel;clear c0;have c0:=HO.out.keeps HB.out.2.2.1;have c1:=HO.out.keeps HB.out.2.2.2;by_cases hlt:k<g.nd.length
  · obtain⟨d,hd⟩: ∃x,g.nd[k]? =some x:=⟨_,Ya hlt⟩
    obtain⟨bb,o,fv,rv,rfl,hbb, -,g0,g1,g2,hnd⟩:=HR.out.at_ ((HB.out.1.trans HO.out).below hB fun _ h=>h.elim) hd;obtain⟨Af,cf,hfv,hafc,hcfm⟩:=hnd.fields.form;obtain⟨Arw,crw,hrv,harw,hcrw⟩:=hnd.raws.form;simp only at hfv hrv;subst hfv hrv;unfold maxLen at hcfm hcrw;have HD:=ZZ hd;have HND:=ZZ hnd;obtain⟨W2,hW2,HB2⟩:=Zat wr d.kd (.slice Af d.fs.length cf) (.slice Arw d.rs.length crw);have HW2:=ZZ hW2;have O2:=ZZ (HO.out.trans HB2.out.1);have e0:=HB2.out.1.keeps c0;have e1:=HB2.out.1.keeps c1;have hcs:=Zgo g.nd.length d
    obtain⟨kd,hkd⟩: ∃kd,kd=d.kd:=⟨_,rfl⟩
    rw[← hkd] at g0 HB2 HW2 hcs;clear hd hnd hW2 hkd
    go_upto_region 5 with fail
    rw[HW2.out];obtain⟨-, -,d0,d1,d2⟩:=HB2.out;clear g0 g1 g2 c0 c1
    rcases hcs with⟨h1,hf⟩|⟨h1,h2,hf⟩|⟨h1,h2,h3,hf⟩|⟨h1,h2,h3,h4,hf⟩|⟨h1,h2,h3,h4,hf⟩
    · have HN:=ZZ (show q=false by rw[HQ.out,Zcb HD.out hf];rfl)
      clear hf;go_wp2;go_ret;exact⟨Za (by rw[HN.out]),HB.out.1.trans O2.out⟩
    · have HN:=ZZ (show q=false by rw[HQ.out,Zcb HD.out hf];rfl)
      clear hf;go_wp2;go_ret;exact⟨Za (by rw[HN.out]),HB.out.1.trans O2.out⟩
    · have HN:=ZZ (show q=false by rw[HQ.out,Zcb HD.out hf];rfl)
      clear hf;go_wp2;go_ret;exact⟨Za (by rw[HN.out]),HB.out.1.trans O2.out⟩
    · have HN:=ZZ (show q=false by rw[HQ.out,Zcb HD.out hf];rfl)
      clear hf;go_wp2;go_ret;exact⟨Za (by rw[HN.out]),HB.out.1.trans O2.out⟩
    · have HF:=ZZ hf
      have HSC:=ZZ (HSD.out (.slice Af d.fs.length cf) d.fs W2 B (HND.out.fields.below (HB2.out.1.below (Yi hB (HB.out.1.trans HO.out).size) fun _ h=>h.elim)) (Yi hB (HB.out.1.trans O2.out).size))
      obtain⟨sd,hsd⟩: ∃sd,sd=d.fs.all (vOk g.nd.length):=⟨_,rfl⟩
      rw[← hsd] at HF HSC;clear hf hsd
      go_wp2_with fail
      go_at_call 129;refine HSC.out.mono ?_;rintro e w3 ⟨rfl,o3⟩;have O3:=ZZ (O2.out.trans o3);clear o3 d0 d1 d2 e0 e1
      cases sd with
      |false=>
       have HN:=ZZ (show q=false by rw[HQ.out,Zcb HD.out HF.out];rfl);go_wp2;go_ret;exact⟨Za (by rw[HN.out]),HB.out.1.trans O3.out⟩
      |true=>
       have HN:=ZZ (ZdV hno.out HD.out HF.out);go_wp2
       go_roundw
       case rel=>exact⟨k+1,by omega,by go_num,HN,O3⟩
       case measure=>simp[intOf];omega
  · obtain rfl:k=g.nd.length:=by omega
    have HN:=ZZ (show q=g.rt.all (vOk g.nd.length) by rw[HQ.out,Zh1 fun j y hj hy=>hno.out j y hj hy];simp);have HSC:=ZZ (HSD.out (.slice Ar g.rt.length cr) g.rt wr B (HR.out.roots.below ((HB.out.1.trans HO.out).below hB fun _ h=>h.elim)) (Yi hB (HB.out.1.trans HO.out).size))
    obtain⟨sd,hsd⟩: ∃sd,sd=g.rt.all (vOk g.nd.length):=⟨_,rfl⟩
    rw[← hsd] at HN HSC;clear hsd
    go_wp2_with fail
    go_at_call 129;refine HSC.out.mono ?_;rintro e w3 ⟨rfl,o3⟩;have O3:=ZZ (HO.out.trans o3);clear o3 c0 c1;go_wp2;go_ret;exact⟨Za (by rw[HN.out]),HB.out.1.trans O3.out⟩
end
section
open Go.RowKit Go.Lib
theorem Zec:(Tryz.prog.info? 63).map (fun i=>(i.zero,i.size,i.bytes))=some (some (.agg #[.int .i64 0,.int .i64 0]),2,16):=by kernel_rfl
theorem Zic (w:World) (x y:Int):Sl (w.alloc (.cells #[.int .i64 x,.int .i64 y] 63)) (w.heap.size+1) 2 (.slice (some ⟨w.heap.size,0,none⟩) 1 1) 1 (spc [(x,y)]):=by
 have:=Sl.of_blk (size:=2) (n:=1) (c:=1) (Blk.new w 63 #[.int .i64 x,.int .i64 y]) (by simp) (Yj _) (by unfold maxLen;omega)
 simpa[spc] using this
theorem Zfw (l:List Sp): ∀v∈spc l,v.oneCell'=true:=by
 induction l with
 |nil=>intro v hv;cases hv
 |cons x l ih=>
  intro v hv;simp only[spc,List.flatMap_cons,Yr] at hv;rcases hv with hv|hv
  · simp at hv
    rcases hv with rfl|rfl <;> rfl
  · exact ih v hv
theorem ZiB (l m:List Sp):spc (l++m)=spc l++spc m:=by simp[spc]
theorem ZbK (w:World) (k x:Int): ∃W,w.alloc (.cells #[.int .i64 k,.int .i64 x] 63)=W∧Hid (Only nob w W∧Blk W w.heap.size 63 #[.int .i64 k,.int .i64 x]):=
 ⟨_,rfl,ZZ ⟨(Only.refl nob w).alloc _,Blk.new w _ _⟩⟩
theorem Zpd (w:World) (x:Int):Sl (w.alloc (.cells #[.int .i64 x] 3)) (w.heap.size+1) 1 (.slice (some ⟨w.heap.size,0,none⟩) 1 1) 1 (i64s [x]):=by
 have:=Sl.of_blk (size:=1) (n:=1) (c:=1) (Blk.new w 3 #[.int .i64 x]) (by simp) (Yj _) (by decide)
 simpa[i64s] using this
end
section
open Go
section
variable {P:Program} {ops:Array Oper} {Q:Exit→Act→World→Prop} {md:Region.Mode} {S:World→Prop} {stop:Nat}
def ZhV (P:Program) (md:Region.Mode) (ops:Array Oper) (Q:Exit→Act→World→Prop) (S:World→Prop) (stop:Nat):Nat→Array Bool→Act→World→Prop
 |0,d,a,w=>Region.ready md ops d=[]∧Q .normal a w
 |f+1,d,a,w=>(Region.ready md ops d=[]→Q .normal a w)∧ ∀i∈Region.ready md ops d,wpOp P ops Q i (fun a' w'=>(i≠stop→S w')∧ZhV P md ops Q S stop f (d.setIfInBounds i true) a' w') a w
theorem ZhV.any: ∀(f:Nat) (d:Array Bool) (a:Act) (w:World),ZhV P md ops Q S stop f d a w→wpAny P md ops Q f d a w
 |0,_,_,_,h=>h
 |f+1,_,_,_,h=>⟨h.1,fun i hi=>wpOp_mono (fun a' w' h'=>ZhV.any f _ a' w' h'.2) (h.2 i hi)⟩
def Zln (md:Region.Mode) (ops:Array Oper) (stop i:Nat):Bool:=match ops[stop]? with
 |some o=>o.after.any fun e=>Region.binds md e&&e.on==i
 |none=>false
theorem Zrs {d:Array Bool} {i:Nat} (h:Zln md ops stop i=true) (hi:i∈Region.ready md ops d) (hs:stop∈Region.ready md ops d):False:=by
 obtain⟨h1,o,ho,ha⟩:=mem_ready.1 hs;unfold Zln at h;simp only[ho] at h;obtain⟨j,hj,hje⟩:=Array.any_eq_true.1 h;rw[Bool.and_eq_true] at hje;have h2:=ha _ (Array.getElem_mem hj) hje.1
 have e:(o.after[j]).on=i:=by simpa using hje.2
 rw[e] at h2;have h3:=(mem_ready.1 hi).1;rcases Yq i d.size with h'|h'
 · simp[h'] at h2 h3;rw[h3] at h2;cases h2
 · simp[Array.getElem?_eq_none h'] at h2
theorem ZhV.first {i:Nat} {oi:Oper} {v:Value} (hi:ops[i]? =some oi) (hsel: ∀(j:Nat) (o:Oper) cs b,ops[j]? =some o→o.op≠.select cs b) (hQ: ∀c a w,Q (.panic c) (a.put oi.dst v) w→Q (.panic c) a w) (hst:Zln md ops stop i=true):
 ∀(f:Nat) (d:Array Bool) (a:Act) (w:World),(∀j oj,ops[j]? =some oj→j≠i→d.getD j true=false→(∀e∈oj.after,Region.binds md e=true→e.on≠i)→oi.apart ops oj=true)→
  i∈Region.ready md ops d→YieldsIf P ops S oi v a→S w→ZhV P md ops Q S stop f (d.setIfInBounds i true) (a.put oi.dst v) w→ZhV P md ops Q S stop (f+1) d a w:=by
 intro f
 induction f with
 |zero=>
  intro d a w _ hr hy hS H;refine⟨fun h=>(by rw[h] at hr;cases hr),fun j hj=>?_⟩;by_cases e:j=i
  · rw[e];exact hy.wpOp hi hS ⟨fun _=>hS,H⟩
  · have:=ready_mono hj e
    rw[H.1] at this
    cases this
 |succ f ih=>
  intro d a w hap hr hy hS H;refine⟨fun h=>(by rw[h] at hr;cases hr),fun j hj=>?_⟩;by_cases e:j=i
  · rw[e];exact hy.wpOp hi hS ⟨fun _=>hS,H⟩
  · have hjs:j≠stop:=fun h=>Zrs hst hr (h▸hj)
    obtain⟨hj1,oj,hoj,hafter⟩:=mem_ready.1 hj
    have hno: ∀x∈oj.after,Region.binds md x=true→x.on≠i:=fun x hx hb heq=>by
     have h2:=hafter x hx hb;rw[heq] at h2;have h3:=(mem_ready.1 hr).1;rcases Yq i d.size with h'|h'
     · simp[h'] at h2 h3;rw[h3] at h2;cases h2
     · simp[Array.getElem?_eq_none h'] at h2
    have key:=wpOp_putIf hoj (hap j oj hoj e hj1 hno) (fun cs b=>hsel i oi cs b hi) (fun cs b=>hsel j oj cs b hoj) hQ hy (H.2 j (ready_mono hj e));refine wpOp_mono (fun a' w' h3=>⟨fun _=>h3.2.1 hjs,ih _ a' w' (fun k ok hk hki hun hno'=>?_) (ready_mono hr (Ne.symm e)) h3.1 (h3.2.1 hjs) (by rw[Array.setIfInBounds_comm _ _ e];exact h3.2.2)⟩) key;by_cases hjk:j=k
    · exact hap k ok hk hki (hjk▸hj1) hno'
    · exact hap k ok hk hki (by rwa [getD_set_ne true hjk] at hun) hno'
theorem Zc {i:Nat} {oi:Oper} {v:Value} {f:Nat} {d:Array Bool} {a:Act} {w:World} (hi:ops[i]? =some oi) (hs:Region.noSelect ops=true) (hf:Region.free md ops d i=true) (hr:(Region.ready md ops d).contains i=true) (hst:Zln md ops stop i=true)
 (hQ: ∀c a w,Q (.panic c) (a.put oi.dst v) w→Q (.panic c) a w) (hy:YieldsIf P ops S oi v a) (hS:S w) (h:ZhV P md ops Q S stop f (d.setIfInBounds i true) (a.put oi.dst v) w):ZhV P md ops Q S stop (f+1) d a w:=
 ZhV.first hi (Region.noSelect_spec hs) hQ hst f d a w (Region.free_spec hi hf) (by simpa using hr) hy hS h
def Za6 (P:Program) (md:Region.Mode) (ops:Array Oper) (Q:Exit→Act→World→Prop) (S:World→Prop) (stop f:Nat) (d:Array Bool) (a:Act) (w:World) (rs:List Nat):Prop:=
 ∀i∈rs,wpOp P ops Q i (fun a' w'=>(i≠stop→S w')∧ZhV P md ops Q S stop f (d.setIfInBounds i true) a' w') a w
theorem Za6.nil {f:Nat} {d:Array Bool} {a:Act} {w:World}:Za6 P md ops Q S stop f d a w []:=fun _ h=>by cases h
theorem Za6.cons {f:Nat} {d:Array Bool} {a:Act} {w:World} {i:Nat} {o:Oper} {rs:List Nat} (ho:ops[i]? =some o)
 (h: ∀K':Act→World→Prop,Shut (∀a w,(i≠stop→S w)→((i≠stop→S w)→ZhV P md ops Q S stop f (d.setIfInBounds i true) a w)→K' a w)→if Region.wanted o (yielded ops a.tmps)=true then Oper.wp P o a w K' Q else K' (a.put o.dst undef) w)
 (hs:Za6 P md ops Q S stop f d a w rs):Za6 P md ops Q S stop f d a w (i::rs):=fun j hj=>by
 rcases List.mem_cons.1 hj with rfl|hj
 · exact wpOp_step ho fun K' hK=>h K' (fun a w hS hW=>hK a w ⟨hS,hW hS⟩)
 · exact hs j hj
theorem Zp {rs:List Nat} {f:Nat} {d:Array Bool} {a:Act} {w:World} (hr:Region.ready md ops d=rs) (hne:rs≠[]) (h:Za6 P md ops Q S stop f d a w rs):ZhV P md ops Q S stop (f+1) d a w:=
 ⟨fun h0=>absurd (hr▸h0) hne,hr▸h⟩
theorem ZbL {d:Array Bool} {a:Act} {w:World} (hr:Region.ready md ops d=[]) (h:Q .normal a w): ∀f,ZhV P md ops Q S stop f d a w
 |0=>⟨hr,h⟩
 |_+1=>⟨fun _=>h,by rw[hr];simp⟩
theorem ZaY {id:Nat} {a:Act} {w:World} (hm:P.follows .mixedOrders=true) (hS:S w.drew) (h:S w.drew→ZhV P .any ops Q S stop ops.size (Array.replicate ops.size false) a w.drew):(Code.region id ops true).wp P Q a w:=
 wp_region_any hm (ZhV.any _ _ _ _ (h hS))
end
end
section
open Go
theorem ZjS {m:Nat} {P:Program} {row:String} {args:Array Value} {w:World} {R:Value→World→Prop} (h:Rows P row args w R):RowsIn Fence.wide m P row args w R:=
 fun c cs _=>let ⟨v,w',r,s⟩:=h c cs;⟨v,w',r,stepsIn_wide.2 s⟩
theorem ZjI {m:Nat} {P:Program} {o:Oper} {a:Act} {w:World} {K:Act→World→Prop} {Q:Exit→Act→World→Prop} (h:o.wp P a w K Q):o.wpIn Fence.wide m P a w K Q:=by
 unfold Oper.wpIn;refine⟨fun _ _=>trivial,?_⟩;rw[show Fence.wide.round=none from rfl,Oper.semAt_none];unfold Oper.wp at h;generalize (execOp a.eval o).run P w=r at *
 rcases r with⟨x,w'⟩|⟨x,w'⟩
 · cases x
   case enter f args=>exact⟨fun hd=>(by cases hd),callsIn_wide.2 h⟩
   case row row args=>exact⟨fun hd=>(by cases hd),ZjS h⟩
   all_goals first|exact h|exact h.elim
 · cases x <;> first|exact h|exact h.elim
theorem ZcU {m:Nat} {P:Program} {md:Region.Mode} {ops:Array Oper} {Q:Exit→Act→World→Prop} (hlo: ¬LetsOut Q):
 ∀(f:Nat) (d:Array Bool) (a:Act) (w:World),wpAny P md ops Q f d a w→wpAnyIn Fence.wide m P md ops Q f d a w
 |0,_,_,_,h=>h
 |f+1,d,a,w,h=>by
  refine⟨h.1,fun i hi=>?_⟩;have h2:=h.2 i hi;unfold wpOp at h2;unfold wpOpIn
  cases ho:ops[i]? with
  |none=>
   simp only[ho] at h2 ⊢;exact ZcU hlo f _ _ _ h2
  |some o=>
   simp only[ho] at h2 ⊢
   split
   · rename_i hw
     simp only[hw,if_true] at h2;rcases h2 with h2|h2
     · exact ZjI (Oper.wp_mono (fun a' w' h'=>ZcU hlo f _ a' w' h') h2)
     · exact absurd h2.2 hlo
   · rename_i hw
     simp only[hw] at h2;exact⟨fun _ _=>trivial,ZcU hlo f _ _ _ h2⟩
theorem Zis {m lp:Nat} {P:Program} {o:Oper} {a:Act} {w:World} {K:Act→World→Prop} {Q:Exit→Act→World→Prop} (hnd: ∀c,o.op≠.defer c) (h:o.wpIn Fence.wide m P a w K Q):o.wpIn (Fence.wide.inRound lp) m P a w K Q:=by
 unfold Oper.wpIn at *;refine⟨fun _ _=>trivial,?_⟩;have h:=h.2;rw[show(Fence.wide.inRound lp).round=some lp from rfl,Oper.semAt_some lp _ o hnd];rw[show Fence.wide.round=none from rfl,Oper.semAt_none] at h;generalize (execOp a.eval o).run P w=r at *
 cases r with
 |ok x w'=>cases x <;> exact h
 |halt x w'=>cases x <;> exact h
theorem Zb3 {m lp:Nat} {P:Program} {md:Region.Mode} {ops:Array Oper} {Q:Exit→Act→World→Prop} (hnd: ∀(j:Nat) (o:Oper) c,ops[j]? =some o→o.op≠.defer c):
 ∀(f:Nat) (done:Array Bool) (a:Act) (w:World),wpAnyIn Fence.wide m P md ops Q f done a w→wpAnyIn (Fence.wide.inRound lp) m P md ops Q f done a w
 |0,_,_,_,h=>h
 |f+1,done,a,w,h=>by
  refine⟨h.1,fun i hi=>?_⟩;have h2:=h.2 i hi;unfold wpOpIn at *
  cases ho:ops[i]? with
  |none=>
   simp only[ho] at h2 ⊢;exact Zb3 hnd f _ _ _ h2
  |some o=>
   simp only[ho] at h2 ⊢
   split
   · rename_i hw
     simp only[hw,if_true] at h2;exact Zis (fun c=>hnd i o c ho) (Oper.wpIn_mono (fun a' w' h'=>Zb3 hnd f _ a' w' h') h2)
   · rename_i hw
     simp only[hw] at h2;exact⟨fun _ _=>trivial,Zb3 hnd f _ _ _ h2.2⟩
theorem Zji {m lp id stop:Nat} {P:Program} {l:List Oper} {Q:Exit→Act→World→Prop} {S:World→Prop} {a:Act} {w:World} (hm:P.follows .mixedOrders=true) (hnd:(l.all fun o=>match o.op with|.defer _=>false|_=>true)=true) (hlo: ¬LetsOut Q) (hS:S w.drew)
 (h:S w.drew→ZhV P .any l.toArray Q S stop l.toArray.size (Array.replicate l.toArray.size false) a w.drew):(Code.region id l.toArray true).wpIn (Fence.wide.inRound lp) m P Q a w:=by
 refine wpIn_region_any hm (Zb3 (fun j o c ho e=>?_) _ _ _ _ (ZcU hlo _ _ _ _ (ZhV.any _ _ _ _ (h hS))))
 have hmem:o∈l:=by
  rw[List.getElem?_toArray] at ho;exact Yo ho
 have:=List.all_eq_true.1 hnd o hmem
 rw[e] at this
 cases this
end
section
open Go.RowKit Go.Lib
section
end
end
section
open Go.RowKit Go.Lib
def ZfF (base:Nat) (k:Nat):Prop:=base≤k
end
section
open Go.RowKit
end
section
open Go.RowKit Go.Lib
end
end Go.Proofs.YteieocddfnlmdaaGreatDoor
