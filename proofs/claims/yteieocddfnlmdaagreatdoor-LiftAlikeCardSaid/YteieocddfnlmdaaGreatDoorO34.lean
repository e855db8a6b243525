/- Package reach: Breadth, Depth; the document's Flat; plans th slices.Sort at ints of this program: the library's contract What plans meet, counted. No program in it. -/
import Derived.Test.YteieocddfnlmdaaGreatDoorO33
import Derived.Shelf.Sort.Plain
import Derived.Shelf.Slices.In.SortNone
import Derived.Lib.SortBridge
import Derived.Test.YteieocddfnlmdaaGreatDoorO30
set_option maxRecDepth 100000
set_option maxHeartbeats 32000000
set_option linter.unusedSimpArgs false
set_option linter.unusedVariables false
namespace Go.Proofs.YteieocddfnlmdaaGreatDoor
section
open Go.RowKit Go.Lib
theorem ZhK {g:Gr} (hg:ZC g=true) (x:Int):ZdR (Zax g x)≤8193:=by
 by_cases hlt:x.toNat<g.nd.length
 · have hm:Zax g x∈g.nd:=by
    unfold Zax;rw[Yn,Ya hlt];exact List.getElem_mem hlt
   obtain⟨-,h2,h3, -⟩:=Zb9.1 ((ZbD.1 hg).1 _ hm);unfold ZdR Zjs;rw[ZiY _ (by omega) (by omega)];omega
 · have:Zax g x=noNd:=by
    unfold Zax;rw[Yn,List.getElem?_eq_none (by omega)];rfl
   rw[this];unfold ZdR Zjs noNd;rw[ZiY _ (by simp) (by simp)];simp
section
variable {g:Gr} {l1 l2:Int}
theorem ZeZ (hg:ZC g=true) (h1:8193≤l1) (h2:8193≤l2) (v:Sp) (s:PSt):ZO g l1 v s=ZO g l2 v s∧Zcg g l1 v s=Zcg g l2 v s:=by
 have hs:=ZhK hg v.2
 have a1: ¬l1<ZdR (Zax g v.2):=by omega
 have a2: ¬l2<ZdR (Zax g v.2):=by omega
 unfold ZO Zcg;rw[if_neg a1,if_neg a2,Yl a1,Yl a2];exact⟨rfl,rfl⟩
theorem Zh3 (hg:ZC g=true) (h1:8193≤l1) (h2:8193≤l2): ∀(l:List Sp) (s:PSt),Za3 g l1 l s=Za3 g l2 l s
 |[],s=>rfl
 |v::l,s=>by
  show Za3 g l1 l (ZO g l1 v s)=Za3 g l2 l (ZO g l2 v s);rw[(ZeZ hg h1 h2 v s).1];exact Zh3 hg h1 h2 l _
theorem Zpf (hg:ZC g=true) (h1:8193≤l1) (h2:8193≤l2): ∀(n:Nat) (l:List Sp) (s:PSt),lookD g l1 n l s=lookD g l2 n l s:=by
 intro n
 induction n with
 |zero=>
  intro l
  induction l with
  |nil=>intro s;rw[lookD,lookD]
  |cons v l ih=>intro s;rw[lookD,lookD,(ZeZ hg h1 h2 v s).1];exact ih _
 |succ n ihn=>
  intro l
  induction l with
  |nil=>intro s;rw[lookD,lookD]
  |cons v l ih=>
   intro s;rw[lookD,lookD,(ZeZ hg h1 h2 v s).1,(ZeZ hg h1 h2 v s).2,ihn];exact ih _
theorem ZiM (hg:ZC g=true) (h1:8193≤l1) (h2:8193≤l2) (o:Int) (l:List Sp) (s:PSt):Zaj g l1 o l s=Zaj g l2 o l s:=by
 unfold Zaj;rw[Zpf hg h1 h2,Zh3 hg h1 h2]
theorem ZoS (hg:ZC g=true) (h1:8193≤l1) (h2:8193≤l2) (o b:Int): ∀(n:Nat) (s:PSt),ZdQ g l1 o b n s=ZdQ g l2 o b n s
 |0,s=>rfl
 |n+1,s=>by
  have hs:Zbg g l1 o b s=Zbg g l2 o b s:=by
   unfold Zbg;simp only[ZiM hg h1 h2]
  rw[ZdQ,ZdQ,hs]
  cases Zbg g l2 o b s with
  |none=>rfl
  |some s'=>exact ZoS hg h1 h2 o b n s'
theorem ZpJ (hg:ZC g=true) (h1:8193≤l1) (h2:8193≤l2) (o b:Int):ZcM g l1 o b=ZcM g l2 o b:=by
 unfold ZcM;rw[ZiM hg h1 h2,ZoS hg h1 h2]
end
def ZbN (g:Gr):Int:=if ZC g=true then 0 else 4
def flatL (g:Gr) (order:Int):List Int:=if ZC g=true then(ZcM g 1000000 order 1).small else[]
theorem Zsv {g:Gr} {lim order:Int} (hl:8193≤lim) (ho:order=0∨order=1):Zc3 g lim order 1=ZbN g∧Zad g lim order 1=flatL g order:=by
 have he:Zc3 g lim order 1=ZbN g:=by
  unfold Zc3 ZbN;by_cases h:ZC g=true
  · rw[if_pos h,if_pos h,if_neg (by omega)]
  · rw[if_neg h,if_neg h]
 refine⟨he,?_⟩;unfold Zad flatL;rw[he];unfold ZbN;by_cases h:ZC g=true
 · rw[if_pos h,if_pos rfl,if_pos h]
   exact congrArg PSt.small (ZpJ h hl (by decide) order 1)
 · rw[if_neg h,if_neg (by decide),if_neg h]
def ZuG (f:FuncId) (order:Int):Prop:= ∀(g:Gr) (vn vr:Value) (hs:List (Value×Value)) (B:Nat) (W:World),RdG W B g vn vr hs→B≤W.heap.size→GrFit g→GrBd g→
 Calls Tryz.prog f #[.agg #[vn,vr]] W fun e w'=> ∃v1,e=.returned (.tuple #[v1,.int .i64 (ZbN g)])∧OwR w' W.heap.size 3 v1 (flatL g order).length (i64s (flatL g order))∧Only nob W w'
theorem ZhJ (W:World) (A Ar:Option Addr) (n c m cr:Nat): ∃X,W.alloc (.cells #[.slice A n c,.slice Ar m cr] 34)=X∧Only nob W X∧Blk X W.heap.size 34 #[.slice A n c,.slice Ar m cr]:=⟨_,rfl,(Only.refl nob W).alloc _,Blk.new _ _ _⟩
theorem OwR.more {w:World} {base base':Nat} {E:TypeId} {v:Value} {n:Nat} {xs:List Value} (h:OwR w base E v n xs) (hk:base'≤base):OwR w base' E v n xs:=by
 refine⟨h.1,?_⟩
 rcases h.2 with h0|⟨g,o,cap,cur,rfl,hb,rest⟩
 · exact .inl h0
 · exact .inr ⟨g,o,cap,cur,rfl,Yi hk hb,rest⟩
theorem Zif:ZuG 76 0:=by
 intro g vn vr hs B W hr hB hfit hbd;obtain⟨An,cn,rfl,hacn,hcmn⟩:=hr.nodes.form;obtain⟨Ar,cr,rfl,hacr,hcmr⟩:=hr.roots.form;obtain⟨W1,hW1,o1,b1⟩:=ZhJ W An Ar g.nd.length cn g.rt.length cr;have HW1:=ZZ hW1;have O1:=ZZ o1;have HC:=ZZ (ZeF g _ _ hs B W1 9223372036854775807 1 (hr.only o1 hB) (Yi hB o1.size) hfit hbd (by decide));obtain⟨f1,f2⟩:=Zsv (g:=g) (lim:=9223372036854775807) (order:=0) (by decide) (by decide);rw[f1,f2] at HC;have c0:W1.cell? ⟨W.heap.size,0,none⟩=some (.slice An g.nd.length cn):=b1.cell 0;have c1:W1.cell? ⟨W.heap.size,1,none⟩=some (.slice Ar g.rt.length cr):=b1.cell 1;clear hW1 o1 b1 hr hB hfit hbd f1 f2
 go_enter Tryz.func76,Tryz.ntmps76
 go_upto_region 1 with fail
 rw[HW1.out]
 go_wp2_with fail
 go_at_call 78;refine HC.out.mono ?_;rintro e w2 ⟨v1,v2,rfl,h1,h2,o2⟩;have H1:=ZZ (h1.more O1.out.size);have O2:=ZZ (O1.out.trans o2);obtain⟨A2,k2,rfl, -, -⟩:=h1.form;obtain⟨A3,k3,rfl, -, -⟩:=h2.form;clear h1 h2 o2 c0 c1;go_wp2;go_ret2;exact⟨_,rfl,H1.out,O2.out⟩
end
section
open Go.RowKit Go.Lib
theorem ZdE {g:Gr} (hg:ZC g=true) (lim order block:Int):Wf g (ZcM g lim order block):=by
 obtain⟨h1,h2⟩:=ZdN lim order hg;exact(ZgE (block:=block) hg (g.nd.length+1) _ h1 h2 (by omega)).1
theorem ZlM (g:Gr) (lim order block:Int):(Zad g lim order block).length≤g.nd.length∧(Zao g lim order block).length≤g.nd.length:=by
 unfold Zad Zao;by_cases h:Zc3 g lim order block=0
 · rw[if_pos h,if_pos h]
   have hg:ZC g=true:=by
    unfold Zc3 at h;by_cases hg:ZC g=true
    · exact hg
    · rw[if_neg hg] at h;cases h
   have:=(ZdE hg lim order block).room
   rw[Zbr] at this;omega
 · rw[if_neg h,if_neg h];simp
def Zuo (f:FuncId):Prop:= ∀(g:Gr) (vn vr:Value) (hs:List (Value×Value)) (B:Nat) (W:World) (lim:Int),RdG W B g vn vr hs→B≤W.heap.size→GrFit g→GrBd g→g.nd.length≤1000→
 Calls Tryz.prog f #[.agg #[vn,vr],.int .i64 lim] W fun e w'=>e=.returned (.tuple #[.int .i64 (Zjg g (Zad g lim 0 1)),.int .i64 (Zjg g (Zao g lim 0 1)),.int .i64 (wrap64 (Zj8 g (Zad g lim 0 1)+Zj8 g (Zao g lim 0 1))),.int .i64 (Zc3 g lim 0 1)])∧Only nob W w'
theorem Zuj:Zuo 38:=by
 intro g vn vr hs B W lim hr hB hfit hbd hN;obtain⟨An,cn,rfl,hacn,hcmn⟩:=hr.nodes.form;obtain⟨Ar,cr,rfl,hacr,hcmr⟩:=hr.roots.form;obtain⟨W1,hW1,o1,b1⟩:=ZhJ W An Ar g.nd.length cn g.rt.length cr;have HW1:=ZZ hW1;have O1:=ZZ o1;have HC:=ZZ (ZeF g _ _ hs B W1 lim 1 (hr.only o1 hB) (Yi hB o1.size) hfit hbd (by decide));obtain⟨hl1,hl2⟩:=ZlM g lim 0 1
 obtain⟨E,hE⟩: ∃E,E=Zc3 g lim 0 1:=⟨_,rfl⟩
 obtain⟨S,hS⟩: ∃S,S=Zad g lim 0 1:=⟨_,rfl⟩
 obtain⟨L,hL⟩: ∃L,L=Zao g lim 0 1:=⟨_,rfl⟩
 rw[← hS] at hl1;rw[← hL] at hl2;rw[← hE, ← hS, ← hL] at HC ⊢;have c0:W1.cell? ⟨W.heap.size,0,none⟩=some (.slice An g.nd.length cn):=b1.cell 0;have c1:W1.cell? ⟨W.heap.size,1,none⟩=some (.slice Ar g.rt.length cr):=b1.cell 1
 obtain⟨ws,hws⟩: ∃z,z=Zjg g S:=⟨_,rfl⟩
 obtain⟨wl,hwl⟩: ∃z,z=Zjg g L:=⟨_,rfl⟩
 obtain⟨fs,hfs⟩: ∃z,z=Zj8 g S:=⟨_,rfl⟩
 obtain⟨fl,hfl⟩: ∃z,z=Zj8 g L:=⟨_,rfl⟩
 have HF1:=ZZ (fun (v:Value) (W':World) (o:Only nob W W') (h:Sl W' W'.heap.size 1 v S.length (i64s S))=>ZeG g S _ _ v hs W'.heap.size W' ((hr.only o hB).more (Yi hB o.size)) h (Yj _) hfit (by omega));have HF2:=ZZ (fun (v:Value) (W':World) (o:Only nob W W') (h:Sl W' W'.heap.size 1 v L.length (i64s L))=>ZeG g L _ _ v hs W'.heap.size W' ((hr.only o hB).more (Yi hB o.size)) h (Yj _) hfit (by omega));have HX1:=ZZ (fun (v:Value) (W':World) (o:Only nob W W') (h:Sl W' W'.heap.size 1 v S.length (i64s S))=>Zfe g S _ _ v hs W'.heap.size W' ((hr.only o hB).more (Yi hB o.size)) h (Yj _) hfit (by omega));have HX2:=ZZ (fun (v:Value) (W':World) (o:Only nob W W') (h:Sl W' W'.heap.size 1 v L.length (i64s L))=>Zfe g L _ _ v hs W'.heap.size W' ((hr.only o hB).more (Yi hB o.size)) h (Yj _) hfit (by omega));rw[← hws] at HX1;rw[← hwl] at HX2;rw[← hfs] at HF1;rw[← hfl] at HF2;rw[← hws, ← hwl, ← hfs, ← hfl];clear hW1 o1 b1 hr hB hfit hbd hE hS hL hws hwl hfs hfl hN hl1 hl2
 go_enter Tryz.func38,Tryz.ntmps38
 go_upto_region 1 with fail
 rw[HW1.out]
 go_wp2_with fail
 go_at_call 78;refine HC.out.mono ?_;rintro e w2 ⟨v1,v2,rfl,h1,h2,o2⟩;have HA:=ZZ h1;have HB:=ZZ h2;have O2:=ZZ (O1.out.trans o2);have d0:=o2.keeps c0;have d1:=o2.keeps c1;obtain⟨A2,k2,rfl, -, -⟩:=h1.form;obtain⟨A3,k3,rfl, -, -⟩:=h2.form;have HSL:=ZZ (fun (W':World) (o:Only nob w2 W')=>(HA.out.only o fun _ _ h=>h).sl);have HSR:=ZZ (fun (W':World) (o:Only nob w2 W')=>(HB.out.only o fun _ _ h=>h).sl);clear h1 h2 o2 c0 c1;have mixed:=ZeT
 go_upto_region 2 with fail
 have OC:=ZZ (show Only nob w2 w2.drew from(Only.refl nob w2).drewN 1)
 go_region_held3 (fun w'=>w'.cell? ⟨W.heap.size,0,none⟩=some (.slice An g.nd.length cn)∧w'.cell? ⟨W.heap.size,1,none⟩=some (.slice Ar g.rt.length cr)) (first|(with_reducible exact And.intro (OC.out.keeps d0) (OC.out.keeps d1))|go_keep)
  (first
    |(go_at_call 79
      with_reducible refine(HF1.out _ _ (O2.out.trans OC.out) (HSL.out _ OC.out)).mono ?_
      rintro e wt ⟨rfl,o⟩;have OC:=ZZ (OC.out.trans o)
      clear o)
    |(go_at_call 79
      with_reducible refine(HF2.out _ _ (O2.out.trans OC.out) (HSR.out _ OC.out)).mono ?_
      rintro e wt ⟨rfl,o⟩;have OC:=ZZ (OC.out.trans o)
      clear o))
 all_goals
  have mixed:=ZeT
  go_upto_region 3 with fail
  have OC:=ZZ (show Only nob w2 (World.drew _) from OC.out.drewN 1)
  go_region_held3 (fun w'=>w'.cell? ⟨W.heap.size,0,none⟩=some (.slice An g.nd.length cn)∧w'.cell? ⟨W.heap.size,1,none⟩=some (.slice Ar g.rt.length cr)) (first|(with_reducible exact And.intro (OC.out.keeps d0) (OC.out.keeps d1))|go_keep)
   (first
     |(go_at_call 23
       with_reducible refine(HX1.out _ _ (O2.out.trans OC.out) (HSL.out _ OC.out)).mono ?_
       rintro e wt ⟨rfl,o⟩;have OC:=ZZ (OC.out.trans o)
       clear o)
     |(go_at_call 23
       with_reducible refine(HX2.out _ _ (O2.out.trans OC.out) (HSR.out _ OC.out)).mono ?_
       rintro e wt ⟨rfl,o⟩;have OC:=ZZ (OC.out.trans o)
       clear o))
 all_goals
  have OE:=ZZ (O2.out.trans OC.out);go_wp2;exact bodyPost_ret (v:=.tuple #[.int .i64 ws,.int .i64 wl,.int .i64 (wrap64 (fs+fl)),.int .i64 E]) (by simp[results,Tryz.results38,go_sem,Zso]) rfl ⟨rfl,OE.out⟩
def Zqm (l:List Int) (n:Nat):List Int:=((List.range n).map fun k:Nat=>(k:Int)).filter fun x=>decide (x∈l)
def Zcf (g:Gr):List Int:=Zqm (flatL g 0) g.nd.length
theorem ZkL (l:List Int) (n:Nat):(Zqm l n).length≤n:=by
 unfold Zqm;exact Yi (List.length_filter_le _ _) (by simp)
def Zs7 (f:FuncId):Prop:= ∀(g:Gr) (vn vr:Value) (hs:List (Value×Value)) (B:Nat) (W:World),RdG W B g vn vr hs→B≤W.heap.size→GrFit g→GrBd g→
 Calls Tryz.prog f #[.agg #[vn,vr]] W fun e w'=> ∃v1,e=.returned (.tuple #[v1,.int .i64 (ZbN g)])∧OwR w' W.heap.size 3 v1 (Zcf g).length (i64s (Zcf g))∧Only nob W w'
end
section
open Go.Shelf
def lays189_ren:Go.Shelf.Ren:=⟨fun|125=>117|128=>161|129=>162|189=>77|215=>203|216=>158|257=>116|294=>152|295=>153|296=>154|297=>155|298=>156|299=>157|300=>159|301=>160|328=>198|329=>199|330=>200|331=>201|332=>202|343=>227|n=>n,fun|0=>0|3=>3|4=>4|5=>5|9=>9|28=>35|46=>165|51=>206|53=>48|131=>203|182=>197|183=>198|218=>241|222=>245|228=>268|229=>126|n=>n,fun|n=>n⟩
theorem Zny:Lays.n189 Tryz.prog lays189_ren:={
 mixed:=by kernel_rfl
 f125:=Tryz.func117.trans (congrArg some (by kernel_rfl))
 f128:=Tryz.func161.trans (congrArg some (by kernel_rfl))
 f129:=Tryz.func162.trans (congrArg some (by kernel_rfl))
 f189:=Tryz.func77.trans (congrArg some (by kernel_rfl))
 f215:=Tryz.func203.trans (congrArg some (by kernel_rfl))
 f216:=Tryz.func158.trans (congrArg some (by kernel_rfl))
 f257:=Tryz.func116.trans (congrArg some (by kernel_rfl))
 f294:=Tryz.func152.trans (congrArg some (by kernel_rfl))
 f295:=Tryz.func153.trans (congrArg some (by kernel_rfl))
 f296:=Tryz.func154.trans (congrArg some (by kernel_rfl))
 f297:=Tryz.func155.trans (congrArg some (by kernel_rfl))
 f298:=Tryz.func156.trans (congrArg some (by kernel_rfl))
 f299:=Tryz.func157.trans (congrArg some (by kernel_rfl))
 f300:=Tryz.func159.trans (congrArg some (by kernel_rfl))
 f301:=Tryz.func160.trans (congrArg some (by kernel_rfl))
 f328:=Tryz.func198.trans (congrArg some (by kernel_rfl))
 f329:=Tryz.func199.trans (congrArg some (by kernel_rfl))
 f330:=Tryz.func200.trans (congrArg some (by kernel_rfl))
 f331:=Tryz.func201.trans (congrArg some (by kernel_rfl))
 f332:=Tryz.func202.trans (congrArg some (by kernel_rfl))
 f343:=Tryz.func227.trans (congrArg some (by kernel_rfl))
 t0:=Tryz.underlying0
 a0:=Tryz.isAgg0
 z0:=Tryz.sizeOf0
 v0:=Tryz.zeroValue0
 t3:=Tryz.underlying3
 a3:=Tryz.isAgg3
 z3:=Tryz.sizeOf3
 v3:=Tryz.zeroValue3
 t4:=Tryz.underlying4
 a4:=Tryz.isAgg4
 z4:=Tryz.sizeOf4
 v4:=Tryz.zeroValue4
 t5:=Tryz.underlying5
 a5:=Tryz.isAgg5
 z5:=Tryz.sizeOf5
 v5:=Tryz.zeroValue5
 t9:=Tryz.underlying9
 a9:=Tryz.isAgg9
 z9:=Tryz.sizeOf9
 v9:=Tryz.zeroValue9
 t28:=Tryz.underlying35
 a28:=Tryz.isAgg35
 z28:=Tryz.sizeOf35
 v28:=Tryz.zeroValue35
 t46:=Tryz.underlying165
 a46:=Tryz.isAgg165
 z46:=Tryz.sizeOf165
 v46:=Tryz.zeroValue165
 t51:=Tryz.underlying206
 a51:=Tryz.isAgg206
 z51:=Tryz.sizeOf206
 v51:=Tryz.zeroValue206
 t53:=Tryz.underlying48
 a53:=Tryz.isAgg48
 z53:=Tryz.sizeOf48
 v53:=Tryz.zeroValue48
 t131:=Tryz.underlying203
 a131:=Tryz.isAgg203
 z131:=Tryz.sizeOf203
 v131:=Tryz.zeroValue203
 t182:=Tryz.underlying197
 a182:=Tryz.isAgg197
 z182:=Tryz.sizeOf197
 v182:=Tryz.zeroValue197
 t183:=Tryz.underlying198
 a183:=Tryz.isAgg198
 z183:=Tryz.sizeOf198
 v183:=Tryz.zeroValue198
 t218:=Tryz.underlying241
 a218:=Tryz.isAgg241
 z218:=Tryz.sizeOf241
 v218:=Tryz.zeroValue241
 t222:=Tryz.underlying245
 a222:=Tryz.isAgg245
 z222:=Tryz.sizeOf245
 v222:=Tryz.zeroValue245
 t228:=Tryz.underlying268
 a228:=Tryz.isAgg268
 z228:=Tryz.sizeOf268
 v228:=Tryz.zeroValue268
 t229:=Tryz.underlying126
 a229:=Tryz.isAgg126
 z229:=Tryz.sizeOf126
 v229:=Tryz.zeroValue126}
end
section
open Go.RowKit Go.Lib Go.Sort Go.Shelf
theorem ZgN {b:Nat} {E:TypeId}: ∀(vs:List Value) (o:Nat) (w:World) (cur:Array Value),Blk w b E cur→o+vs.length≤cur.size→ ∃cur',Blk (w.setCells b o vs) b E cur'∧cur'.size=cur.size∧(cur'.toList.drop o).take vs.length=vs∧(∀j,j<o→cur'[j]? =cur[j]?)∧Only (isb b) w (w.setCells b o vs)
 |[],o,w,cur,h,_=>⟨cur,h,rfl,by simp,fun _ _=>rfl,Only.refl _ _⟩
 |v::r,o,w,cur,h,hl=>by
  have hl':o+(r.length+1)≤cur.size:=hl;obtain⟨c',h1,h2,h3,h4,h5⟩:=ZgN r (o+1) _ _ (h.put o v) (by simp;omega);refine⟨c',h1,by simpa using h2,?_,fun j hj=>?_,(Zd w b o v).trans h5⟩
  · have hv:c'.toList[o]? =some v:=by rw[Array.getElem?_toList,h4 o (by omega),Array.getElem?_setIfInBounds_self_of_lt (by omega)]
    obtain⟨hlt,hv2⟩:=Yk.1 hv;rw[List.drop_eq_getElem_cons hlt,List.length_cons,List.take_succ_cons,h3,hv2]
  · rw[h4 j (by omega),Array.getElem?_setIfInBounds_ne (by omega)]
theorem ZdU (l:List Int):(l.mergeSort fun x y=>decide (x≤y)).length=l.length:=List.length_mergeSort ..
theorem Zum (w:World) (base:Nat) (v:Value) (l:List Int) (h:OwR w base 3 v l.length (i64s l)) (hl:l.length<4611686018427387904):
 Calls Tryz.prog 77 #[v] w fun e w'=>e=.returned (.tuple #[])∧OwR w' base 3 v l.length (i64s (l.mergeSort fun x y=>decide (x≤y)))∧Only (fun k=>v.ownBlock=some k) w w':=by
 rcases l with _|⟨x,l⟩
 · obtain⟨A,c,rfl, -, -⟩:=h.form
   refine(Any.slices_Sort_int_none Zny A c w).mono ?_;rintro e w' ⟨rfl,rfl⟩;exact⟨rfl,by simpa using h,Only.refl _ _⟩
 · obtain⟨L,hL⟩: ∃L,L=x::l:=⟨_,rfl⟩
   rw[← hL] at h hl ⊢;obtain⟨A,c,rfl, -, -⟩:=h.form
   rcases h.2 with⟨e,e2⟩|⟨g,o,cap,cur,e,hb,hg,h1,h2,h3,h4⟩
   · rw[hL] at e2;cases e2
   · simp only[Value.slice.injEq] at e
     obtain⟨rfl, -,rfl⟩:=e;have hbk:Blk w g 3 cur:=hg
     have hc: ∀j,j<L.length→w.cell? ⟨g,o+j,none⟩=some (.int .i64 (L.getD j 0)):=fun j hj=>by
      rw[hbk.cell, ← Array.getElem?_toList]
      have h5:(i64s L)[j]? =some (.int .i64 (L.getD j 0)):=by
       unfold i64s;rw[List.getElem?_map,Yn,Ya hj];rfl
      rw[← h4,List.getElem?_take_of_lt hj,List.getElem?_drop] at h5;exact h5
     have hH:=Lib.holds_of_ints (Yj _) hc fun j _=>hbk.free _;rw[List.take_length] at hH;refine(Any.slices_Sort_int Zny g o c L w hH hbk.lt hl).mono ?_;rintro e w' ⟨rfl,q,os,rfl⟩
     obtain⟨S,hS⟩: ∃S,S=L.mergeSort fun x y=>decide (x≤y):=⟨_,rfl⟩
     have hSl:S.length=L.length:=by rw[hS];exact ZdU L
     rw[← hS,Lib.sorted_world _ w g o q _ _ os hH (by simpa using hSl)];obtain⟨cur',q1,q2,q3, -,q5⟩:=ZgN (S.map (Value.int .i64)) o (w.drewN q) cur (hbk.drewN q) (by simp;omega);have o1:Only (isb g) w ((w.drewN q).setCells g o (S.map (Value.int .i64))):=((Only.refl _ w).drewN q).trans q5;have hh: ∀k,k<((w.drewN q).setCells g o (S.map (Value.int .i64))).heap.size→(grow ((w.drewN q).setCells g o (S.map (Value.int .i64))) os).heap[k]? =((w.drewN q).setCells g o (S.map (Value.int .i64))).heap[k]? :=fun k hk=>heap_grow_old _ os hk;refine⟨rfl,⟨by simpa[i64s] using hSl,.inr ⟨g,o,c,cur',rfl,hb,(hh g q1.lt).trans q1,h1,h2,by omega,?_⟩⟩,⟨o1.os,o1.tape,o1.output,Yi o1.size (by simp),fun k hk hn=>(hh k (Yw hk o1.size)).trans (o1.block k hk fun e=>hn (by rw[e];rfl))⟩⟩;rw[List.length_map,hSl] at q3;exact q3
theorem ZkV {l:List Int} {n:Nat} {x:Int}:x∈Zqm l n↔x∈l∧0≤x∧x<n:=by
 unfold Zqm;rw[List.mem_filter,List.mem_map];constructor
 · rintro⟨⟨k,hk,rfl⟩,h⟩
   have:=List.mem_range.1 hk
   exact⟨by simpa using h,by omega,by omega⟩
 · rintro⟨h1,h2,h3⟩
   exact⟨⟨x.toNat,List.mem_range.2 (by omega),by omega⟩,by simpa using h1⟩
theorem ZnS (l:List Int) (n:Nat):(Zqm l n).Pairwise (· < ·):=by
 unfold Zqm;refine List.Pairwise.filter _ ?_;rw[List.pairwise_map];exact List.Pairwise.imp (fun h=>by omega) List.pairwise_lt_range
theorem ZnW {l:List Int} {n:Nat} (hn:l.Nodup) (hr: ∀x∈l,0≤x∧x<(n:Int)):(l.mergeSort fun x y=>decide (x≤y))=Zqm l n:=by
 have p1:(l.mergeSort fun x y=>decide (x≤y)).Perm (Zqm l n):=by
  refine(List.mergeSort_perm l _).trans ((List.perm_ext_iff_of_nodup hn ((ZnS l n).imp fun h=>by omega)).2 fun x=>?_);rw[ZkV];exact⟨fun h=>⟨h,hr x h⟩,fun h=>h.1⟩
 have s1:=List.pairwise_mergeSort (le:=fun x y:Int=>decide (x≤y)) (fun a b c h1 h2=>by simp at h1 h2 ⊢;omega) (fun a b=>by simp;omega) l;refine List.Perm.eq_of_pairwise (le:=fun x y:Int=>decide (x≤y)=true) (fun a b _ _ h1 h2=>by simp at h1 h2;omega) s1 ((ZnS l n).imp fun h=>by simp;omega) p1
theorem flat_rising (g:Gr):((flatL g 0).mergeSort fun x y=>decide (x≤y))=Zcf g:=by
 unfold Zcf;refine ZnW ?_ fun x hx=>?_
 · unfold flatL
   by_cases h:ZC g=true
   · rw[if_pos h]
     exact(List.nodup_append.1 (ZdE h 1000000 0 1).nodup).1
   · rw[if_neg h];exact List.nodup_nil
 · unfold flatL at hx
   by_cases h:ZC g=true
   · rw[if_pos h] at hx
     exact(ZdE h 1000000 0 1).rng x (Yr.2 (.inl hx))
   · rw[if_neg h] at hx;cases hx
theorem flat_len (g:Gr) (hbd:GrBd g):(flatL g 0).length≤1000:=by
 have h1:(flatL g 0).length=(Zcf g).length:=by rw[← flat_rising g];exact(ZdU _).symm
 have:=ZkL (flatL g 0) g.nd.length
 have:=hbd.nd
 unfold Zcf at h1;omega
theorem reach_len (g:Gr):(Zcf g).length=(flatL g 0).length:=by rw[← flat_rising g];exact ZdU _
theorem Zsu:Zs7 37:=by
 intro g vn vr hs B W hr hB hfit hbd;obtain⟨An,cn,rfl,hacn,hcmn⟩:=hr.nodes.form;obtain⟨Ar,cr,rfl,hacr,hcmr⟩:=hr.roots.form;obtain⟨W1,hW1,o1,b1⟩:=ZhJ W An Ar g.nd.length cn g.rt.length cr;have HW1:=ZZ hW1;have O1:=ZZ o1;have HC:=ZZ (Zif g _ _ hs B W1 (hr.only o1 hB) (Yi hB o1.size) hfit hbd);have HF:=ZZ (And.intro (flat_rising g) (And.intro (flat_len g hbd) (reach_len g)));have c0:W1.cell? ⟨W.heap.size,0,none⟩=some (.slice An g.nd.length cn):=b1.cell 0;have c1:W1.cell? ⟨W.heap.size,1,none⟩=some (.slice Ar g.rt.length cr):=b1.cell 1;clear hW1 o1 b1 hr hB hfit hbd
 go_enter Tryz.func37,Tryz.ntmps37
 go_upto_region 1 with fail
 rw[HW1.out]
 go_wp2_with fail
 go_at_call 76;refine HC.out.mono ?_;rintro e w2 ⟨v1,rfl,h1,o2⟩;have H1:=ZZ h1;have O2:=ZZ (O1.out.trans o2);have HS:=ZZ (Zum w2 _ v1 (flatL g 0) h1 (by have:=HF.out.2.1;omega));obtain⟨A2,k2,rfl, -, -⟩:=h1.form;clear h1 o2 c0 c1
 go_wp2_with fail
 go_at_call 77;refine HS.out.mono ?_;rintro e w3 ⟨rfl,h3,o3⟩;rw[HF.out.1, ← HF.out.2.2] at h3;have H3:=ZZ (h3.more O1.out.size);have O3:=ZZ (O2.out.andThen o3 fun i hi e=>absurd (H1.out.lt e).1 (by have:=O1.out.size;omega));rw[← HF.out.2.2];clear h3 o3;go_wp2;go_ret2;exact⟨_,rfl,H3.out,O3.out⟩
end
section
open Go.RowKit Go.Lib
def gV:Gr:=⟨[],[(2,0)]⟩
theorem ZcZ {g:Gr} (hg:ZC g=true) {lim:Int} (hl:8193≤lim): ∀(l:List Sp) (s:PSt),s.large=[]→(Za3 g lim l s).large=[]
 |[],s,h=>h
 |v::l,s,h=>by
  show(Za3 g lim l (ZO g lim v s)).large=[];refine ZcZ hg hl l _ ?_;have hs:=ZhK hg v.2;unfold ZO;rw[if_neg (show ¬lim<ZdR (Zax g v.2) by omega)];by_cases hn:Z7 v s=true
  · rw[if_pos hn];exact h
  · rw[if_neg hn];exact h
theorem ZkM {g:Gr} (hg:ZC g=true) {lim:Int} (hl:8193≤lim) (b:Int): ∀(n:Nat) (s:PSt),s.large=[]→(ZdQ g lim 0 b n s).large=[]
 |0,s,h=>h
 |n+1,s,h=>by
  rw[ZdQ]
  cases hs:Zbg g lim 0 b s with
  |none=>exact h
  |some s'=>
   refine ZkM hg hl b n s' ?_;unfold Zbg at hs
   split at hs
   · obtain rfl:=Yp hs
     unfold Zaj;rw[if_neg (by decide)];exact ZcZ hg hl _ _ h
   · split at hs
     · cases hs
     · obtain rfl:=Yp hs
       unfold Zaj;rw[if_neg (by decide)];exact ZcZ hg hl _ _ h
theorem ZlQ {g:Gr} (hg:ZC g=true):(ZcM g 1000000 0 1).large=[]:=by
 unfold ZcM;refine ZkM hg (by decide) 1 _ _ ?_;unfold Zaj;rw[if_neg (by decide)];exact ZcZ hg (by decide) _ _ rfl
end
end Go.Proofs.YteieocddfnlmdaaGreatDoor
