/- Package reach: Breadth, Depth; the document's Flat; plans th -/
import Derived.Test.YteieocddfnlmdaaGreatDoorQ35
set_option maxRecDepth 100000
set_option maxHeartbeats 32000000
set_option linter.unusedSimpArgs false
set_option linter.unusedVariables false
namespace Go.Proofs.YteieocddfnlmdaaGreatDoor
section
open Go.RowKit Go.Lib
theorem ZnD {g:Gr} (hg:Z9 g=true) (x:Int):ZbK (ZbC g x)≤8193:=by
 by_cases hlt:x.toNat<g.nd.length
 · have hm:ZbC g x∈g.nd:=by
    unfold ZbC;rw[Yn,Ya hlt];exact List.getElem_mem hlt
   obtain⟨-,h2,h3, -⟩:=Zb6.1 ((Zb9.1 hg).1 _ hm);unfold ZbK ZhH;rw[ZdV _ (by omega) (by omega)];omega
 · have:ZbC g x=noNd:=by
    unfold ZbC;rw[Yn,List.getElem?_eq_none (by omega)];rfl
   rw[this];unfold ZbK ZhH noNd;rw[ZdV _ (by simp) (by simp)];simp
section
variable {g:Gr} {l1 l2:Int}
theorem ZeT (hg:Z9 g=true) (h1:8193≤l1) (h2:8193≤l2) (v:Sp) (s:PSt):Zv g l1 v s=Zv g l2 v s∧ZaJ g l1 v s=ZaJ g l2 v s:=by
 have hs:=ZnD hg v.2
 have a1: ¬l1<ZbK (ZbC g v.2):=by omega
 have a2: ¬l2<ZbK (ZbC g v.2):=by omega
 unfold Zv ZaJ;rw[if_neg a1,if_neg a2,Yl a1,Yl a2];exact⟨rfl,rfl⟩
theorem Zij (hg:Z9 g=true) (h1:8193≤l1) (h2:8193≤l2): ∀(l:List Sp) (s:PSt),lookW g l1 l s=lookW g l2 l s
 |[],s=>rfl
 |v::l,s=>by
  show lookW g l1 l (Zv g l1 v s)=lookW g l2 l (Zv g l2 v s);rw[(ZeT hg h1 h2 v s).1];exact Zij hg h1 h2 l _
theorem Zpb (hg:Z9 g=true) (h1:8193≤l1) (h2:8193≤l2): ∀(n:Nat) (l:List Sp) (s:PSt),lookD g l1 n l s=lookD g l2 n l s:=by
 intro n
 induction n with
 |zero=>
  intro l
  induction l with
  |nil=>intro s;rw[lookD,lookD]
  |cons v l ih=>intro s;rw[lookD,lookD,(ZeT hg h1 h2 v s).1];exact ih _
 |succ n ihn=>
  intro l
  induction l with
  |nil=>intro s;rw[lookD,lookD]
  |cons v l ih=>
   intro s;rw[lookD,lookD,(ZeT hg h1 h2 v s).1,(ZeT hg h1 h2 v s).2,ihn];exact ih _
theorem Zic (hg:Z9 g=true) (h1:8193≤l1) (h2:8193≤l2) (o:Int) (l:List Sp) (s:PSt):ZS g l1 o l s=ZS g l2 o l s:=by
 unfold ZS;rw[Zpb hg h1 h2,Zij hg h1 h2]
theorem Znn (hg:Z9 g=true) (h1:8193≤l1) (h2:8193≤l2) (o b:Int): ∀(n:Nat) (s:PSt),Zhp g l1 o b n s=Zhp g l2 o b n s
 |0,s=>rfl
 |n+1,s=>by
  have hs:ZaY g l1 o b s=ZaY g l2 o b s:=by
   unfold ZaY;simp only[Zic hg h1 h2]
  rw[Zhp,Zhp,hs]
  cases ZaY g l2 o b s with
  |none=>rfl
  |some s'=>exact Znn hg h1 h2 o b n s'
theorem ZqL (hg:Z9 g=true) (h1:8193≤l1) (h2:8193≤l2) (o b:Int):ZbZ g l1 o b=ZbZ g l2 o b:=by
 unfold ZbZ;rw[Zic hg h1 h2,Znn hg h1 h2]
end
def Zbw (g:Gr):Int:=if Z9 g=true then 0 else 4
def flatL (g:Gr) (order:Int):List Int:=if Z9 g=true then(ZbZ g 1000000 order 1).small else[]
theorem ZoL {g:Gr} {lim order:Int} (hl:8193≤lim) (ho:order=0∨order=1):ZaZ g lim order 1=Zbw g∧ZF g lim order 1=flatL g order:=by
 have he:ZaZ g lim order 1=Zbw g:=by
  unfold ZaZ Zbw;by_cases h:Z9 g=true
  · rw[if_pos h,if_pos h,if_neg (by omega)]
  · rw[if_neg h,if_neg h]
 refine⟨he,?_⟩;unfold ZF flatL;rw[he];unfold Zbw;by_cases h:Z9 g=true
 · rw[if_pos h,if_pos rfl,if_pos h]
   exact congrArg PSt.small (ZqL h hl (by decide) order 1)
 · rw[if_neg h,if_neg (by decide),if_neg h]
def ZuY (f:FuncId) (order:Int):Prop:= ∀(g:Gr) (vn vr:Value) (hs:List (Value×Value)) (B:Nat) (W:World),RdG W B g vn vr hs→B≤W.heap.size→GrFit g→GrBd g→
 Calls Tryz.prog f #[.agg #[vn,vr]] W fun e w'=> ∃v1,e=.returned (.tuple #[v1,.int .i64 (Zbw g)])∧OwR w' W.heap.size 3 v1 (flatL g order).length (i64s (flatL g order))∧Only nob W w'
theorem ZcR (W:World) (A Ar:Option Addr) (n c m cr:Nat): ∃X,W.alloc (.cells #[.slice A n c,.slice Ar m cr] 34)=X∧Only nob W X∧Blk X W.heap.size 34 #[.slice A n c,.slice Ar m cr]:=⟨_,rfl,(Only.refl nob W).alloc _,Blk.new _ _ _⟩
theorem OwR.more {w:World} {base base':Nat} {E:TypeId} {v:Value} {n:Nat} {xs:List Value} (h:OwR w base E v n xs) (hk:base'≤base):OwR w base' E v n xs:=by
 refine⟨h.1,?_⟩
 rcases h.2 with h0|⟨g,o,cap,cur,rfl,hb,rest⟩
 · exact .inl h0
 · exact .inr ⟨g,o,cap,cur,rfl,Yi hk hb,rest⟩
theorem ZiC:ZuY 76 0:=by
 intro g vn vr hs B W hr hB hfit hbd;obtain⟨An,cn,rfl,hacn,hcmn⟩:=hr.nodes.form;obtain⟨Ar,cr,rfl,hacr,hcmr⟩:=hr.roots.form;obtain⟨W1,hW1,o1,b1⟩:=ZcR W An Ar g.nd.length cn g.rt.length cr;have HW1:=ZZ hW1;have O1:=ZZ o1;have HC:=ZZ (Zeo g _ _ hs B W1 9223372036854775807 1 (hr.only o1 hB) (Yi hB o1.size) hfit hbd (by decide));obtain⟨f1,f2⟩:=ZoL (g:=g) (lim:=9223372036854775807) (order:=0) (by decide) (by decide);rw[f1,f2] at HC;have c0:W1.cell? ⟨W.heap.size,0,none⟩=some (.slice An g.nd.length cn):=b1.cell 0;have c1:W1.cell? ⟨W.heap.size,1,none⟩=some (.slice Ar g.rt.length cr):=b1.cell 1;clear hW1 o1 b1 hr hB hfit hbd f1 f2
 go_enter Tryz.func76,Tryz.ntmps76
 go_upto_region 1 with fail
 rw[HW1.out]
 go_wp2_with fail
 go_at_call 78;refine HC.out.mono ?_;rintro e w2 ⟨v1,v2,rfl,h1,h2,o2⟩;have H1:=ZZ (h1.more O1.out.size);have O2:=ZZ (O1.out.trans o2);obtain⟨A2,k2,rfl, -, -⟩:=h1.form;obtain⟨A3,k3,rfl, -, -⟩:=h2.form;clear h1 h2 o2 c0 c1;go_wp2;go_ret2;exact⟨_,rfl,H1.out,O2.out⟩
theorem ZpO (g:Gr) (vn vr:Value) (hs:List (Value×Value)) (B:Nat) (W:World) (hr:RdG W B g vn vr hs) (hB:B≤W.heap.size) (hfit:GrFit g) (hbd:GrBd g):
 Calls Tryz.prog 80 #[.agg #[vn,vr],.int .i64 0] W fun e w'=> ∃v1,e=.returned (.tuple #[v1,.int .i64 (Zbw g)])∧OwR w' W.heap.size 3 v1 (flatL g 0).length (i64s (flatL g 0))∧Only nob W w':=by
 obtain⟨An,cn,rfl,hacn,hcmn⟩:=hr.nodes.form;obtain⟨Ar,cr,rfl,hacr,hcmr⟩:=hr.roots.form;obtain⟨W1,hW1,o1,b1⟩:=ZcR W An Ar g.nd.length cn g.rt.length cr;have HW1:=ZZ hW1;have O1:=ZZ o1;have HC:=ZZ (Zpx g _ _ hs B W1 1000000 0 1 (hr.only o1 hB) (Yi hB o1.size) hfit hbd (by decide));obtain⟨f1,f2⟩:=ZoL (g:=g) (lim:=1000000) (order:=0) (by decide) (by decide);rw[f1,f2] at HC;have c0:W1.cell? ⟨W.heap.size,0,none⟩=some (.slice An g.nd.length cn):=b1.cell 0;have c1:W1.cell? ⟨W.heap.size,1,none⟩=some (.slice Ar g.rt.length cr):=b1.cell 1;clear hW1 o1 b1 hr hB hfit hbd f1 f2
 go_enter Tryz.func80,Tryz.ntmps80
 go_upto_region 1 with fail
 rw[HW1.out]
 go_wp2_with fail
 go_at_call 82;refine HC.out.mono ?_;rintro e w2 ⟨v1,v2,rfl,h1,h2,o2⟩;have H1:=ZZ (h1.more O1.out.size);have O2:=ZZ (O1.out.trans o2);obtain⟨A2,k2,rfl, -, -⟩:=h1.form;obtain⟨A3,k3,rfl, -, -⟩:=h2.form;clear h1 h2 o2 c0 c1;go_wp2;go_ret2;exact⟨_,rfl,H1.out,O2.out⟩
end
section
open Go.RowKit Go.Lib
theorem ZdG {g:Gr} (hg:Z9 g=true) (lim order block:Int):Wf g (ZbZ g lim order block):=by
 obtain⟨h1,h2⟩:=ZdU lim order hg;exact(ZiH (block:=block) hg (g.nd.length+1) _ h1 h2 (by omega)).1
theorem ZlO (g:Gr) (lim order block:Int):(ZF g lim order block).length≤g.nd.length∧(ZJ g lim order block).length≤g.nd.length:=by
 unfold ZF ZJ;by_cases h:ZaZ g lim order block=0
 · rw[if_pos h,if_pos h]
   have hg:Z9 g=true:=by
    unfold ZaZ at h;by_cases hg:Z9 g=true
    · exact hg
    · rw[if_neg hg] at h;cases h
   have:=(ZdG hg lim order block).room
   rw[ZW] at this;omega
 · rw[if_neg h,if_neg h];simp
def ZrN (f:FuncId):Prop:= ∀(g:Gr) (vn vr:Value) (hs:List (Value×Value)) (B:Nat) (W:World) (lim:Int),RdG W B g vn vr hs→B≤W.heap.size→GrFit g→GrBd g→g.nd.length≤1000→
 Calls Tryz.prog f #[.agg #[vn,vr],.int .i64 lim] W fun e w'=>e=.returned (.tuple #[.int .i64 (Zd0 g (ZF g lim 0 1)),.int .i64 (Zd0 g (ZJ g lim 0 1)),.int .i64 (wrap64 (Zd2 g (ZF g lim 0 1)+Zd2 g (ZJ g lim 0 1))),.int .i64 (ZaZ g lim 0 1)])∧Only nob W w'
theorem Zs4:ZrN 40:=by
 intro g vn vr hs B W lim hr hB hfit hbd hN;obtain⟨An,cn,rfl,hacn,hcmn⟩:=hr.nodes.form;obtain⟨Ar,cr,rfl,hacr,hcmr⟩:=hr.roots.form;obtain⟨W1,hW1,o1,b1⟩:=ZcR W An Ar g.nd.length cn g.rt.length cr;have HW1:=ZZ hW1;have O1:=ZZ o1;have HG:=ZZ hr;have HBW:=ZZ hB;have HC:=ZZ (Zpx g _ _ hs B W1 lim 0 1 (hr.only o1 hB) (Yi hB o1.size) hfit hbd (by decide))
 obtain⟨E,hE⟩: ∃E,E=ZaZ g lim 0 1:=⟨_,rfl⟩
 obtain⟨S,hS⟩: ∃S,S=ZF g lim 0 1:=⟨_,rfl⟩
 obtain⟨L,hL⟩: ∃L,L=ZJ g lim 0 1:=⟨_,rfl⟩
 rw[← hE, ← hS, ← hL] at HC ⊢;have c0:W1.cell? ⟨W.heap.size,0,none⟩=some (.slice An g.nd.length cn):=b1.cell 0;have c1:W1.cell? ⟨W.heap.size,1,none⟩=some (.slice Ar g.rt.length cr):=b1.cell 1
 obtain⟨ws,hws⟩: ∃z,z=Zd0 g S:=⟨_,rfl⟩
 obtain⟨wl,hwl⟩: ∃z,z=Zd0 g L:=⟨_,rfl⟩
 obtain⟨fs,hfs⟩: ∃z,z=Zd2 g S:=⟨_,rfl⟩
 obtain⟨fl,hfl⟩: ∃z,z=Zd2 g L:=⟨_,rfl⟩
 have HS1:=ZZ (fun (v:Value) (W':World) (o:Only nob W W') (h:Sl W' W'.heap.size 1 v S.length (i64s S))=>ZnC g S _ _ v hs W'.heap.size W' ((hr.only o hB).more (Yi hB o.size)) h (Yj _));have HS2:=ZZ (fun (v:Value) (W':World) (o:Only nob W W') (h:Sl W' W'.heap.size 1 v L.length (i64s L))=>ZnC g L _ _ v hs W'.heap.size W' ((hr.only o hB).more (Yi hB o.size)) h (Yj _));rw[← hws, ← hfs] at HS1;rw[← hwl, ← hfl] at HS2;rw[← hws, ← hwl, ← hfs, ← hfl];clear hW1 o1 b1 hr hB hfit hbd hE hS hL hws hwl hfs hfl hN
 go_enter Tryz.func40,Tryz.ntmps40
 go_upto_region 1 with fail
 rw[HW1.out]
 go_wp2_with fail
 go_at_call 82;refine HC.out.mono ?_;rintro e w2 ⟨v1,v2,rfl,h1,h2,o2⟩;have HA:=ZZ h1;have HB:=ZZ h2;have O2:=ZZ (O1.out.trans o2);have d0:=o2.keeps c0;have d1:=o2.keeps c1;obtain⟨A2,k2,rfl, -, -⟩:=h1.form;obtain⟨A3,k3,rfl, -, -⟩:=h2.form;clear h1 h2 o2 c0 c1
 go_wp2_with fail
 go_at_call 83;refine(HS1.out _ w2 O2.out HA.out.sl).mono ?_;rintro e w3 ⟨rfl,o3⟩;have O3:=ZZ (O2.out.trans o3);have HB3:=ZZ (HB.out.only o3 fun _ _ h=>h);have e0:=o3.keeps d0;have e1:=o3.keeps d1;clear d0 d1 o3
 go_wp2_with fail
 go_at_call 83;refine(HS2.out _ w3 O3.out HB3.out.sl).mono ?_;rintro e w4 ⟨rfl,o4⟩;have O4:=ZZ (O3.out.trans o4);clear e0 e1 o4;go_wp2;exact bodyPost_ret (v:=.tuple #[.int .i64 ws,.int .i64 wl,.int .i64 (wrap64 (fs+fl)),.int .i64 E]) (by simp[results,Tryz.results40,go_sem,ZpG]) rfl ⟨rfl,O4.out⟩
theorem Zup:ZrN 38:=by
 intro g vn vr hs B W lim hr hB hfit hbd hN;obtain⟨An,cn,rfl,hacn,hcmn⟩:=hr.nodes.form;obtain⟨Ar,cr,rfl,hacr,hcmr⟩:=hr.roots.form;obtain⟨W1,hW1,o1,b1⟩:=ZcR W An Ar g.nd.length cn g.rt.length cr;have HW1:=ZZ hW1;have O1:=ZZ o1;have HC:=ZZ (Zeo g _ _ hs B W1 lim 1 (hr.only o1 hB) (Yi hB o1.size) hfit hbd (by decide));obtain⟨hl1,hl2⟩:=ZlO g lim 0 1
 obtain⟨E,hE⟩: ∃E,E=ZaZ g lim 0 1:=⟨_,rfl⟩
 obtain⟨S,hS⟩: ∃S,S=ZF g lim 0 1:=⟨_,rfl⟩
 obtain⟨L,hL⟩: ∃L,L=ZJ g lim 0 1:=⟨_,rfl⟩
 rw[← hS] at hl1;rw[← hL] at hl2;rw[← hE, ← hS, ← hL] at HC ⊢;have c0:W1.cell? ⟨W.heap.size,0,none⟩=some (.slice An g.nd.length cn):=b1.cell 0;have c1:W1.cell? ⟨W.heap.size,1,none⟩=some (.slice Ar g.rt.length cr):=b1.cell 1
 obtain⟨ws,hws⟩: ∃z,z=Zd0 g S:=⟨_,rfl⟩
 obtain⟨wl,hwl⟩: ∃z,z=Zd0 g L:=⟨_,rfl⟩
 obtain⟨fs,hfs⟩: ∃z,z=Zd2 g S:=⟨_,rfl⟩
 obtain⟨fl,hfl⟩: ∃z,z=Zd2 g L:=⟨_,rfl⟩
 have HF1:=ZZ (fun (v:Value) (W':World) (o:Only nob W W') (h:Sl W' W'.heap.size 1 v S.length (i64s S))=>ZeH g S _ _ v hs W'.heap.size W' ((hr.only o hB).more (Yi hB o.size)) h (Yj _) hfit (by omega));have HF2:=ZZ (fun (v:Value) (W':World) (o:Only nob W W') (h:Sl W' W'.heap.size 1 v L.length (i64s L))=>ZeH g L _ _ v hs W'.heap.size W' ((hr.only o hB).more (Yi hB o.size)) h (Yj _) hfit (by omega));have HX1:=ZZ (fun (v:Value) (W':World) (o:Only nob W W') (h:Sl W' W'.heap.size 1 v S.length (i64s S))=>Zfy g S _ _ v hs W'.heap.size W' ((hr.only o hB).more (Yi hB o.size)) h (Yj _) hfit (by omega));have HX2:=ZZ (fun (v:Value) (W':World) (o:Only nob W W') (h:Sl W' W'.heap.size 1 v L.length (i64s L))=>Zfy g L _ _ v hs W'.heap.size W' ((hr.only o hB).more (Yi hB o.size)) h (Yj _) hfit (by omega));rw[← hws] at HX1;rw[← hwl] at HX2;rw[← hfs] at HF1;rw[← hfl] at HF2;rw[← hws, ← hwl, ← hfs, ← hfl];clear hW1 o1 b1 hr hB hfit hbd hE hS hL hws hwl hfs hfl hN hl1 hl2
 go_enter Tryz.func38,Tryz.ntmps38
 go_upto_region 1 with fail
 rw[HW1.out]
 go_wp2_with fail
 go_at_call 78;refine HC.out.mono ?_;rintro e w2 ⟨v1,v2,rfl,h1,h2,o2⟩;have HA:=ZZ h1;have HB:=ZZ h2;have O2:=ZZ (O1.out.trans o2);have d0:=o2.keeps c0;have d1:=o2.keeps c1;obtain⟨A2,k2,rfl, -, -⟩:=h1.form;obtain⟨A3,k3,rfl, -, -⟩:=h2.form;have HSL:=ZZ (fun (W':World) (o:Only nob w2 W')=>(HA.out.only o fun _ _ h=>h).sl);have HSR:=ZZ (fun (W':World) (o:Only nob w2 W')=>(HB.out.only o fun _ _ h=>h).sl);clear h1 h2 o2 c0 c1;have mixed:=ZeZ
 go_upto_region 2 with fail
 have OC:=ZZ (show Only nob w2 w2.drew from(Only.refl nob w2).drewN 1)
 go_region_held3 (fun w'=>w'.cell? ⟨W.heap.size,0,none⟩=some (.slice An g.nd.length cn)∧w'.cell? ⟨W.heap.size,1,none⟩=some (.slice Ar g.rt.length cr)) (first|(with_reducible exact And.intro (OC.out.keeps d0) (OC.out.keeps d1))|go_keep)
  (first
    |(go_at_call 79
      with_reducible refine(HF1.out _ _ (O2.out.trans OC.out) (HSL.out _ OC.out)).mono ?_
      rintro e wt ⟨rfl,o⟩;have OC:=ZZ (OC.out.trans o)
      clear o)
    |(go_at_call 79
      with_reducible refine(HF2.out _ _ (O2.out.trans OC.out) (HSR.out _ OC.out)).mono ?_
      rintro e wt ⟨rfl,o⟩;have OC:=ZZ (OC.out.trans o)
      clear o))
 all_goals
  have mixed:=ZeZ
  go_upto_region 3 with fail
  have OC:=ZZ (show Only nob w2 (World.drew _) from OC.out.drewN 1)
  go_region_held3 (fun w'=>w'.cell? ⟨W.heap.size,0,none⟩=some (.slice An g.nd.length cn)∧w'.cell? ⟨W.heap.size,1,none⟩=some (.slice Ar g.rt.length cr)) (first|(with_reducible exact And.intro (OC.out.keeps d0) (OC.out.keeps d1))|go_keep)
   (first
     |(go_at_call 23
       with_reducible refine(HX1.out _ _ (O2.out.trans OC.out) (HSL.out _ OC.out)).mono ?_
       rintro e wt ⟨rfl,o⟩;have OC:=ZZ (OC.out.trans o)
       clear o)
     |(go_at_call 23
       with_reducible refine(HX2.out _ _ (O2.out.trans OC.out) (HSR.out _ OC.out)).mono ?_
       rintro e wt ⟨rfl,o⟩;have OC:=ZZ (OC.out.trans o)
       clear o))
 all_goals
  have OE:=ZZ (O2.out.trans OC.out);go_wp2;exact bodyPost_ret (v:=.tuple #[.int .i64 ws,.int .i64 wl,.int .i64 (wrap64 (fs+fl)),.int .i64 E]) (by simp[results,Tryz.results38,go_sem,ZpG]) rfl ⟨rfl,OE.out⟩
def Zgl (l:List Int) (n:Nat):List Int:=((List.range n).map fun k:Nat=>(k:Int)).filter fun x=>decide (x∈l)
def Zbn (g:Gr):List Int:=Zgl (flatL g 0) g.nd.length
theorem Zi1 (l:List Int) (n:Nat):Zgl l (n+1)=Zgl l n++(if(n:Int)∈l then[(n:Int)] else[]):=by
 unfold Zgl;rw[List.range_succ,List.map_append,List.filter_append]
 congr 1
 by_cases h:(n:Int)∈l <;> simp[h]
theorem ZhN (l:List Int) (n:Nat):(Zgl l n).length≤n:=by
 unfold Zgl;exact Yi (List.length_filter_le _ _) (by simp)
def Znw (f:FuncId):Prop:= ∀(g:Gr) (vn vr:Value) (hs:List (Value×Value)) (B:Nat) (W:World),RdG W B g vn vr hs→B≤W.heap.size→GrFit g→GrBd g→
 Calls Tryz.prog f #[.agg #[vn,vr]] W fun e w'=> ∃v1,e=.returned (.tuple #[v1,.int .i64 (Zbw g)])∧OwR w' W.heap.size 3 v1 (Zbn g).length (i64s (Zbn g))∧Only nob W w'
theorem ZqE:Znw 39:=by
 intro g vn vr hs B W hr hB hfit hbd;obtain⟨j0,hj0,hy0,hy1,hy2⟩:=info_parts Zac;obtain⟨An,cn,rfl,hacn,hcmn⟩:=hr.nodes.form;obtain⟨Ar,cr,rfl,hacr,hcmr⟩:=hr.roots.form;obtain⟨W1,hW1,o1,b1⟩:=ZcR W An Ar g.nd.length cn g.rt.length cr;have HW1:=ZZ hW1;have O1:=ZZ o1;have B1:=ZZ b1;have HBD:=ZZ hbd;have HC:=ZZ (ZpO g _ _ hs B W1 (hr.only o1 hB) (Yi hB o1.size) hfit hbd)
 obtain⟨E,hE⟩: ∃E,E=Zbw g:=⟨_,rfl⟩
 obtain⟨L,hL⟩: ∃L,L=flatL g 0:=⟨_,rfl⟩
 rw[← hE, ← hL] at HC;rw[← hE];have HRL:=ZZ (show Zbn g=Zgl L g.nd.length by unfold Zbn;rw[hL]);rw[HRL.out];have c0:W1.cell? ⟨W.heap.size,0,none⟩=some (.slice An g.nd.length cn):=b1.cell 0;have c1:W1.cell? ⟨W.heap.size,1,none⟩=some (.slice Ar g.rt.length cr):=b1.cell 1;unfold maxLen at hcmn;clear hW1 o1 b1 hr hB hfit hbd hE hL HRL
 go_enter Tryz.func39,Tryz.ntmps39
 go_upto_region 1 with fail
 rw[HW1.out]
 go_wp2_with fail
 go_at_call 80;refine HC.out.mono ?_;rintro e w2 ⟨v1,rfl,h1,o2⟩;have HA:=ZZ h1;have O2:=ZZ (O1.out.trans o2);have B2:=ZZ (B1.out.keep o2 id);obtain⟨A2,k2,rfl, -, -⟩:=h1.form;clear h1 o2 c0 c1
 go_wp2_with fail
 go_loopw [6,7] (fun u i wr=> ∃k:Nat,k≤g.nd.length∧i=.int .i64 k∧Hid (OwR wr w2.heap.size 3 u (Zgl L k).length (i64s (Zgl L k)))∧Hid (Only nob w2 wr)) (fun _ i _=>g.nd.length - (intOf i).toNat)
 case atStart=>exact⟨0,Yu _,rfl,ZZ OwR.nil_,ZZ (Only.refl _ _)⟩
 case round=>
  obtain⟨k,hk,rfl,HOW,HO⟩:=hrel;have c0:wr.cell? ⟨W.heap.size,0,none⟩=some (.slice An g.nd.length cn):=(B2.out.keep HO.out id).cell 0;by_cases hlt:k<g.nd.length
  · have HI:=ZZ (ZjT _ L (k:Int) _ wr (HA.out.only HO.out fun _ _ h=>h).sl)
    obtain⟨mb,hmb⟩: ∃b,b=decide ((k:Int)∈L):=⟨_,rfl⟩
    have HMB:=ZZ hmb;rw[← hmb] at HI;clear hmb
    go_wp2_with fail
    go_at_call 81;refine HI.out.mono ?_;rintro e w3 ⟨rfl,o3⟩;have HO3:=ZZ (HO.out.trans o3);have HW3:=ZZ (HOW.out.only o3 fun _ _ h=>h);clear o3 c0
    cases mb with
    |false=>
     have HU:=ZZ (show Zgl L (k+1)=Zgl L k by rw[Zi1,if_neg (by have:=HMB.out;simpa using this.symm),List.append_nil]);go_wp2
     go_roundw
     case rel=>exact⟨k+1,by omega,by go_num,by rw[HU.out];exact HW3,HO3⟩
     case measure=>simp[intOf];omega
    |true=>
     have HU:=ZZ (show Zgl L (k+1)=Zgl L k++[(k:Int)] by rw[Zi1,if_pos (by have:=HMB.out;simpa using this.symm)]);obtain⟨A6,k6,hv6,hk6,hm6⟩:=HW3.out.form;subst hv6
     obtain⟨n6,hn6⟩: ∃n,n=(Zgl L k).length:=⟨_,rfl⟩
     have HN6:=ZZ hn6;have hlen:=ZhN L k;have how:=HW3.out;rw[← hn6] at how hlen;have HW6:=ZZ how;have hN:=HBD.out.nd
     have hn6b:n6≤17000000000:=by omega
     rw[← hn6];have HB3:=ZZ (show w2.heap.size≤w3.heap.size from HO3.out.size);clear hn6 how hk6 hm6 hlen
     go_wp2_with (with_reducible refine Zaz (o:=⟨some 26,_,_,_,_,_⟩) _ rfl (.tmp 23) (.tmp 25) _ rfl w2.heap.size 3 j0 _ 8 Tryz.underlying35 hj0 hy0 hy1 hy2 rfl (.slice A6 n6 k6) n6 (i64s (Zgl L k)) rfl ?c1 (w3.heap.size+1) (.slice (some ⟨w3.heap.size,0,none⟩) 1 1) (.int .i64 (k:Int)) rfl ?c6 rfl ?c2 ?c3 ?c4 ?c5)
     case c1=>exact HW6.out.only ((Only.refl nob _).alloc _) (fun _ _ h=>h)
     case c6=>exact ZdT _ _
     case c2=>exact(Zdb hn6b).1
     case c3=>exact(Zdb hn6b).2
     case c4=>have:=HB3.out;simp;omega
     case c5=>
     intro v7 w7 H7 o7 ho7;have HO7:=ZZ (show Only nob w2 w7 from(HO3.out.trans ((Only.refl nob w3).alloc _)).andThen o7 fun i hi e=>absurd (HW6.out.lt e).1 (by omega));go_wp2
     go_roundw
     case rel=>exact⟨k+1,by omega,by go_num,by rw[HU.out,Ys, ← HN6.out,ZI];exact H7,HO7⟩
     case measure=>simp[intOf];omega
  · obtain rfl:k=g.nd.length:=by omega
    go_wp2;go_ret2;exact⟨_,rfl,HOW.out.more O2.out.size,O2.out.trans HO.out⟩
end
end Go.Proofs.YteieocddfnlmdaaGreatDoor
