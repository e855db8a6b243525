/- Package reach: the references of a row are put ahead; a row -/
import Derived.Test.YtknoncenblehkaaGreatDoorF29
import Derived.Test.YtknoncenblehkaaGreatDoorF27
set_option maxRecDepth 100000
set_option maxHeartbeats 32000000
set_option linter.unusedSimpArgs false
set_option linter.unusedVariables false
namespace Go.Proofs.YtknoncenblehkaaGreatDoor
section
open Go.RowKit Go.Shelf
attribute [local go_sem] Oper.semAt_some
theorem Zsa (n:Nat) (A:Option Addr) (m c:Nat) (w:World):CallsIn Fence.wide n Tryz.prog 179 #[.slice A m c] w fun e w'=>
 e=.returned (.func (.func 190) #[] #[.pointer (some ⟨w.heap.size,0,none⟩)])∧w'=w.alloc (.cells #[.slice A m c] 25):=by
 refine callsIn_wide.2 ?_
 go_enter Tryz.func179,Tryz.ntmps179
 go_wp2_with fail
 go_ret;exact⟨rfl,rfl⟩
def bkE (x:Int×Sp):Array Value:=#[.int .i64 x.1,.agg #[.int .i64 x.2.1,.int .i64 x.2.2]]
theorem ZpE (lp Bn n0:Nat) (V:Nat→Prop) (A:Option Addr) (c:Nat) (l:List Sp) (J Jx:List (Int×Sp)→World→Prop) (W:World)
 (hB:Bn<n0) (hBV: ¬V Bn) (hb0:W.cell? ⟨Bn,0,none⟩=some (.slice A l.length c)) (hG:Sl W n0 2 (.slice A l.length c) l.length (spc l)) (hGV: ∀g,g<n0→(∃o,A=some ⟨g,o,none⟩)→0<l.length→ ¬V g)
 (hY: ∀pre x W1,J pre W1→pre.length<l.length→YieldAt Fence.wide 1 Tryz.prog lp (bkE x) W1 fun e W'=>
   (e=.returned (.bool true)∧J (pre++[x]) W'∧KeepsV V n0 W1 W')∨(e=.returned (.bool false)∧Jx (pre++[x]) W'))
 (h0:J [] W):
 CallsIn Fence.wide 2 Tryz.prog 190 #[.func (.yield lp) #[] #[],.pointer (some ⟨Bn,0,none⟩)] W fun e W'=>(∃v,e=.returned v)∧
  ((∃xs,xs.map (·.2)=l.reverse∧J xs W')∨(∃pre:List (Int×Sp),True∧Jx pre W')):=by
 have HG:=ZZ hG;obtain⟨A',c',e,hac,hcm, -⟩:=id hG
 obtain⟨rfl,rfl⟩:A=A'∧c=c':=by simpa using e
 unfold maxLen at hcm;have HY:=ZZ (fun pre x W1 a b=>ZaJ (F:=Fence.wide) rfl 0 (hY pre x W1 a b));have H0:=ZZ h0;have HB:=ZZ hb0;have HGV:=ZZ hGV;have hws:IntKind.i64.wrap ((l.length:Int) - 1)=(l.length:Int) - 1:=IntWalk.i64_in _ (by omega);clear hG hY h0 e hGV;refine callsIn_of_wp Tryz.func190 rfl trivial ?_ rfl;simp only[Tryz.ntmps190,List.size_toArray,List.length_cons,List.length_nil,Nat.reduceAdd,Nat.reduceSub,Array.replicate_succ,Array.replicate_zero,List.push_toArray,List.append_toArray,List.nil_append,List.cons_append]
 gi_wp2_with fail
 gi_loopw [3] (fun i' wr=> ∃(m:Nat) (ys:List (Int×Sp)),m≤l.length∧i'=.int .i64 ((m:Int) - 1)∧Hid (ys.map (·.2)=(l.drop m).reverse)∧Hid (J ys wr)∧Hid (KeepsV V n0 W wr)) (fun i' _=>(intOf i'+1).toNat)
 case atStart=>exact⟨l.length,[],Yj _,rfl,ZZ (by simp),H0,ZZ (KeepsV.refl _ _ _)⟩
 case round=>
  obtain⟨m,ys,hm,rfl,HK,HJ1,HKV⟩:=hrel;rcases Nat.eq_zero_or_pos m with h0|h0
  · subst h0
    have hneg: ¬(0≤((0:Nat):Int) - 1):=by omega
    gi_wp2
    go_end0
    exact⟨⟨_,rfl⟩,.inl ⟨ys,by simpa using HK.out,HJ1.out⟩⟩
  · obtain⟨k,rfl⟩: ∃k,m=k+1:=⟨m - 1,by omega⟩
    rw[show((k+1:Nat):Int) - 1=(k:Int) by omega]
    obtain⟨x,hx⟩: ∃x,l[k]? =some x:=⟨_,Ya (by omega)⟩
    obtain⟨bb,o,c',e,_,_,hlt2,hc⟩:=HG.out.at_ (by omega)
    obtain⟨rfl,rfl⟩:A=some ⟨bb,o,none⟩∧c=c':=by simpa using e
    obtain⟨q0,q1⟩:=Zkv hx;have hbv:=HGV.out bb hlt2 ⟨o,rfl⟩ (by omega);have g0:=HKV.out.cell (p:=⟨bb,o+k * 2,none⟩) hlt2 hbv (hc _ _ q0);have g1:=HKV.out.cell (p:=⟨bb,o+(k * 2+1),none⟩) hlt2 hbv (hc _ _ q1);rw[← Nat.add_assoc] at g1;have b0:=HKV.out.cell (p:=⟨Bn,0,none⟩) hB hBV HB.out
    have HK1:=ZZ (show(ys++[((k:Int),x)]).map (·.2)=(l.drop k).reverse by
     rw[List.map_append,HK.out,List.drop_eq_getElem_cons (by omega:k<l.length),List.reverse_cons]
     have:l[k]=x:=by rw[Ya (by omega)] at hx;exact Yp hx
     simp[this])
    have hyy:=fun m'=>ZaJ (F:=Fence.wide) rfl m' (HY.out ys ((k:Int),x) wr HJ1.out (by
     have h1:=congrArg List.length HK.out;simp at h1
     omega))
    obtain⟨fn,tmps,assign,body,hy,hR⟩:=hyy 1;unfold bkE at hy;dsimp only at hy
    have hpos:0≤(k:Int):=by omega
    have hws2:IntKind.i64.wrap ((k:Int) - 1)=(k:Int) - 1:=IntWalk.i64_in _ (by omega);clear hx e hc q0 q1 hbv hyy
    gi_wp2
    refine hR.mono ?_;rintro e W' (⟨rfl,hJ,hk2⟩|⟨rfl,hJx⟩)
    · have HJ2:=ZZ hJ
      have HV2:=ZZ (HKV.out.trans hk2);clear hJ hk2 g0 g1 b0 hy hR
      gi_wp2
      go_roundw
      case rel=>exact⟨k,ys++[((k:Int),x)],by omega,rfl,HK1,HJ2,HV2⟩
      case measure=>first|(simp[intOf];done)|(simp[intOf];omega)
    · clear g0 g1 b0 hy hR
      gi_wp2
      refine bodyPost_ret (results_none rfl _ _ _) rfl ?_;exact⟨⟨_,rfl⟩,.inr ⟨_,trivial,hJx⟩⟩
theorem Zuf (Bn n0:Nat) (V:Nat→Prop) (A:Option Addr) (c:Nat) (l:List Sp) (w:World) (hB:Bn<n0) (hBV: ¬V Bn) (hb0:w.cell? ⟨Bn,0,none⟩=some (.slice A l.length c)) (hG:Sl w n0 2 (.slice A l.length c) l.length (spc l)) (hGV: ∀g,g<n0→(∃o,A=some ⟨g,o,none⟩)→0<l.length→ ¬V g) (hn0:n0≤w.heap.size):
 SeqStopsK Fence.wide 2 Tryz.prog 190 #[.pointer (some ⟨Bn,0,none⟩)] bkE (KeepsV V n0) (fun xs=>xs.map (·.2)=l.reverse) (fun _=>True) l.length w:=by
 intro lp J Jx W hW hJ hJx hY h0
 have hkk:KeepsV V n0 w W:=⟨hW.size,fun k hk hkw hv=>hW.block k hkw⟩
 exact ZpE lp Bn n0 V A c l J Jx W hB hBV (hkk.cell (p:=⟨Bn,0,none⟩) hB hBV hb0) (hG.keep fun p hp=>World.cell?_of_block (hW.block p.block (Yw hp hn0))) hGV hY h0
attribute [local go_sem] Oper.semAt_some
section
variable {W W':World} {b mb base:Nat} {vn vr:Value} {lim:Int} {n:Nat} {V V':Int→Value} {M:List Int} {q:QSt}
theorem Qp.cells (h:Qp W b mb base vn vr lim n V M q) {k:Nat} (hk:Qf b mb V k): ∃t cs,Blk W k t cs:=by
 rcases hk with rfl|rfl|⟨i,e⟩
 · exact⟨_,_,h.box⟩
 · exact⟨_,_,h.fl⟩
 · obtain⟨cur,hb⟩:=(h.rows.own i).blk e
   exact⟨_,_,hb⟩
theorem Qp.away (h:Qp W b mb base vn vr lim n V M q) {row:Option Nat} (hg:W.grownBy W' row) (hr: ∀r,row=some r→ ∃o:Obj,W.heap[r]? =some o∧o.isCells=false):Qp W' b mb base vn vr lim n V M q:=
 h.off (F:=fun k=>some k=row) ⟨hg.os,hg.tape,hg.output,hg.size,fun k hk hn=>hg.block k hk hn⟩ fun k hk e=>by
  obtain⟨t,cs,hb⟩:=h.cells hk;obtain⟨o,ho,hc⟩:=hr k e.symm;unfold Blk at hb;rw[hb] at ho
  cases ho
  cases hc
theorem Stp.away {W0:World} (h:Stp b mb V V' W0 W) {row:Option Nat} (hg:W.grownBy W' row) (hr: ∀r,row=some r→W0.heap.size≤r):Stp b mb V V' W0 W':=⟨ZaX h.only hg hr,h.grow,h.same⟩
end
def Z7 (l:List Sp) (a:List Int):List Int:=(refsOf l).reverse++a
theorem Zl2 (l:List Sp) (v:Sp) (a:List Int):Z7 (l++[v]) a=if v.1=2 then v.2::Z7 l a else Z7 l a:=by
 unfold Z7 refsOf
 by_cases h:v.1=2 <;> simp[h,List.filter_append]
theorem ZmT (l:List Sp) (a:List Int):Z7 l.reverse a=refsOf l++a:=by
 unfold Z7 refsOf;rw[List.filter_reverse,List.map_reverse,List.reverse_reverse]
theorem Zot (l:List Sp) (a:List Int):(Z7 l a).length≤l.length+a.length:=by
 unfold Z7 refsOf
 have:=List.length_filter_le (fun v:Sp=>decide (v.1=2)) l
 simp;omega
def ZaP (q:QSt) (a:List Int):QSt:={q with ah:=a}
theorem Zod (W:World) (x y:Int): ∃X,W.alloc (.cells #[.int .i64 x,.int .i64 y] 59)=X∧Only nob W X∧Blk X W.heap.size 59 #[.int .i64 x,.int .i64 y]:=⟨_,rfl,(Only.refl nob W).alloc _,Blk.new _ _ _⟩
theorem Zo0 (W:World) (b mb base:Nat) (n:Nat) (vn vr:Value) (lim:Int) (V:Int→Value) (M:List Int) (q:QSt) (A:Option Addr) (c B:Nat) (l:List Sp) (h:Qp W b mb base vn vr lim n V M q) (hl:Sl W B 2 (.slice A l.length c) l.length (spc l)) (hB:B≤base) (hbase:base≤W.heap.size) (hn:l.length+q.ah.length≤16000000000):
 Calls Tryz.prog 149 #[.pointer (some ⟨b,0,none⟩),.slice A l.length c] W fun e w'=> ∃V',e=.returned (.tuple #[])∧
  Qp w' b mb base vn vr lim n V' M (ZaP q (refsOf l++q.ah))∧Stp b mb V V' W w':=by
 obtain⟨j0,hj0,hy0,hy1,hy2⟩:=info_parts Zap;have HQ:=ZZ h;have HL:=ZZ hl;have HBB:=ZZ (And.intro hB hbase);have HN:=ZZ hn
 obtain⟨W1,hW1,o1,bp1⟩: ∃X,W.alloc (.cells #[.pointer (some ⟨b,0,none⟩)] 171)=X∧Only nob W X∧Blk X W.heap.size 171 #[.pointer (some ⟨b,0,none⟩)]:=⟨_,rfl,(Only.refl nob W).alloc _,Blk.new _ _ _⟩
 have HW1:=ZZ hW1;have O1:=ZZ o1;have BP1:=ZZ bp1
 have hz1:W1.heap.size=W.heap.size+1:=by rw[← hW1];simp
 clear hW1 o1 bp1 h hl hB hbase hn;refine(callsIn_wide (n:=3)).1 ?_;refine callsIn_of_wp_marks Tryz.func149 rfl trivial ?_ rfl;simp only[Tryz.ntmps149,List.size_toArray,List.length_cons,List.length_nil,Nat.reduceAdd,Nat.reduceSub,Array.replicate_succ,Array.replicate_zero,List.push_toArray,List.append_toArray,List.nil_append,List.cons_append]
 gi_wp2_with (with_reducible rw[HW1.out])
 refine⟨trivial,?_⟩
 gi_at_call 179
 refine(Zsa _ _ _ _ _).mono ?_;rintro e w2 ⟨rfl,hw2⟩
 obtain⟨W0,hW0,o0,hz0,bg0⟩: ∃X,W1.alloc (.cells #[.slice A l.length c] 25)=X∧Only nob W1 X∧X.heap.size=W1.heap.size+1∧Blk X W1.heap.size 25 #[.slice A l.length c]:=
  ⟨_,rfl,(Only.refl nob W1).alloc _,by simp,Blk.new W1 _ _⟩
 with_reducible rw[hw2]
 rw[hW0];have OW0:=ZZ (O1.out.trans o0);have Q0:=ZZ (HQ.out.kept OW0.out);have BP:=ZZ (BP1.out.keep o0 id);have SL0:=ZZ (HL.out.only OW0.out (Yi HBB.out.1 HBB.out.2) fun _ h=>h.elim)
 have hsz0:W.heap.size+2=W0.heap.size:=by omega
 have hh0:W0.cell? ⟨W1.heap.size,0,none⟩=some (.slice A l.length c):=bg0.cell 0
 have hbV: ¬Qf b mb V W1.heap.size:=fun e=>by
  rcases e with e|e|e
  · exact absurd e (bg0.ne Q0.out.box (by decide))
  · exact absurd e (bg0.ne Q0.out.fl (by decide))
  · exact Q0.out.rows.ne bg0 (by decide) e
 have hpV: ¬Qf b mb V W.heap.size:=fun e=>by
  rcases e with e|e|e
  · exact absurd e (BP.out.ne Q0.out.box (by decide))
  · exact absurd e (BP.out.ne Q0.out.fl (by decide))
  · exact Q0.out.rows.ne BP.out (by decide) e
 have HPV:=ZZ hpV
 have hAV: ∀g,g<W0.heap.size→(∃o,A=some ⟨g,o,none⟩)→0<l.length→ ¬Qf b mb V g:=fun g _ ⟨o,e⟩ h0 hq=>by
  obtain⟨b',o',c',e', -, -,hlt, -⟩:=HL.out.at_ h0;rw[e] at e';simp only[Value.slice.injEq,Option.some.injEq,Addr.mk.injEq] at e';obtain⟨⟨rfl, -⟩, -⟩:=e'
  have:=HQ.out.ge hq
  have:=HBB.out.1
  omega
 clear hW0 o0 bg0 hw2 w2;have HIT:=Zuf W1.heap.size W0.heap.size (Qf b mb V) A c l W0 (by omega) hbV hh0 (SL0.out.more (by have:=HBB.out;omega)) hAV (Yj _);have HBL:=ZZ (show base≤W0.heap.size by have:=HBB.out.2;omega);have HSZ0:=ZZ hsz0;clear hAV hbV hh0 hpV hz1 hz0 hsz0
 gi_wp2_with fail
 refine wpIn_rangeFunc_ownH rfl (by decide) (gf:=190) (lb:=#[.pointer (some ⟨W1.heap.size,0,none⟩)]) rfl trivial (enters_of Tryz.func190 (by kernel_rfl) rfl)
  HIT KeepsV.trans (fun W l o o' h1 _ _ _=>KeepsV.putObj W l o' h1) (Below.refl _ _) (fun _=>rfl)
  (fun pre W=> ∃V',Qp W b mb base vn vr lim n V' M (ZaP q (Z7 (pre.map (·.2)) q.ah))∧Stp b mb V V' W0 W)
  (fun _ _ _=>False)
  ?hI ?hIx ⟨V,Q0.out,Stp.refl _ _ _ _⟩
  (fun x a' W'=> ∃Bx,Blk W' Bx 59 #[.int .i64 x.2.1,.int .i64 x.2.2]∧a'={tmps:=#[.pointer (some ⟨b,0,none⟩),.slice A l.length c,.pointer (some ⟨W.heap.size,0,none⟩),undef,undef,.pointer (some ⟨Bx,0,none⟩),.slice A l.length c,.func (.func 190) #[] #[.pointer (some ⟨W1.heap.size,0,none⟩)],.int .i64 x.1,.agg #[.int .i64 x.2.1,.int .i64 x.2.2],undef,undef,undef,undef,undef,undef,undef,undef,undef,undef,undef,undef,undef,undef],defers:=[]})
  ?hAx ?assign ?body ?done ?stop
 case hI=>
  rintro pre W W' row ⟨V',h1,h2⟩ hg hr;exact⟨V',h1.away hg fun r e=>(hr r e).2,h2.away hg fun r e=>(hr r e).1⟩
 case hIx=>
  rintro c pre W W' row h;exact h.elim
 case hAx=>
  rintro x a' _ X Y row ⟨Bx,hb,e⟩ hg hr;exact⟨Bx,Zau hb hg fun r e=>(hr r e).2,e⟩
 case assign=>
  rintro lp pre x W K ⟨V',h1,h2⟩ hK;obtain⟨X,hX,oX,bX⟩:=Zod W x.2.1 x.2.2;dsimp only[bkE]
  gi_wp2_with (with_reducible rw[hX])
  exact hK _ _ ((ZbS oX).from _) (KeepsV.only oX fun _ _ h=>h.elim) ⟨V',h1.kept oX,h2.more oX⟩ ⟨_,bX,rfl⟩
 case body=>
  rintro lp pre x a' Wb hlp ⟨r,hr⟩ ⟨V',h1,h2⟩ ⟨Bx,hBx,rfl⟩ hlt;have HQ1:=ZZ h1;have HS1:=ZZ h2;have HSN:=ZZ (show Z7 ((pre++[x]).map (·.2)) q.ah=if x.2.1=2 then x.2.2::Z7 (pre.map (·.2)) q.ah else Z7 (pre.map (·.2)) q.ah by rw[List.map_append];exact Zl2 _ _ _)
  have HLE:=ZZ (show(Z7 (pre.map (·.2)) q.ah).length≤16000000000 by
   have h1:=Zot (pre.map (·.2)) q.ah;have h2:=HN.out;rw[List.length_map] at h1
   omega)
  obtain⟨x0,xk,xx⟩:=x;simp only at hBx HSN ⊢;have g0:Wb.cell? ⟨Bx,0,none⟩=some (.int .i64 xk):=hBx.cell 0;have HX:=ZZ hBx;have HBP:=ZZ (BP.out.keep h2.only HPV.out);clear h1 h2 hBx hlt hr;by_cases hk2:xk=2
  · subst hk2
    have HSN2:=ZZ (HSN.out.trans (if_pos rfl));obtain⟨A8,k8,hv8,hk8,hm8⟩:=(HQ1.out.rows.own (-4)).form;have c8:=HQ1.out.cell ZhG;rw[hv8] at c8
    obtain⟨n8,hn8⟩: ∃m,m=(Zn (ZaP q (Z7 (pre.map (·.2)) q.ah)) (-4)).length:=⟨_,rfl⟩
    have how:=HQ1.out.rows.own (-4);rw[hv8, ← hn8] at how;rw[← hn8] at c8 hv8 hk8;have HN8:=ZZ (show n8=(Z7 (pre.map (·.2)) q.ah).length by rw[hn8];simp[Zn,ZaP])
    have hn8b:n8≤17000000000:=by have:=HLE.out;have:=HN8.out;omega
    have HOW:=ZZ how;have HV8:=ZZ hv8;have HRW:=ZZ (show Zn (ZaP q (Z7 (pre.map (·.2)) q.ah)) (-4)=(Z7 (pre.map (·.2)) q.ah).reverse by simp[Zn,ZaP]);have p0:Wb.cell? ⟨W.heap.size,0,none⟩=some (.pointer (some ⟨b,0,none⟩)):=HBP.out.cell 0;have g1:Wb.cell? ⟨Bx,1,none⟩=some (.int .i64 xx):=HX.out.cell 1;clear hn8 how hv8 hk8 hm8
    gi_wp2_with fail
    refine ZiM (stop:=11) (S:=fun w':World=>w'.cell? ⟨W.heap.size,0,none⟩=some (.pointer (some ⟨b,0,none⟩))∧w'.cell? ⟨b,8,none⟩=some (.slice A8 n8 k8)∧w'.cell? ⟨Bx,1,none⟩=some (.int .i64 xx)) ZjK (by kernel_rfl) (fun ⟨_,_,h⟩=>by first|exact h|exact h.elim) ⟨p0,c8,g1⟩ (fun hHeld=>?_);clear p0 g1 c8 g0
    obtain⟨WD,hWD,oD⟩: ∃X,Wb.drew=X∧Only nob Wb X:=⟨_,rfl,(Only.refl nob Wb).drewN 1⟩
    rw[hWD] at hHeld ⊢;have HQD:=ZZ (HQ1.out.kept oD);have OD:=ZZ oD;clear hWD oD;refine Zs (i:=0) (v:=?_) rfl (by kernel_rfl) (by kernel_rfl) (by kernel_rfl) (by kernel_rfl) (fun _ _ _ h=>h) (Or.inl ⟨by rfl,?_⟩) hHeld ?_;rotate_left
    · intro w hSw;(try dsimp only at hSw);go_simp;first|done|with_reducible rfl
    try simp only[Act.put,Yb,Yd,Yc,Yh,Yf,Yg]
    refine Zs (i:=1) (v:=?_) rfl (by kernel_rfl) (by kernel_rfl) (by kernel_rfl) (by kernel_rfl) (fun _ _ _ h=>h) (Or.inl ⟨by rfl,?_⟩) hHeld ?_;rotate_left
    · intro w hSw;(try dsimp only at hSw);go_simp;first|done|with_reducible rfl
    try simp only[Act.put,Yb,Yd,Yc,Yh,Yf,Yg]
    refine Zs (i:=2) (v:=?_) rfl (by kernel_rfl) (by kernel_rfl) (by kernel_rfl) (by kernel_rfl) (fun _ _ _ h=>h) (Or.inl ⟨by rfl,?_⟩) hHeld ?_;rotate_left
    · intro w hSw;(try dsimp only at hSw);go_simp;first|done|with_reducible rfl
    try simp only[Act.put,Yb,Yd,Yc,Yh,Yf,Yg]
    refine Zs (i:=3) (v:=?_) rfl (by kernel_rfl) (by kernel_rfl) (by kernel_rfl) (by kernel_rfl) (fun _ _ _ h=>h) (Or.inl ⟨by rfl,?_⟩) hHeld ?_;rotate_left
    · intro w hSw;(try dsimp only at hSw);go_simp;first|done|with_reducible rfl
    try simp only[Act.put,Yb,Yd,Yc,Yh,Yf,Yg]
    refine Zs (i:=4) (v:=?_) rfl (by kernel_rfl) (by kernel_rfl) (by kernel_rfl) (by kernel_rfl) (fun _ _ _ h=>h) (Or.inl ⟨by rfl,?_⟩) hHeld ?_;rotate_left
    · intro w hSw;(try dsimp only at hSw);go_simp;first|done|with_reducible rfl
    try simp only[Act.put,Yb,Yd,Yc,Yh,Yf,Yg]
    refine Zs (i:=5) (v:=?_) rfl (by kernel_rfl) (by kernel_rfl) (by kernel_rfl) (by kernel_rfl) (fun _ _ _ h=>h) (Or.inl ⟨by rfl,?_⟩) hHeld ?_;rotate_left
    · intro w hSw;(try dsimp only at hSw);go_simp;first|done|with_reducible rfl
    try simp only[Act.put,Yb,Yd,Yc,Yh,Yf,Yg]
    refine Zs (i:=6) (v:=?_) rfl (by kernel_rfl) (by kernel_rfl) (by kernel_rfl) (by kernel_rfl) (fun _ _ _ h=>h) (Or.inl ⟨by rfl,?_⟩) hHeld ?_;rotate_left
    · intro w hSw;(try dsimp only at hSw);go_simp;first|done|with_reducible rfl
    try simp only[Act.put,Yb,Yd,Yc,Yh,Yf,Yg]
    obtain⟨XL,hX,oX,sX⟩: ∃X,WD.alloc (.cells #[.int .i64 xx] 3)=X∧Only nob WD X∧Sl X (WD.heap.size+1) 1 (.slice (some ⟨WD.heap.size,0,none⟩) 1 1) 1 [.int .i64 xx]:=⟨_,rfl,(Only.refl nob WD).alloc _,Zed WD xx⟩
    have HWE:=ZZ hX;have OL:=ZZ oX;have SLx:=ZZ sX;clear hX oX sX;refine ZD (rs:=[7]) (by kernel_rfl) (by simp) ?_;refine(ZcN.cons rfl (fun K hK=>?_) ZcN.nil);go_simp
    with_reducible rw[HWE.out]
    refine hK.out _ _ (fun _=>⟨OL.out.keeps hHeld.1,OL.out.keeps hHeld.2.1,OL.out.keeps hHeld.2.2⟩) (fun hHeld2=>?_);clear hK K hHeld;have hHeld:=hHeld2 (by decide);clear hHeld2
    try simp only[Act.put,Yb,Yd,Yc,Yh,Yf,Yg]
    refine ZD (rs:=[8]) (by kernel_rfl) (by simp) ?_;refine(ZcN.cons rfl (fun K hK=>?_) ZcN.nil);refine ZfA _ (by rfl) _ _ _ (by rfl) base 3 j0 _ 8 Tryz.underlying38 hj0 hy0 hy1 hy2 (by rfl) (.slice A8 n8 k8) n8 (i64s (Zn (ZaP q (Z7 (pre.map (·.2)) q.ah)) (-4))) (by rfl) (HOW.out.only (OD.out.trans OL.out) fun _ _ h=>h) (WD.heap.size+1) (.slice (some ⟨WD.heap.size,0,none⟩) 1 1) (.int .i64 xx) (by rfl) SLx.out (by rfl) (ZdA hn8b).1 (ZdA hn8b).2 (by have h1:=HBL.out;have h2:=HS1.out.only.size;have h3:=OD.out.size;have h4:=OL.out.size;omega) ?_;intro v9 w9 H9 o9 ho9;obtain⟨B9,k9,rfl, -, -⟩:=H9.out.form;rw[← HV8.out] at o9 ho9;have M9:=HQD.out.mid OL.out o9;have hne9: ∀g t cs,Blk Wb g t cs→t≠3→Blk w9 g t cs:=fun g t cs hb ht=>((hb.keep OD.out id).keep OL.out id).keep o9 fun e=>(HQ1.out.rows.own (-4)).ne hb ht e;have d0:w9.cell? ⟨W.heap.size,0,none⟩=some (.pointer (some ⟨b,0,none⟩)):=(hne9 _ _ _ HBP.out (by decide)).cell 0;have d1:w9.cell? ⟨Bx,1,none⟩=some (.int .i64 xx):=(hne9 _ _ _ HX.out (by decide)).cell 1
    have c9:w9.cell? ⟨b,8,none⟩=some (.slice A8 n8 k8):=by rw[M9.cell];exact congrArg some HV8.out
    have f9:=M9.free 8
    have hl9:(Zn (ZaP q (Z7 (pre.map (·.2)) q.ah)) (-4)++[xx]).length=n8+1:=by rw[Ys,HN8.out];simp[Zn,ZaP]
    obtain⟨QQ,SS⟩:=HQD.out.turn (q':=ZaP q (xx::Z7 (pre.map (·.2)) q.ah)) ZhG (l:=Zn (ZaP q (Z7 (pre.map (·.2)) q.ah)) (-4)++[xx]) OL.out o9 (by rw[hl9,Zy];exact H9.out) ho9 (by
     rw[HRW.out]
     funext i
     unfold Zn upd ZaP;by_cases h:i= -4
     · subst h;simp
     · simp[h]) rfl
    obtain⟨X9,hX9⟩: ∃X,w9.setCell ⟨b,8,none⟩ (.slice B9 (n8+1) k9)=X:=⟨_,rfl⟩
    rw[hX9] at QQ SS;have HX9:=ZZ hX9;have HQ9:=ZZ QQ;have SS9:=ZZ (show Stp b mb V' _ Wb X9 from(Stp.kept b mb V' OD.out).trans SS);have HS9:=ZZ (HS1.out.trans SS9.out)
    have HKO:=ZZ (show KeepsOthers Wb X9 from ZjI SS9.out.only fun k o hk ho=>by
     obtain⟨t,cs,hb⟩:=HQ1.out.cells hk;unfold Blk at hb;rw[hb] at ho
     cases ho;rfl)
    have HKV:=ZZ (show KeepsV (Qf b mb V) W0.heap.size Wb X9 from KeepsV.only SS9.out.only fun k hk hf=>by
     rcases hf with e|e|e
     · exact .inl e
     · exact .inr (.inl e)
     · exact HS1.out.grow k e hk)
    clear hX9 QQ SS hl9 M9 H9 o9 ho9 hne9;refine hK.out _ _ (fun _=>⟨d0,c9,d1⟩) (fun hHeld2=>?_);clear hK K hHeld;have hHeld:=hHeld2 (by decide);clear hHeld2
    try simp only[Act.put,Yb,Yd,Yc,Yh,Yf,Yg]
    refine ZD (rs:=[9]) (by kernel_rfl) (by simp) ?_;refine(ZcN.cons rfl (fun K hK=>?_) ZcN.nil);go_simp;refine hK.out _ _ (fun _=>hHeld) (fun hHeld2=>?_);clear hK K hHeld;have hHeld:=hHeld2 (by decide);clear hHeld2
    try simp only[Act.put,Yb,Yd,Yc,Yh,Yf,Yg]
    refine ZD (rs:=[10]) (by kernel_rfl) (by simp) ?_;refine(ZcN.cons rfl (fun K hK=>?_) ZcN.nil);go_simp;refine hK.out _ _ (fun _=>hHeld) (fun hHeld2=>?_);clear hK K hHeld;have hHeld:=hHeld2 (by decide);clear hHeld2
    try simp only[Act.put,Yb,Yd,Yc,Yh,Yf,Yg]
    refine ZD (rs:=[11]) (by kernel_rfl) (by simp) ?_;refine(ZcN.cons rfl (fun K hK=>?_) ZcN.nil);go_simp
    with_reducible rw[HX9.out]
    refine hK.out _ _ (fun h=>absurd rfl h) (fun hHeld2=>?_);clear hK K hHeld hHeld2 d0 d1 c9 f9
    try simp only[Act.put,Yb,Yd,Yc,Yh,Yf,Yg]
    refine ZeJ (by kernel_rfl) ?_ _
    gi_wp2
    exact⟨HKO.out.from _,HKV.out,_,by rw[HSN2.out];exact HQ9.out,HS9.out⟩
  · have hkq:(xk==2)=false:=by simpa using hk2
    have HSN2:=ZZ (HSN.out.trans (if_neg hk2));clear hk2
    gi_wp2
    exact⟨(KeepsOthers.refl _).from _,KeepsV.refl _ _ _,V',by rw[HSN2.out];exact HQ1.out,HS1.out⟩
 case done=>
  rintro D ys Wd hD hS ⟨V',h1,h2⟩ hK;rw[show Z7 (ys.map (·.2)) q.ah=refsOf l++q.ah by rw[hS];exact ZmT _ _] at h1;have HQ2:=ZZ (h1.away (grownBy_putObj' Wd D (.deferred none)) fun r e=>by cases e;exact⟨_,hK,rfl⟩);have HS2:=ZZ ((Stp.kept b mb V OW0.out).trans (h2.away (grownBy_putObj' Wd D (.deferred none)) fun r e=>by cases e;exact hD));have HKD:=ZZ hK;clear h1 h2 hK hS
  gi_wp2
  refine⟨by simp,.inl ⟨_,_,rfl,run_takeDeferred HKD.out,?_⟩⟩;refine⟨.tuple #[],?_,V',rfl,HQ2.out,HS2.out⟩;simp[results,Tryz.results149,go_sem]
 case stop=>
  rintro D c pre W hD hpre h;exact h.elim
end
section
open Go.RowKit Go.Lib
theorem Zkd {p:Nat→Prop}: ∀n,p n→ ∃m,p m∧ ∀k,p k→m≤k:=by
 intro n
 induction n using Nat.strongRecOn with
 |ind n ih=>
  intro h;by_cases hk: ∃k,k<n∧p k
  · obtain⟨k,hlt,hp⟩:=hk
    exact ih k hlt hp
  · exact⟨n,h,fun k hp=>Nat.le_of_not_lt fun hlt=>hk ⟨k,hlt,hp⟩⟩
noncomputable def ZfO (p:Nat→Prop):Nat:=open Classical in if h: ∃m,p m∧ ∀k,p k→m≤k then Classical.choose h else 0
theorem Zmx {p:Nat→Prop} (h: ∃n,p n):p (ZfO p):=by
 obtain⟨n,hn⟩:=h;have hx:=Zkd n hn;unfold ZfO;rw[dif_pos hx];exact(Classical.choose_spec hx).1
theorem Zig {p:Nat→Prop} {n:Nat} (h:p n):ZfO p≤n:=by
 have hx:=Zkd n h;unfold ZfO;rw[dif_pos hx];exact(Classical.choose_spec hx).2 n h
def geB (base:Nat) (k:Nat):Prop:=base≤k
def ZR (q:QSt) (l:List Sp):QSt:=ZaP q (refsOf l++q.ah)
def ZoR (q:QSt):QSt:={q with s:={q.s with pile:=q.s.pile.dropLast}}
inductive RunQ (g:Gr) (nx:QSt→Option Int×QSt) (G:QSt→Prop):Nat→QSt→QSt→Prop
 |stop {q:QSt}:G q→(nx q).1=none→(nx q).2.s.pile.getLast? =none→RunQ g nx G 0 q (ZoR (nx q).2)
 |small {q e:QSt} {i:Int} {n:Nat}:G q→(nx q).1=some i→(0≤i∧i<(g.nd.length:Int))→(Zcb g i).length+(nx q).2.ah.length≤16000000000→RunQ g nx G n (ZR (nx q).2 (Zcb g i)) e→RunQ g nx G (n+1) q e
 |large {q e:QSt} {k:Int} {n:Nat}:G q→(nx q).1=none→(nx q).2.s.pile.getLast? =some k→(0≤k∧k<(g.nd.length:Int))→(Zcb g k).length+(ZoR (nx q).2).ah.length≤16000000000→RunQ g nx G n (ZR (ZoR (nx q).2) (Zcb g k)) e→RunQ g nx G (n+1) q e
structure RunC (b base B:Nat) (g:Gr) (vn vr:Value) (nf:FuncId) (rp:Addr) (nx:QSt→Option Int×QSt) (G:QSt→Prop) (R:World→QSt→Prop):Prop where
 enters: ∀args w,(callFunc nf args).run Tryz.prog w=.ok (.enter nf args) w
 next: ∀W q,base≤W.heap.size→R W q→G q→Calls Tryz.prog nf #[.pointer (some rp)] W fun e w'=>e=.returned (.tuple #[.int .i64 ((nx q).1.getD 0),.bool (nx q).1.isSome])∧R w' (nx q).2∧Only (geB base) W w'
 off: ∀W q,base≤W.heap.size→R W q→Calls Tryz.prog 150 #[.pointer (some ⟨b,0,none⟩)] W fun e w'=>e=.returned (.tuple #[.int .i64 (q.s.pile.getLast?.getD 0),.bool q.s.pile.getLast?.isSome])∧R w' (ZoR q)∧Only (geB base) W w'
 fol: ∀W q A c l,base≤W.heap.size→R W q→Sl W B 2 (.slice A l.length c) l.length (spc l)→l.length+q.ah.length≤16000000000→Calls Tryz.prog 149 #[.pointer (some ⟨b,0,none⟩),.slice A l.length c] W fun e w'=>e=.returned (.tuple #[])∧R w' (ZR q l)∧Only (geB base) W w'
 cn: ∀W q,R W q→W.cell? ⟨b,0,none⟩=some vn∧W.cell? ⟨b,1,none⟩=some vr
theorem Zmu {g:Gr} {n:Nat} {d:Nd} (h:g.nd[n]? =some d):Zcb g (n:Int)=d.fs:=by
 unfold Zcb Za7;rw[Int.toNat_natCast,Yn,h];rfl
theorem Zux (b base B:Nat) (g:Gr) (vn vr:Value) (hs:List (Value×Value)) (nf:FuncId) (rp:Addr) (nx:QSt→Option Int×QSt) (G:QSt→Prop) (R:World→QSt→Prop) (C:RunC b base B g vn vr nf rp nx G R) (hB:B≤base)
 (W:World) (q e:QSt) (n:Nat) (hR:R W q) (hr:RdG W B g vn vr hs) (hbase:base≤W.heap.size) (hrun:RunQ g nx G n (ZR q g.rt) e) (hrt:g.rt.length+q.ah.length≤16000000000):
 Calls Tryz.prog 116 #[.pointer (some ⟨b,0,none⟩),.func (.func nf) #[.pointer (some rp)] #[]] W fun en w'=>en=.returned (.tuple #[])∧R w' e∧Only (geB base) W w':=by
 have HC:=ZZ C;have HG:=ZZ hr;have HRUN:=ZZ hrun;have HBB:=ZZ (And.intro hB hbase);have hen:=C.enters;obtain⟨An,cn,rfl,hacn,hcmn⟩:=hr.nodes.form;obtain⟨Ar,cr,rfl,hacr,hcmr⟩:=hr.roots.form;obtain⟨c0,c1⟩:=C.cn W q hR;have HF:=ZZ (C.fol W q Ar cr g.rt hbase hR hr.roots hrt);unfold maxLen at hcmn;clear hrun C hR hr hB hbase c0 hacr hcmr hrt
 go_enter Tryz.func116,Tryz.ntmps116
 go_wp2_with fail
 go_at_call 149;refine HF.out.mono ?_;rintro en w1 ⟨rfl,hR1,o1⟩;have HR1:=ZZ hR1;have HO1:=ZZ o1;clear c1 hR1 o1 HF
 go_wp2_with fail
 go_loopw [4,5] (fun _ _ wr=>Hid (∃n, ∃q,R wr q∧RunQ g nx G n q e)∧Hid (Only (geB base) W wr)) (fun _ _ wr=>ZfO fun n=> ∃q,R wr q∧RunQ g nx G n q e)
 case atStart=>exact⟨ZZ ⟨n,_,HR1.out,HRUN.out⟩,HO1⟩
 case round=>
  obtain⟨HP,HO⟩:=hrel
  obtain⟨m,hm⟩: ∃m,m=ZfO fun n=> ∃q,R wr q∧RunQ g nx G n q e:=⟨_,rfl⟩
  have HM:=ZZ hm;have hmin:=Zmx HP.out;rw[← hm] at hmin;obtain⟨q1,hR2,hr2⟩:=hmin;have hbw:=ZZ (Yi HBB.out.2 HO.out.size);have HR2:=ZZ hR2;clear hm hR2 HP
  cases hr2 with
  |stop h0 h1 h2=>
   have HN:=ZZ (HC.out.next wr q1 hbw.out HR2.out h0);have H2:=ZZ h2;rw[h1] at HN;simp only[Option.getD_none,Option.isSome_none] at HN;clear h1 h2
   go_wp2_with fail
   refine HN.out.mono ?_;rintro en w2 ⟨rfl,hR3,o2⟩;have HO2:=ZZ (HO.out.trans o2);have HOF:=ZZ (HC.out.off w2 _ (Yi HBB.out.2 HO2.out.size) hR3);rw[H2.out] at HOF;simp only[Option.getD_none,Option.isSome_none] at HOF;clear hR3 o2
   go_wp2_with fail
   go_at_call 150;refine HOF.out.mono ?_;rintro en w3 ⟨rfl,hR4,o3⟩;have HR4:=ZZ hR4;have HO3:=ZZ (HO2.out.trans o3);clear hR4 o3;go_wp2;exact bodyPost_ret (results_none rfl _ _ _) rfl ⟨rfl,HR4.out,HO3.out⟩
  |@small _ _ i _ h0 h1 h2 h22 h3=>
   have HN:=ZZ (HC.out.next wr q1 hbw.out HR2.out h0);rw[h1] at HN;simp only[Option.getD_some,Option.isSome_some] at HN;clear h1
   go_wp2_with fail
   refine HN.out.mono ?_;rintro en w2 ⟨rfl,hR3,o2⟩;have HO2:=ZZ (HO.out.trans o2);have HR3:=ZZ hR3;clear hR3 o2
   obtain⟨k,rfl⟩: ∃k:Nat,i=k:=⟨i.toNat,by have:=h2;omega⟩
   have hlt:k<g.nd.length:=by have:=h2;omega
   obtain⟨d,hd⟩: ∃d,g.nd[k]? =some d:=⟨_,Ya hlt⟩
   have HBl:=ZZ (show Below B W w2 from HO2.out.below (Yi HBB.out.1 HBB.out.2) fun _ hk=>Yi HBB.out.1 hk);obtain⟨bb,oo,fv,rv,hA,hbb,hh',g0,g1,g2,hnd⟩:=HG.out.at_ HBl.out hd;obtain⟨Af,cf,hfv,hafc,hcfm⟩:=hnd.fields.form;simp only at hfv;subst hfv;subst hA;obtain⟨c0,c1⟩:=HC.out.cn w2 _ HR3.out;have HFS:=ZZ (Zmu hd);have HFO:=ZZ (HC.out.fol w2 _ Af cf d.fs (Yi HBB.out.2 HO2.out.size) HR3.out hnd.fields (by rw[← HFS.out];exact h22));have HRX:=ZZ h3;clear g0 g2 hnd hh' hbb hd hafc hcfm c1
   go_wp2_with fail
   go_at_call 149;refine HFO.out.mono ?_;rintro en w5 ⟨rfl,hR5,o5⟩;have HR5:=ZZ hR5;have HO5:=ZZ (HO2.out.trans o5);rw[← HFS.out] at HR5;clear hR5 o5 c0 g1;go_wp2
   go_roundw
   case rel=>exact⟨ZZ ⟨_,_,HR5.out,HRX.out⟩,HO5⟩
   case measure=>
    rw[← HM.out];exact Nat.lt_of_le_of_lt (Zig ⟨_,HR5.out,HRX.out⟩) (Nat.lt_succ_self _)
  |@large _ _ i _ h0 h1 h2 h3 h33 h4=>
   have HN:=ZZ (HC.out.next wr q1 hbw.out HR2.out h0);have H2:=ZZ h2;rw[h1] at HN;simp only[Option.getD_none,Option.isSome_none] at HN;clear h1 h2
   go_wp2_with fail
   refine HN.out.mono ?_;rintro en w2 ⟨rfl,hR3,o2⟩;have HO2:=ZZ (HO.out.trans o2);have HOF:=ZZ (HC.out.off w2 _ (Yi HBB.out.2 HO2.out.size) hR3);rw[H2.out] at HOF;simp only[Option.getD_some,Option.isSome_some] at HOF;clear hR3 o2
   go_wp2_with fail
   go_at_call 150;refine HOF.out.mono ?_;rintro en w3 ⟨rfl,hR4,o3⟩;have HR4:=ZZ hR4;have HO3:=ZZ (HO2.out.trans o3);clear hR4 o3 HOF H2
   obtain⟨k,rfl⟩: ∃k:Nat,i=k:=⟨i.toNat,by have:=h3;omega⟩
   have hlt:k<g.nd.length:=by have:=h3;omega
   obtain⟨d,hd⟩: ∃d,g.nd[k]? =some d:=⟨_,Ya hlt⟩
   have HBl:=ZZ (show Below B W w3 from HO3.out.below (Yi HBB.out.1 HBB.out.2) fun _ hk=>Yi HBB.out.1 hk);obtain⟨bb,oo,fv,rv,hA,hbb,hh',g0,g1,g2,hnd⟩:=HG.out.at_ HBl.out hd;obtain⟨Af,cf,hfv,hafc,hcfm⟩:=hnd.fields.form;simp only at hfv;subst hfv;subst hA;obtain⟨c0,c1⟩:=HC.out.cn w3 _ HR4.out;have HFS:=ZZ (Zmu hd);have HFO:=ZZ (HC.out.fol w3 _ Af cf d.fs (Yi HBB.out.2 HO3.out.size) HR4.out hnd.fields (by rw[← HFS.out];exact h33));have HRX:=ZZ h4;clear g0 g2 hnd hh' hbb hd hafc hcfm c1
   go_wp2_with fail
   go_at_call 149;refine HFO.out.mono ?_;rintro en w5 ⟨rfl,hR5,o5⟩;have HR5:=ZZ hR5;have HO5:=ZZ (HO3.out.trans o5);rw[← HFS.out] at HR5;clear hR5 o5 c0 g1;go_wp2
   go_roundw
   case rel=>exact⟨ZZ ⟨_,_,HR5.out,HRX.out⟩,HO5⟩
   case measure=>
    rw[← HM.out];exact Nat.lt_of_le_of_lt (Zig ⟨_,HR5.out,HRX.out⟩) (Nat.lt_succ_self _)
end
end Go.Proofs.YtknoncenblehkaaGreatDoor
