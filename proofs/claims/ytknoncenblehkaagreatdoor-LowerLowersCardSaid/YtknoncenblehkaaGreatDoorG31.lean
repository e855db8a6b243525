/- Package graph: the library's Clone and Equal at values and w -/
import Derived.Test.YtknoncenblehkaaGreatDoorG30
set_option maxRecDepth 100000
set_option maxHeartbeats 32000000
set_option linter.unusedSimpArgs false
set_option linter.unusedVariables false
namespace Go.Proofs.YtknoncenblehkaaGreatDoor
section
open Go.RowKit Go.Lib
theorem ZcC:(Tryz.prog.info? 57).map (fun i=>(i.zero,i.size,i.bytes))=some (some (.int .u64 0),1,8):=by kernel_rfl
end
section
open Go.RowKit Go.Shelf
attribute [local go_sem] Oper.semAt_some
theorem ZoW {F:Fence} (hd:F.depth=none) (k:Nat):F.room k:=fun d h=>by rw[hd] at h;cases h
theorem Zfl {F:Fence} (hd:F.depth=none) {m m':Nat} {P:Program} {l:Nat} {f:FuncId} {tmps:Array Value} {assign body:Code} {w:World} {R:Ending→World→Prop}
 (h:RoundIn F m P l f tmps assign body w R):RoundIn F m' P l f tmps assign body w R:=⟨h.1,fun c cs _=>h.2 c cs (ZoW hd _)⟩
theorem Zcn {F:Fence} (hd:F.depth=none) {m:Nat} (m':Nat) {P:Program} {l:Nat} {args:Array Value} {W:World} {R:Ending→World→Prop} (h:YieldAt F m P l args W R):YieldAt F m' P l args W R:=by
 obtain⟨fn,tmps,assign,body,hy,hR⟩:=h;exact⟨fn,tmps,assign,body,hy,Zfl hd hR⟩
theorem Zfq {W W':World} (h:Only nob W W'):W.grownBy W' none:=⟨h.os,h.tape,h.output,h.size,fun k hk _=>h.block k hk id⟩
structure KeepsV (V:Nat→Prop) (n0:Nat) (W W':World):Prop where
 size:W.heap.size≤W'.heap.size
 block: ∀k,k<n0→k<W.heap.size→ ¬V k→W'.heap[k]? =W.heap[k]?
section
variable {V:Nat→Prop} {n0:Nat} {W W' W'':World}
theorem KeepsV.refl (V:Nat→Prop) (n0:Nat) (W:World):KeepsV V n0 W W:=⟨Yi _,fun _ _ _ _=>rfl⟩
theorem KeepsV.trans (h:KeepsV V n0 W W') (g:KeepsV V n0 W' W''):KeepsV V n0 W W'':=⟨Yh h.size g.size,fun k a b c=>(g.block k a (Yv b h.size) c).trans (h.block k a b c)⟩
theorem KeepsV.putObj (W:World) (l:Nat) (o':Obj) (hn:n0≤l):KeepsV V n0 W (W.putObj l o'):=by
 have hg:=grownBy_putObj' W l o';exact⟨hg.size,fun k a b _=>hg.block k b (fun e=>by have:=Yo e;omega)⟩
theorem KeepsV.only {F:Nat→Prop} (h:Only F W W') (hF: ∀k,k<n0→F k→V k):KeepsV V n0 W W':=⟨h.size,fun k a b c=>h.block k b fun f=>c (hF k a f)⟩
theorem KeepsV.cell (h:KeepsV V n0 W W') {p:Addr} {v:Value} (hp:p.block<n0) (hv: ¬V p.block) (hc:W.cell? p=some v):W'.cell? p=some v:=
 (World.cell?_of_block (h.block p.block hp (World.block_lt_of_cell? W p hc) hv)).trans hc
end
def Zne (h:Value) (n:Nat):Prop:=n≤9223372036854775807∧ ∃A c,h=.slice A n c∧(0<n→ ∃b o,A=some ⟨b,o,none⟩)
theorem Sl.rowF {w:World} {B size n:Nat} {v:Value} {xs:List Value} (h:Sl w B size v n xs):Zne v n:=by
 obtain⟨A,c,rfl,h1,h2, -,h3⟩:=h;unfold maxLen at h2;exact⟨by omega,A,c,rfl,fun hn=>by obtain⟨b,o,e, -⟩:=h3 hn;exact⟨b,o,e⟩⟩
structure HdG (V:Nat→Prop) (n0:Nat) (w:World) (g:Gr) (vn vr:Value) (hs:List (Value×Value)):Prop where
 len:hs.length=g.nd.length
 nodes:Sl w n0 3 vn g.nd.length (ndc g.nd hs)
 away: ∀b o n c,vn=.slice (some ⟨b,o,none⟩) n c→0<g.nd.length→ ¬V b
 rows: ∀(i:Nat) d h,g.nd[i]? =some d→hs[i]? =some h→Zne h.1 d.fs.length∧Zne h.2 d.rs.length
 root:Zne vr g.rt.length
theorem RdG.hd {w:World} {B:Nat} {g:Gr} {vn vr:Value} {hs:List (Value×Value)} (h:RdG w B g vn vr hs):HdG nob B w g vn vr hs:=
 ⟨h.len,h.nodes,fun _ _ _ _ _ _=>id,fun i d x hd hx=>⟨(h.each i d x hd hx).fields.rowF,(h.each i d x hd hx).raws.rowF⟩,h.roots.rowF⟩
theorem HdG.keep {V:Nat→Prop} {n0:Nat} {w w':World} {g:Gr} {vn vr:Value} {hs:List (Value×Value)} (h:HdG V n0 w g vn vr hs) (k:KeepsV V n0 w w'):HdG V n0 w' g vn vr hs:=by
 refine⟨h.len,?_,h.away,h.rows,h.root⟩;obtain⟨A,c,e,h1,h2,h3,h4⟩:=h.nodes;refine⟨A,c,e,h1,h2,h3,fun hn=>?_⟩;obtain⟨b,o,hA,hb,hc⟩:=h4 hn;exact⟨b,o,hA,hb,fun j u hu=>k.cell (p:=⟨b,o+j,none⟩) hb (h.away b o _ c (by rw[e,hA]) hn) (hc j u hu)⟩
def adr:Value→Nat→Option Addr
 |.slice (some a) _ _,k=>some ⟨a.block,a.off+k * 2,none⟩
 |_,_=>none
theorem ZlM {b o n c k:Nat}:adr (.slice (some ⟨b,o,none⟩) n c) k=some ⟨b,o+k * 2,none⟩:=rfl
theorem ZjG {α:Type} (lp i:Nat) (key:α→Nat×Nat) (ZmQ:α→Array Value) (h:Value) (n:Nat) (hf:Zne h n)
 (hx: ∀k,k<n→ ∃x:α,key x=(i,k)∧ZmQ x=#[.pointer (adr h k)]) (V:Nat→Prop) (n0 N:Nat) (J Jx:List α→World→Prop)
 (hY: ∀pre x W1,J pre W1→pre.length<N→YieldAt Fence.wide 0 Tryz.prog lp (ZmQ x) W1 fun e W'=>
   (e=.returned (.bool true)∧J (pre++[x]) W'∧KeepsV V n0 W1 W')∨(e=.returned (.bool false)∧Jx (pre++[x]) W'))
 (pre:List α) (hN:pre.length+n≤N) (W:World) (h0:J pre W) (m:Nat):
 CallsIn Fence.wide m Tryz.prog 148 #[h,.func (.yield lp) #[] #[]] W fun e W'=>
  (e=.returned (.bool true)∧ ∃ys,ys.map key=(List.range n).map (Prod.mk i)∧J (pre++ys) W'∧KeepsV V n0 W W')∨
  (e=.returned (.bool false)∧ ∃k ys,k<n∧ys.map key=(List.range (k+1)).map (Prod.mk i)∧Jx (pre++ys) W'):=by
 obtain⟨hn9,A,c,rfl,hA⟩:=hf;have HY:=ZZ hY;have HX:=ZZ hx;have H0:=ZZ h0;clear hY hx h0;refine callsIn_of_wp Tryz.func148 rfl trivial ?_ rfl;simp only[Tryz.ntmps148,List.size_toArray,List.length_cons,List.length_nil,Nat.reduceAdd,Nat.reduceSub,Array.replicate_succ,Array.replicate_zero,List.push_toArray,List.append_toArray,List.nil_append,List.cons_append]
 gi_wp2
 gi_loopw [5,8] (fun _ i' wr=> ∃(k:Nat) (ys:List α),k≤n∧i'=.int .i64 k∧Hid (ys.map key=(List.range k).map (Prod.mk i))∧Hid (J (pre++ys) wr)∧Hid (KeepsV V n0 W wr)) (fun _ i' _=>n - (intOf i').toNat)
 case atStart=>exact⟨0,[],Yt _,rfl,ZZ rfl,ZZ (by rw[List.append_nil];exact H0.out),ZZ (KeepsV.refl _ _ _)⟩
 case round=>
  obtain⟨k,ys,hk,rfl,HK,HJ,HKV⟩:=hrel;by_cases hlt:k<n
  · obtain⟨b,o,rfl⟩:=hA (by omega)
    obtain⟨x,hx1,hx2⟩:=HX.out k hlt;have hyy:=fun m'=>Zcn (F:=Fence.wide) rfl m' (HY.out (pre++ys) x wr HJ.out (by rw[Yr];have:=congrArg List.length HK.out;simp at this;omega));rw[hx2,ZlM] at hyy;have HK1:=ZZ (show(ys++[x]).map key=(List.range (k+1)).map (Prod.mk i) by rw[List.map_append,HK.out,List.range_succ,List.map_append];simp[hx1]);clear hx1 hx2;obtain⟨fn,tmps,assign,body,hy,hR⟩:=hyy (m - 1)
    gi_wp2
    refine⟨(fun h=>by cases h),hR.mono ?_⟩;rintro e W' (⟨rfl,hJ,hk2⟩|⟨rfl,hJx⟩)
    · have HJ2:=ZZ (show J (pre++(ys++[x])) W' by rw[← List.append_assoc];exact hJ)
      have HV2:=ZZ (HKV.out.trans hk2);clear hJ hk2
      gi_wp2
      go_roundw
      case rel=>exact⟨k+1,ys++[x],by omega,by go_num,HK1,HJ2,HV2⟩
      case measure=>simp[intOf];omega
    · have HJ2:=ZZ (show Jx (pre++(ys++[x])) W' by rw[← List.append_assoc];exact hJx)
      clear hJx
      gi_wp2
      go_ret;exact .inr ⟨rfl,k,ys++[x],hlt,HK1.out,HJ2.out⟩
  · obtain rfl:k=n:=by omega
    gi_wp2
    go_ret;exact .inl ⟨rfl,ys,HK.out,HJ.out,HKV.out⟩
def Zd0 (g:Gr):List (List Sp):=g.nd.map (·.fs)++[g.rt]
def Zcz (g:Gr) (k:Nat):List (Nat×Nat):=(List.range k).flatMap fun i=>(List.range ((Zd0 g).getD i []).length).map (Prod.mk i)
def allP (g:Gr):List (Nat×Nat):=Zcz g (g.nd.length+1)
def Plc (g:Gr):Type:={p:Nat×Nat // p.2<((Zd0 g).getD p.1 []).length}
def hdr (hs:List (Value×Value)) (vr:Value) (i:Nat):Value:=(hs.map (·.1)++[vr]).getD i vr
def ZnA (hs:List (Value×Value)) (vr:Value) (g:Gr) (p:Plc g):Array Value:=#[.pointer (adr (hdr hs vr p.1.1) p.1.2)]
theorem Za0 (g:Gr) (k:Nat):Zcz g (k+1)=Zcz g k++(List.range ((Zd0 g).getD k []).length).map (Prod.mk k):=by
 unfold Zcz;rw[List.range_succ,List.flatMap_append];simp
theorem Zhv (g:Gr) {j k:Nat} (h:j≤k):(Zcz g j)<+:(Zcz g k):=by
 induction k with
 |zero=>obtain rfl:j=0:=by omega
        exact List.prefix_refl _
 |succ k ih=>
  rcases Yp k j with h'|h'
  · obtain rfl:j=k+1:=by omega
    exact List.prefix_refl _
  · exact(ih h').trans (by rw[Za0];exact List.prefix_append _ _)
theorem Zj5 {g:Gr} {k:Nat} {d:Nd} (h:g.nd[k]? =some d):(Zd0 g).getD k []=d.fs:=by
 have hk:k<g.nd.length:=(Yj.1 h).1;unfold Zd0;rw[Ym,List.getElem?_append_left (by simpa using hk),List.getElem?_map,h];rfl
theorem Zdx (g:Gr):(Zd0 g).getD g.nd.length []=g.rt:=by
 unfold Zd0;rw[Ym,List.getElem?_append_right (by simp)];simp
theorem ZmL {hs:List (Value×Value)} {vr:Value} {k:Nat} {h:Value×Value} (e:hs[k]? =some h):hdr hs vr k=h.1:=by
 have hk:k<hs.length:=(Yj.1 e).1;unfold hdr;rw[Ym,List.getElem?_append_left (by simpa using hk),List.getElem?_map,e];rfl
theorem ZhF (hs:List (Value×Value)) (vr:Value):hdr hs vr hs.length=vr:=by
 unfold hdr;rw[Ym,List.getElem?_append_right (by simp)];simp
theorem ZcV (i:Nat) {j k:Nat} (h:j≤k):(List.range j).map (Prod.mk i)<+:(List.range k).map (Prod.mk i):=by
 obtain⟨m,rfl⟩: ∃m,k=j+m:=⟨k - j,by omega⟩
 rw[List.range_add,List.map_append];exact List.prefix_append _ _
theorem ZiR (lp Bn n0:Nat) (V:Nat→Prop) (g:Gr) (vn vr:Value) (hs:List (Value×Value)) (J Jx:List (Plc g)→World→Prop) (W:World)
 (hB:Bn<n0) (hBV: ¬V Bn) (hb0:W.cell? ⟨Bn,0,none⟩=some vn) (hb1:W.cell? ⟨Bn,1,none⟩=some vr) (hG:HdG V n0 W g vn vr hs) (hn0:n0≤W.heap.size)
 (hJ:AbidesFrom W.heap.size J)
 (hY: ∀pre x W1,J pre W1→pre.length<(allP g).length→YieldAt Fence.wide 1 Tryz.prog lp (ZnA hs vr g x) W1 fun e W'=>
   (e=.returned (.bool true)∧J (pre++[x]) W'∧KeepsV V n0 W1 W')∨(e=.returned (.bool false)∧Jx (pre++[x]) W'))
 (h0:J [] W):
 CallsIn Fence.wide 2 Tryz.prog 147 #[.func (.yield lp) #[] #[],.pointer (some ⟨Bn,0,none⟩)] W fun e W'=>(∃v,e=.returned v)∧
  ((∃xs,xs.map (·.1)=allP g∧J xs W')∨(∃pre,pre.map (·.1)<+:allP g∧Jx pre W')):=by
 have HG:=ZZ hG;obtain⟨A,c,rfl,hac,hcm⟩:=hG.nodes.form;unfold maxLen at hcm;have HY:=ZZ (fun pre x W1 a b=>Zcn (F:=Fence.wide) rfl 0 (hY pre x W1 a b));have HJ:=ZZ hJ;have H0:=ZZ h0;have HB:=ZZ (And.intro hb0 hb1);clear hG hJ hY h0;refine callsIn_of_wp Tryz.func147 rfl trivial ?_ rfl;simp only[Tryz.ntmps147,List.size_toArray,List.length_cons,List.length_nil,Nat.reduceAdd,Nat.reduceSub,Array.replicate_succ,Array.replicate_zero,List.push_toArray,List.append_toArray,List.nil_append,List.cons_append]
 gi_wp2_with fail
 gi_loopw [4,8] (fun _ i' wr=> ∃(k:Nat) (ys:List (Plc g)),k≤g.nd.length∧i'=.int .i64 k∧Hid (ys.map (·.1)=Zcz g k)∧Hid (J ys wr)∧Hid (KeepsV V n0 W wr)) (fun _ i' _=>g.nd.length - (intOf i').toNat)
 case atStart=>exact⟨0,[],Yt _,rfl,ZZ rfl,H0,ZZ (KeepsV.refl _ _ _)⟩
 case round=>
  obtain⟨k,ys,hk,rfl,HK,HJ1,HKV⟩:=hrel;by_cases hlt:k<g.nd.length
  · obtain⟨d,hd⟩: ∃x,g.nd[k]? =some x:=⟨_,Ya hlt⟩
    obtain⟨h,hh⟩: ∃h,hs[k]? =some h:=⟨_,Ya (by rw[HG.out.len];exact hlt)⟩
    obtain⟨fv,rv⟩:=h;have HGr:=HG.out.keep HKV.out;obtain⟨bb,o,c',e,_,_,hlt2,hc⟩:=HGr.nodes.at_ (by omega)
    obtain⟨rfl,rfl⟩:A=some ⟨bb,o,none⟩∧c=c':=by simpa using e
    obtain⟨q0,q1,q2⟩:=Zge g.nd hs k d (fv,rv) hd hh;have g0:=hc _ _ q0;have g1:=hc _ _ q1;have g2:=hc _ _ q2;rw[← Nat.add_assoc] at g1 g2;obtain⟨hrow,hrow2⟩:=HG.out.rows k d _ hd hh;obtain⟨W2,hW2,HB2⟩:=ZaA wr d.kd fv rv;have HW2:=ZZ hW2;have HJ2:=ZZ (HJ.out ys wr W2 none HJ1.out (Zfq HB2.out.1) (fun _ h=>by cases h))
    have hlen:((Zd0 g).getD k []).length=d.fs.length:=by rw[Zj5 hd]
    have hup:ys.length+d.fs.length≤(allP g).length:=by
     have h1:=congrArg List.length HK.out;rw[List.length_map] at h1;have h2:=(Zhv g (show k+1≤g.nd.length+1 by omega)).length_le;rw[Za0,Yr,List.length_map,List.length_range,hlen] at h2;unfold allP;omega
    have HE:=ZZ (ZjG lp k (fun x:Plc g=>x.1) (ZnA hs vr g) fv d.fs.length hrow (fun j hj=>⟨⟨(k,j),by show j<((Zd0 g).getD k []).length;rw[hlen];exact hj⟩,rfl,by unfold ZnA;simp only[ZmL hh]⟩) V n0 (allP g).length J Jx HY.out ys hup W2 HJ2.out);have HKV2:=ZZ (HKV.out.trans (KeepsV.only (V:=V) (n0:=n0) HB2.out.1 fun _ _ h=>h.elim));have HUP:=ZZ (show Zcz g (k+1)=Zcz g k++(List.range d.fs.length).map (Prod.mk k) by rw[Za0,hlen]);have HPR:=ZZ (show Zcz g (k+1)<+:allP g from Zhv g (by omega))
    obtain⟨kd,hkd⟩: ∃kd,kd=d.kd:=⟨_,rfl⟩
    rw[← hkd] at g0 HB2 HW2;obtain⟨-,Af,cf,rfl, -⟩:=id hrow;obtain⟨-,Ar,cr,rfl, -⟩:=id hrow2;obtain⟨-, -,d0,d1,d2⟩:=HB2.out;clear hrow2 hd hh HGr e hc q0 q1 q2 hW2 hkd hup hrow hlen
    gi_wp2_with (with_reducible rw[HW2.out])
    clear g0 g1 g2;refine⟨trivial,?_⟩
    gi_at_call 148
    refine(HE.out _).mono ?_;rintro e W3 (⟨rfl,zs,hz,hJ3,hk3⟩|⟨rfl,j,zs,hj,hz,hJ3⟩)
    · have HZ:=ZZ (show(ys++zs).map (·.1)=Zcz g (k+1) by rw[List.map_append,HK.out,HUP.out];rw[← hz])
      have HJ3:=ZZ hJ3;have HV3:=ZZ (HKV2.out.trans hk3);clear hz hJ3 hk3 d0 d1 d2
      gi_wp2
      go_roundw
      case rel=>exact⟨k+1,ys++zs,by omega,by go_num,HZ,HJ3,HV3⟩
      case measure=>simp[intOf];omega
    · have HZ:=ZZ (show(ys++zs).map (·.1)<+:allP g by
       refine List.IsPrefix.trans ?_ HPR.out;rw[List.map_append,HK.out,HUP.out]
       exact(List.prefix_append_right_inj _).2 (by rw[hz];exact ZcV k (by omega)))
      have HJ3:=ZZ hJ3;clear hz hJ3 d0 d1 d2
      gi_wp2
      refine bodyPost_ret (results_none rfl _ _ _) rfl ?_;exact⟨⟨_,rfl⟩,.inr ⟨_,HZ.out,HJ3.out⟩⟩
  · obtain rfl:k=g.nd.length:=by omega
    have b1:=HKV.out.cell (p:=⟨Bn,1,none⟩) hB hBV HB.out.2
    have hup:ys.length+g.rt.length≤(allP g).length:=by
     have h1:=congrArg List.length HK.out;rw[List.length_map] at h1;unfold allP;rw[Za0,Yr,List.length_map,List.length_range,Zdx];omega
    have hlen:((Zd0 g).getD g.nd.length []).length=g.rt.length:=by rw[Zdx]
    have HE:=ZZ (ZjG lp g.nd.length (fun x:Plc g=>x.1) (ZnA hs vr g) vr g.rt.length HG.out.root (fun j hj=>⟨⟨(g.nd.length,j),by show j<((Zd0 g).getD g.nd.length []).length;rw[hlen];exact hj⟩,rfl,by unfold ZnA;simp only[← HG.out.len,ZhF]⟩) V n0 (allP g).length J Jx HY.out ys hup wr HJ1.out);have HUP:=ZZ (show allP g=Zcz g g.nd.length++(List.range g.rt.length).map (Prod.mk g.nd.length) by unfold allP;rw[Za0,hlen]);clear hup hlen
    gi_wp2_with fail
    refine⟨trivial,?_⟩
    gi_at_call 148
    refine(HE.out _).mono ?_;rintro e W3 (⟨rfl,zs,hz,hJ3,hk3⟩|⟨rfl,j,zs,hj,hz,hJ3⟩)
    · gi_wp2
      go_end0
      exact⟨⟨_,rfl⟩,.inl ⟨ys++zs,by rw[List.map_append,HK.out,HUP.out];rw[← hz],hJ3⟩⟩
    · gi_wp2
      go_end0
      exact⟨⟨_,rfl⟩,.inr ⟨ys++zs,by rw[List.map_append,HK.out,HUP.out];exact(List.prefix_append_right_inj _).2 (by rw[hz];exact ZcV _ (by omega)),hJ3⟩⟩
theorem Zmk (Bn n0:Nat) (V:Nat→Prop) (g:Gr) (vn vr:Value) (hs:List (Value×Value)) (w:World) (hB:Bn<n0) (hBV: ¬V Bn) (hb0:w.cell? ⟨Bn,0,none⟩=some vn) (hb1:w.cell? ⟨Bn,1,none⟩=some vr) (hG:HdG V n0 w g vn vr hs) (hn0:n0≤w.heap.size):
 SeqStopsK Fence.wide 2 Tryz.prog 147 #[.pointer (some ⟨Bn,0,none⟩)] (ZnA hs vr g) (KeepsV V n0) (fun xs=>xs.map (·.1)=allP g) (fun pre=>pre.map (·.1)<+:allP g) (allP g).length w:=by
 intro lp J Jx W hW hJ hJx hY h0
 have hkk:KeepsV V n0 w W:=⟨hW.size,fun k hk hkw hv=>hW.block k hkw⟩
 exact ZiR lp Bn n0 V g vn vr hs J Jx W hB hBV (hkk.cell (p:=⟨Bn,0,none⟩) hB hBV hb0) (hkk.cell (p:=⟨Bn,1,none⟩) hB hBV hb1) (hG.keep hkk) (Yh hn0 hW.size) hJ hY h0
end
section
open Go.RowKit Go.Lib
theorem Zj8 (va vb:Value) (l:List Int) (B B':Nat) (w:World) (ha:Sl w B 1 va l.length (i64s l)) (hb:Sl w B' 1 vb l.length (i64s l)):
 Calls Tryz.prog 13 #[va,vb] w fun e w'=>e=.returned (.bool true)∧ ∃m,w'=w.drewN m:=by
 have HA:=ZZ ha;have HB:=ZZ hb;obtain⟨A,ca,rfl,hac,ham, -⟩:=ha;obtain⟨A',cb,rfl,hbc,hbm, -⟩:=hb;unfold maxLen at ham hbm
 go_enter Tryz.func13,Tryz.ntmps13
 go_wp2
 go_loopw [5] (fun i wr=> ∃k m:Nat,k≤l.length∧i=.int .i64 k∧wr=w.drewN m) (fun i _=>l.length - (intOf i).toNat)
 case atStart=>exact⟨0,0,Yt _,rfl,rfl⟩
 case round=>
  obtain⟨k,m,hk,rfl,rfl⟩:=hrel;by_cases hlt:k<l.length
  · obtain⟨y,hy⟩: ∃y,l[k]? =some y:=⟨_,Ya hlt⟩
    obtain⟨b1,o1,rfl, -,g1⟩:=ZcP HA.out (Below.refl _ _) hy;obtain⟨b2,o2,rfl, -,g2⟩:=ZcP HB.out (Below.refl _ _) hy;clear hy;go_wp2
    go_quiet (fail)
    go_wp2
    go_roundw
    case rel=>exact⟨k+1,_,by omega,by go_num,rfl⟩
    case measure=>simp[intOf];omega
  · obtain rfl:k=l.length:=by omega
    go_wp2;go_ret;exact⟨rfl,_,rfl⟩
end
section
open Go.RowKit Go.Shelf
attribute [local go_sem] Oper.semAt_some
def ndBad (d:Nd):Bool:=decide (d.kd<0)||(decide (31<d.kd)||(decide (4096<(d.fs.length:Int))||decide (4096<(d.rs.length:Int))))
theorem Zdy (d:Nd):(d.kd<0∧ndBad d=true)∨(0≤d.kd∧31<d.kd∧ndBad d=true)∨(0≤d.kd∧d.kd≤31∧4096<(d.fs.length:Int)∧ndBad d=true)∨(0≤d.kd∧d.kd≤31∧(d.fs.length:Int)≤4096∧4096<(d.rs.length:Int)∧ndBad d=true)∨(0≤d.kd∧d.kd≤31∧(d.fs.length:Int)≤4096∧(d.rs.length:Int)≤4096∧ndBad d=false):=by
 unfold ndBad;by_cases h1:d.kd<0
 · exact .inl ⟨h1,by simp[h1]⟩
 by_cases h2:31<d.kd
 · exact .inr (.inl ⟨by omega,h2,by simp[h2]⟩)
 by_cases h3:4096<(d.fs.length:Int)
 · exact .inr (.inr (.inl ⟨by omega,by omega,h3,by simp;omega⟩))
 by_cases h4:4096<(d.rs.length:Int)
 · exact .inr (.inr (.inr (.inl ⟨by omega,by omega,by omega,h4,by simp;omega⟩)))
 · exact .inr (.inr (.inr (.inr ⟨by omega,by omega,by omega,by omega,by simp;omega⟩)))
theorem Zmn (n:Nat) (d:Nd):Zfo n d=(!ndBad d&&d.fs.all (vOk n)):=by
 have h1:=Zdy d;have h2:=ZeH n d
 rcases h1 with⟨a,e⟩|⟨a,b,e⟩|⟨a,b,c,e⟩|⟨a,b,c,f,e⟩|⟨a,b,c,f,e⟩ <;> rcases h2 with⟨a',e'⟩|⟨a',b',e'⟩|⟨a',b',c',e'⟩|⟨a',b',c',f',e'⟩|⟨a',b',c',f',e'⟩ <;> first|omega|(rw[e,e'];simp)
theorem Zgl (d:Nd) (h:Value×Value) (h1:Zne h.1 d.fs.length) (h2:Zne h.2 d.rs.length) (w:World):
 Calls Tryz.prog 123 #[.agg #[.int .i64 d.kd,h.1,h.2]] w fun e w'=>e=.returned (.bool (ndBad d))∧Only nob w w':=by
 obtain⟨fv,rv⟩:=h;obtain⟨n1,Af,cf,hfv, -⟩:=h1;obtain⟨n2,Ar,cr,hrv, -⟩:=h2;simp only at hfv hrv;subst hfv hrv;obtain⟨W,hW,HB⟩:=ZaA w d.kd (.slice Af d.fs.length cf) (.slice Ar d.rs.length cr);have HW:=ZZ hW;obtain⟨-, -,d0,d1,d2⟩:=HB.out;have hcs:=Zdy d
 obtain⟨q,hq⟩: ∃q,q=ndBad d:=⟨_,rfl⟩
 obtain⟨kd,hkd⟩: ∃kd,kd=d.kd:=⟨_,rfl⟩
 rw[← hq, ← hkd] at hcs;rw[← hkd] at HW d0;rw[← hq];simp only;rw[← hkd];have HO:=ZZ HB.out.1;clear hW hq hkd HB
 go_enter Tryz.func123,Tryz.ntmps123
 go_upto_region 1 with fail
 rw[HW.out]
 rcases hcs with⟨a,rfl⟩|⟨a,b,rfl⟩|⟨a,b,c,rfl⟩|⟨a,b,c,f,rfl⟩|⟨a,b,c,f,rfl⟩
 all_goals
  go_wp2;go_ret;exact⟨Za (by first|rfl|(simp;done)|(simp;omega)),HO.out⟩
theorem ZnK {l:List Nd} {p:Nd→Bool} {k:Nat} {x:Nd} (hx:l[k]? =some x) (hp:p x=true):l.any p=true:=List.any_eq_true.2 ⟨x,Yn hx,hp⟩
theorem Zmb {l:List Nd} {p:Nd→Bool} (h: ∀(j:Nat) y,j<l.length→l[j]? =some y→p y=false):l.any p=false:=by
 rw[List.any_eq_false];intro y hy;obtain⟨j,hj⟩:=List.getElem?_of_mem hy;rw[h j y (Yj.1 hj).1 hj];simp
theorem Zob (g:Gr) (v vr:Value) (hs:List (Value×Value)) (B:Nat) (w:World) (hr:RdG w B g v vr hs) (hB:B≤w.heap.size):
 Calls Tryz.prog 155 #[v,.func (.func 123) #[] #[]] w fun e w'=> ∃z:Int,e=.returned (.int .i64 z)∧decide (0≤z)=g.nd.any ndBad∧Only nob w w':=by
 have HR:=ZZ hr;obtain⟨A,c,rfl,hac,hcm⟩:=hr.nodes.form;unfold maxLen at hcm;have eg: ∀args w,(callFunc 123 args).run Tryz.prog w=.ok (.enter 123 args) w:=enters_of Tryz.func123 (by kernel_rfl) rfl
 obtain⟨q,hq⟩: ∃q,q=g.nd.any ndBad:=⟨_,rfl⟩
 have HQ:=ZZ hq;rw[← hq];clear hr hq
 go_enter Tryz.func155,Tryz.ntmps155
 go_wp2_with fail
 go_loopw [5,8] (fun _ i wr=> ∃k:Nat,k≤g.nd.length∧i=.int .i64 k∧Hid (∀(j:Nat) y,j<k→g.nd[j]? =some y→ndBad y=false)∧Hid (Only nob w wr)) (fun _ i _=>g.nd.length - (intOf i).toNat)
 case atStart=>exact⟨0,Yt _,rfl,fun j _ hj _=>absurd hj (Nat.not_lt_zero j),ZZ (Only.refl _ _)⟩
 case round=>
  obtain⟨k,hk,rfl,hno,HO⟩:=hrel;by_cases hlt:k<g.nd.length
  · obtain⟨d,hd⟩: ∃x,g.nd[k]? =some x:=⟨_,Ya hlt⟩
    obtain⟨bb,o,fv,rv,rfl,hbb,hh,g0,g1,g2,hnd⟩:=HR.out.at_ (HO.out.below hB fun _ h=>h.elim) hd;have HD:=ZZ hd;have hf1:=hnd.fields.rowF;have hf2:=hnd.raws.rowF;have HC:=ZZ (Zgl d (fv,rv) hf1 hf2 wr);obtain⟨-,Af,cf,hfv, -⟩:=hf1;obtain⟨-,Ar,cr,hrv, -⟩:=hf2;simp only at hfv hrv;subst hfv hrv
    obtain⟨kd,hkd⟩: ∃kd,kd=d.kd:=⟨_,rfl⟩
    rw[← hkd] at g0 HC;clear hd hh hnd hkd
    cases hp:ndBad d with
    |true=>
     rw[hp] at HC;have HN:=ZZ (show decide (0≤(k:Int))=q by rw[HQ.out,ZnK HD.out hp];simp);clear hp
     go_wp2_with fail
     refine HC.out.mono ?_;rintro e w1 ⟨rfl,ho⟩;have HO1:=ZZ (HO.out.trans ho);clear ho g0 g1 g2;go_wp2;go_ret;exact⟨_,rfl,HN.out,HO1.out⟩
    |false=>
     rw[hp] at HC
     have HN:=ZZ (show ∀(j:Nat) y,j<k+1→g.nd[j]? =some y→ndBad y=false from fun j y hj hy=>by
      rcases Yp j k with h'|h'
      · exact hno.out j y h' hy
      · obtain rfl:j=k:=by omega
        rw[HD.out] at hy;obtain rfl:=Yo hy
        exact hp)
     clear hp
     go_wp2_with fail
     refine HC.out.mono ?_;rintro e w1 ⟨rfl,ho⟩;have HO1:=ZZ (HO.out.trans ho);clear ho g0 g1 g2;go_wp2
     go_roundw
     case rel=>exact⟨k+1,by omega,by go_num,HN,HO1⟩
     case measure=>simp[intOf];omega
  · obtain rfl:k=g.nd.length:=by omega
    have HN:=ZZ (show decide (0≤(-1:Int))=q by rw[HQ.out,Zmb fun j y hj hy=>hno.out j y hj hy];rfl);go_wp2;go_ret;exact⟨_,rfl,HN.out,HO.out⟩
theorem ZiT (g:Gr) (v vr:Value) (hs:List (Value×Value)) (B:Nat) (w:World) (hr:RdG w B g v vr hs) (hB:B≤w.heap.size):
 Calls Tryz.prog 122 #[v,.func (.func 123) #[] #[]] w fun e w'=>e=.returned (.bool (g.nd.any ndBad))∧Only nob w w':=by
 have HC:=ZZ (Zob g v vr hs B w hr hB);obtain⟨A,c,rfl,hac,hcm⟩:=hr.nodes.form;clear hr
 go_enter Tryz.func122,Tryz.ntmps122
 go_wp2_with fail
 go_at_call 155;refine HC.out.mono ?_;rintro e w1 ⟨z,rfl,hz,ho⟩;have HZ:=ZZ hz;have HO:=ZZ ho;clear hz ho;go_wp2;go_ret;exact⟨Za HZ.out,HO.out⟩
theorem ZjH (n:Nat) (x y:Int):(Zat x y=false∧vOk n (x,y)=false)∨(Zat x y=true∧x≠2∧vOk n (x,y)=true)∨(Zat x y=true∧x=2∧y<(n:Int)∧vOk n (x,y)=true)∨(Zat x y=true∧x=2∧(n:Int)≤y∧vOk n (x,y)=false):=by
 unfold vOk
 cases h:Zat x y with
 |false=>exact .inl ⟨rfl,by simp[h]⟩
 |true=>
  by_cases h2:x=2
  · by_cases h3:(n:Int)≤y
    · exact .inr (.inr (.inr ⟨rfl,h2,h3,by simp[h2,h3]⟩))
    · exact .inr (.inr (.inl ⟨rfl,h2,by omega,by simp[h,h3]⟩))
  · exact .inr (.inl ⟨rfl,h2,by simp[h,h2]⟩)
theorem ZfA (x y:Int) (n:Nat) (w:World):Calls Tryz.prog 124 #[.agg #[.int .i64 x,.int .i64 y],.int .i64 n] w fun e w'=>e=.returned (.bool (vOk n (x,y)))∧Only nob w w':=by
 obtain⟨W,hW,HB⟩:=ZbA w x y;have HW:=ZZ hW;have d0:W.cell? ⟨w.heap.size,0,none⟩=some (.int .i64 x):=HB.out.2.cell 0;have d1:W.cell? ⟨w.heap.size,1,none⟩=some (.int .i64 y):=HB.out.2.cell 1
 obtain⟨q,hq⟩: ∃q,q=vOk n (x,y):=⟨_,rfl⟩
 have hcs:=ZjH n x y;rw[← hq] at hcs ⊢;clear hW hq
 rcases hcs with⟨hm,rfl⟩|⟨hm,h2,rfl⟩|⟨hm,rfl,h3,rfl⟩|⟨hm,rfl,h3,rfl⟩
 · have HC:=ZZ (ZmK x y hm W)
   clear hm
   go_enter Tryz.func124,Tryz.ntmps124
   go_upto_region 1 with fail
   rw[HW.out]
   go_wp2_with fail
   go_at_call 58;refine HC.out.mono ?_;rintro e w1 ⟨rfl,ho⟩;have HO:=ZZ (HB.out.1.trans ho);clear ho d0 d1;go_wp2;go_ret;exact⟨Za rfl,HO.out⟩
 · have HC:=ZZ (Zgo x y hm W)
   have hbq:(x !=2)=true:=by simpa using h2
   clear hm h2
   go_enter Tryz.func124,Tryz.ntmps124
   go_upto_region 1 with fail
   rw[HW.out]
   go_wp2_with fail
   go_at_call 58;refine HC.out.mono ?_;rintro e w1 ⟨rfl,ho⟩;have HO:=ZZ (HB.out.1.trans ho);have e0:=ho.keeps d0;have e1:=ho.keeps d1;clear ho d0 d1;go_wp2;go_ret;exact⟨Za rfl,HO.out⟩
 all_goals
  have HC:=ZZ (Zgo 2 y hm W);clear hm
  go_enter Tryz.func124,Tryz.ntmps124
  go_upto_region 1 with fail
  rw[HW.out]
  go_wp2_with fail
  go_at_call 58;refine HC.out.mono ?_;rintro e w1 ⟨rfl,ho⟩;have HO:=ZZ (HB.out.1.trans ho);have e0:=ho.keeps d0;have e1:=ho.keeps d1;clear ho d0 d1;go_wp2;go_ret;exact⟨Za (by first|rfl|(simp;omega)),HO.out⟩
attribute [local go_sem] Oper.semAt_some
theorem Zel {X Y:World} {g:Nat} {t:TypeId} {cs:Array Value} {row:Option Nat} (h:Blk X g t cs) (hg:X.grownBy Y row) (hr: ∀r,row=some r→ ∃o:Obj,X.heap[r]? =some o∧o.isCells=false):Blk Y g t cs:=
 (hg.block g h.lt (fun e=>by obtain⟨o,ho,hc⟩:=hr g e.symm;rw[show X.heap[g]? =_ from h] at ho;cases ho;cases hc)).trans h
theorem ZcU {X:World} {g D:Nat} {t:TypeId} {cs:Array Value} {o:Obj} (h:Blk X g t cs) (o':Obj) (hk:X.heap[D]? =some o) (hc:o.isCells=false):Blk (X.putObj D o') g t cs:=
 Zel h (grownBy_putObj' X D o') fun r e=>by cases e;exact⟨o,hk,hc⟩
theorem Zmi {F:Nat→Prop} {W W':World} (h:Only F W W') (hF: ∀k o,F k→W.heap[k]? =some o→o.isCells=true):KeepsOthers W W':=
 ⟨h.size,fun k o ho hc=>(h.block k (Yu.1 ho).1 (fun f=>by rw[hF k o f ho] at hc;cases hc)).trans ho⟩
theorem ZcQ {W W':World} (h:Only nob W W'):KeepsOthers W W':=Zmi h fun _ _ h=>h.elim
theorem ZcZ {w W:World} {D:Nat} (h:Below w.heap.size w W) (hD:w.heap.size≤D) (hK:W.heap[D]? =some (.deferred (some []))):Only nob w (W.putObj D (.deferred none)):=
 Below.only (h.trans (belowK_b (w:=w) (Yi _) W D _ (.deferred none) hD hK rfl rfl))
theorem Zd6 {F:Nat→Prop} {w W W':World} {row:Option Nat} (h:Only F w W) (hg:W.grownBy W' row) (hr: ∀k,row=some k→w.heap.size≤k):Only F w W':=
 ⟨hg.os.trans h.os,hg.tape.trans h.tape,hg.output.trans h.output,Yh h.size hg.size,fun k hk hn=>(hg.block k (Yv hk h.size) (fun e=>by have:=hr k e.symm;omega)).trans (h.block k hk hn)⟩
theorem Zjl (n:Nat) (vn vr:Value) (w:World):CallsIn Fence.wide n Tryz.prog 114 #[.agg #[vn,vr]] w fun e w'=>
 e=.returned (.func (.func 147) #[] #[.pointer (some ⟨w.heap.size,0,none⟩)])∧w'=w.alloc (.cells #[vn,vr] 27):=by
 refine callsIn_wide.2 ?_
 go_enter Tryz.func114,Tryz.ntmps114
 go_wp2_with fail
 go_ret;exact⟨rfl,rfl⟩
def Zk6 (g:Gr) (p:Nat×Nat):Sp:=((Zd0 g).getD p.1 []).getD p.2 (0,0)
theorem Zjy (g:Gr) (p:Plc g): ∃l,(Zd0 g)[p.1.1]? =some l∧l[p.1.2]? =some (Zk6 g p.1):=by
 have h:=p.2
 have h1:p.1.1<(Zd0 g).length:=by
  refine Nat.lt_of_not_le fun h'=>?_;rw[Ym,List.getElem?_eq_none h'] at h;simp at h
 refine⟨(Zd0 g)[p.1.1],Ya h1,?_⟩;unfold Zk6;rw[Ym,Ya h1,Option.getD_some] at h;rw[Ym (l:=Zd0 g),Ya h1,Option.getD_some,Ym,Ya h,Option.getD_some]
def Zpm (g:Gr):List Sp:=(Zd0 g).flatten
theorem Zml {g:Gr} {p:Nat×Nat}:p∈allP g↔p.1<g.nd.length+1∧p.2<((Zd0 g).getD p.1 []).length:=by
 unfold allP Zcz;simp only[List.mem_flatMap,List.mem_range,List.mem_map];constructor
 · rintro⟨i,hi,j,hj,rfl⟩
   exact⟨hi,hj⟩
 · rintro⟨h1,h2⟩
   exact⟨p.1,h1,p.2,h2,rfl⟩
theorem Zg4 (g:Gr):(Zd0 g).length=g.nd.length+1:=by simp[Zd0]
theorem Zoq {g:Gr} {v:Sp} (h:v∈Zpm g): ∃p∈allP g,Zk6 g p=v:=by
 unfold Zpm at h;obtain⟨l,hl,hv⟩:=List.mem_flatten.1 h;obtain⟨i,hi⟩:=List.getElem?_of_mem hl;obtain⟨j,hj⟩:=List.getElem?_of_mem hv
 have e:(Zd0 g).getD i []=l:=by rw[Ym,hi];rfl
 refine⟨(i,j),Zml.2 ⟨by have:=(Yj.1 hi).1;rw[Zg4] at this;exact this,?_⟩,?_⟩
 · rw[e];exact(Yj.1 hj).1
 · unfold Zk6
   rw[e,Ym,hj];rfl
theorem Zms (g:Gr):Zb6 g=(!g.nd.any ndBad&&(Zpm g).all (vOk g.nd.length)):=by
 unfold Zb6 Zpm Zd0;rw[List.flatten_append,List.all_append]
 have h1:g.nd.all (Zfo g.nd.length)=(!g.nd.any ndBad&&(g.nd.map (·.fs)).flatten.all (vOk g.nd.length)):=by
  rw[show Zfo g.nd.length=fun d=>!ndBad d&&d.fs.all (vOk g.nd.length) from funext (Zmn _)];generalize g.nd.length=n
  induction g.nd with
  |nil=>rfl
  |cons d l ih=>
   simp only[List.all_cons,List.any_cons,List.map_cons,List.flatten_cons,List.all_append,ih,Bool.not_or]
   cases ndBad d <;> cases d.fs.all (vOk n) <;> cases l.any ndBad <;> simp
 rw[h1,Bool.and_assoc];simp
theorem ZlE {w:World} {B:Nat} {g:Gr} {vn vr:Value} {hs:List (Value×Value)} (h:RdG w B g vn vr hs) {i:Nat} {l:List Sp} (hi:(Zd0 g)[i]? =some l):Sl w B 2 (hdr hs vr i) l.length (spc l):=by
 rcases Yp i g.nd.length with hlt|hge
 · obtain⟨d,hd⟩: ∃x,g.nd[i]? =some x:=⟨_,Ya hlt⟩
   obtain⟨x,hx⟩: ∃x,hs[i]? =some x:=⟨_,Ya (by rw[h.len];exact hlt)⟩
   have e:=Zj5 hd;rw[Ym,hi] at e;obtain rfl:l=d.fs:=e;rw[ZmL hx];exact(h.each i d x hd hx).fields
 · have hl:i=g.nd.length:=by have:=(Yj.1 hi).1;rw[Zg4] at this;omega
   subst hl;have e:=Zdx g;rw[Ym,hi] at e;obtain rfl:l=g.rt:=e;rw[← h.len,ZhF];exact h.roots
theorem ZkF {w w':World} {B:Nat} {g:Gr} {vn vr:Value} {hs:List (Value×Value)} (h:RdG w B g vn vr hs) (b:Below B w w') (p:Plc g):
 ∃bb o,adr (hdr hs vr p.1.1) p.1.2=some ⟨bb,o,none⟩∧bb<B∧w'.cell? ⟨bb,o,none⟩=some (.int .i64 (Zk6 g p.1).1)∧w'.cell? ⟨bb,o+1,none⟩=some (.int .i64 (Zk6 g p.1).2):=by
 obtain⟨l,hl,hv⟩:=Zjy g p;have hs':=ZlE h hl;obtain⟨A,c,e, -⟩:=hs'.form;rw[e] at hs' ⊢;obtain⟨bb,o,rfl,hb,c0,c1⟩:=Zy hs' b hv;exact⟨bb,o+p.1.2 * 2,rfl,hb,c0,c1⟩
theorem Zf1:ZkJ 78:=by
 intro g vn vr hs B w h hB hfit;have HR:=ZZ h;obtain⟨A,c,rfl,hac,hcm⟩:=h.nodes.form;obtain⟨Ar,cr,rfl,harc,hcrm⟩:=h.roots.form;unfold maxLen at hcm hcrm;have HG:=ZZ (Zms g)
 obtain⟨q,hq⟩: ∃q,q=Zb6 g:=⟨_,rfl⟩
 have HQ:=ZZ hq;rw[← hq]
 obtain⟨V,hV,HV⟩: ∃V,((w.alloc (.cells #[.slice A g.nd.length c,.slice Ar g.rt.length cr] 27)).alloc (.cells #[.bool false] 4))=V∧Hid (Only nob w V∧V.heap.size=w.heap.size+2∧Blk V w.heap.size 27 #[.slice A g.nd.length c,.slice Ar g.rt.length cr]∧Blk V (w.heap.size+1) 4 #[.bool false]):=
  ⟨_,rfl,ZZ ⟨((Only.refl nob w).alloc _).alloc _,by simp,(Blk.new w _ _).alloc _,Blk.newAt _ _ _ _ (by simp)⟩⟩
 have HVE:=ZZ hV;have HCF:=ZZ (fun (w':World) (b:Only nob w w')=>ZiT g (.slice A g.nd.length c) (.slice Ar g.rt.length cr) hs B w' (HR.out.only b hB) (Yh hB b.size));have v0:V.cell? ⟨w.heap.size,0,none⟩=some (.slice A g.nd.length c):=HV.out.2.2.1.cell 0;have v1:V.cell? ⟨w.heap.size,1,none⟩=some (.slice Ar g.rt.length cr):=HV.out.2.2.1.cell 1;have r0:V.cell? ⟨w.heap.size+1,0,none⟩=some (.bool false):=HV.out.2.2.2.cell 0;have fr0:=HV.out.2.2.2.free 0;clear hV hq h hfit;refine(callsIn_wide (n:=3)).1 ?_;refine callsIn_of_wp_marks Tryz.func78 rfl trivial ?_ rfl;simp only[Tryz.ntmps78,List.size_toArray,List.length_cons,List.length_nil,Nat.reduceAdd,Nat.reduceSub,Array.replicate_succ,Array.replicate_zero,List.push_toArray,List.append_toArray,List.nil_append,List.cons_append]
 gi_wp2_with (with_reducible rw[HVE.out])
 refine⟨trivial,?_⟩
 gi_at_call 122
 refine(callsIn_wide.2 (HCF.out V HV.out.1)).mono ?_
 cases hany:g.nd.any ndBad with
 |true=>
  have HN:=ZZ (show q=false by rw[HQ.out,HG.out,hany];rfl);clear hany;rintro e w1 ⟨rfl,o1⟩;have O1:=ZZ (HV.out.1.trans o1);have B1:=HV.out.2.2.2.keep o1 id;have r1:w1.cell? ⟨w.heap.size+1,0,none⟩=some (.bool false):=B1.cell 0;have fr1:=B1.free 0
  have B2:Blk (w1.setCell ⟨w.heap.size+1,0,none⟩ (.bool false)) (w.heap.size+1) 4 #[.bool false]:=by simpa using B1.put 0 (.bool false)
  have c2:(w1.setCell ⟨w.heap.size+1,0,none⟩ (.bool false)).cell? ⟨w.heap.size+1,0,none⟩=some (.bool false):=B2.cell 0;have O2:=ZZ (O1.out.setCell (p:=⟨w.heap.size+1,0,none⟩) (fun h=>absurd h (by show ¬w.heap.size+1<w.heap.size;omega)) (.bool false));clear o1 v0 v1 r0 fr0 B1 B2
  gi_wp2
  refine⟨.bool false,?_,by rw[HN.out],O2.out⟩;simp[results,Tryz.results78,go_sem,c2]
 |false=>
  have HN:=ZZ (show q=(Zpm g).all (vOk g.nd.length) by rw[HQ.out,HG.out,hany];rfl);clear hany;rintro e w1 ⟨rfl,o1⟩;have O1:=ZZ (HV.out.1.trans o1);have u0:=o1.keeps v0;have u1:=o1.keeps v1;have hsz:w.heap.size+2≤w1.heap.size:=Yh (Nat.le_of_eq HV.out.2.1.symm) o1.size;have B1:=ZZ (HV.out.2.2.2.keep o1 id);have G1:=ZZ (HV.out.2.2.1.keep o1 id);clear o1 v0 v1 r0 fr0
  gi_wp2_with (refine⟨trivial,?_⟩;gi_at_call 114;refine(Zjl _ _ _ _).mono ?_;rintro e w' ⟨rfl,rfl⟩)
  obtain⟨W0,hW0,o0,hz0,bg0⟩: ∃W0,w1.alloc (.cells #[.slice A g.nd.length c,.slice Ar g.rt.length cr] 27)=W0∧Only nob w1 W0∧W0.heap.size=w1.heap.size+1∧Blk W0 w1.heap.size 27 #[.slice A g.nd.length c,.slice Ar g.rt.length cr]:=
   ⟨_,rfl,(Only.refl nob w1).alloc _,by simp,Blk.new w1 _ _⟩
  rw[hW0];have OW0:=ZZ (O1.out.trans o0);have RW0:=ZZ (HR.out.only OW0.out hB)
  have hz1:w1.heap.size<W0.heap.size:=by omega
  have BR:=ZZ (B1.out.keep o0 id);have BG:=ZZ (G1.out.keep o0 id);have hh0:W0.cell? ⟨w1.heap.size,0,none⟩=some (.slice A g.nd.length c):=bg0.cell 0;have hh1:W0.cell? ⟨w1.heap.size,1,none⟩=some (.slice Ar g.rt.length cr):=bg0.cell 1;clear hW0 o0 hz0 bg0 u0 u1
  refine wpIn_rangeFunc_ownH rfl (by decide) (gf:=147) (lb:=#[.pointer (some ⟨w1.heap.size,0,none⟩)]) rfl trivial (enters_of Tryz.func147 (by kernel_rfl) rfl)
   (Zmk w1.heap.size W0.heap.size nob g (.slice A g.nd.length c) (.slice Ar g.rt.length cr) hs W0 hz1 id hh0 hh1 (RdG.hd (RW0.out.more (Yh hB OW0.out.size))) (Yi _)) KeepsV.trans (fun W l o o' h1 _ _ _=>KeepsV.putObj W l o' h1) (Below.refl _ _) (fun _=>rfl)
   (fun pre W=>(∀p∈pre,vOk g.nd.length (Zk6 g p.1)=true)∧Only nob W0 W)
   (fun c pre W=>c=.ret∧(∃p∈pre,vOk g.nd.length (Zk6 g p.1)=false)∧Only (isb (w.heap.size+1)) W0 W∧Blk W (w.heap.size+1) 4 #[.bool false])
   ?hI ?hIx ⟨(fun _ h=>by cases h),Only.refl _ _⟩
   (fun x a' W=>a'={tmps:=#[.agg #[.slice A g.nd.length c,.slice Ar g.rt.length cr],.pointer (some ⟨w.heap.size,0,none⟩),.pointer (some ⟨w.heap.size+1,0,none⟩),.pointer (adr (hdr hs (.slice Ar g.rt.length cr) x.1.1) x.1.2),.pointer (some ⟨w.heap.size,0,none⟩),.slice A g.nd.length c,.bool false,.agg #[.slice A g.nd.length c,.slice Ar g.rt.length cr],.func (.func 147) #[] #[.pointer (some ⟨w1.heap.size,0,none⟩)],.pointer (adr (hdr hs (.slice Ar g.rt.length cr) x.1.1) x.1.2),undef,undef,undef,undef,undef,undef,undef,undef],defers:=[]})
   (fun x a' _ X Y row hs hg hr=>hs)
   ?assign ?body ?done ?stop
  case hI=>
   rintro pre W W' row ⟨h1,h2⟩ hg hr;exact⟨h1,Zd6 h2 hg fun k e=>(hr k e).1⟩
  case hIx=>
   rintro c pre W W' row ⟨rfl,h1,h2,h3⟩ hg hr;exact⟨rfl,h1,Zd6 h2 hg fun k e=>(hr k e).1,Zel h3 hg fun r e=>(hr r e).2⟩
  case assign=>
   rintro lp pre x W K hI hK;dsimp only[ZnA]
   gi_wp2
   exact hK _ _ ((KeepsOthers.refl _).from _) (KeepsV.refl _ _ _) hI rfl
  case body=>
   rintro lp pre x a' W hl ⟨r,hr⟩ ⟨hy,hO⟩ rfl hlt;have HO:=ZZ hO;have HY:=ZZ hy;obtain⟨bb,o,had,hbb,c0,c1⟩:=ZkF (RW0.out.more (Yh hB OW0.out.size)) (HO.out.below (Yi _) fun _ h=>h.elim) x;rw[had];have g0:W.cell? ⟨w.heap.size,0,none⟩=some (.slice A g.nd.length c):=HO.out.keeps (BG.out.cell 0);have BR1:=ZZ (BR.out.keep HO.out id);have r0:W.cell? ⟨w.heap.size+1,0,none⟩=some (.bool false):=BR1.out.cell 0
   obtain⟨v,hv⟩: ∃v,v=Zk6 g x.1:=⟨_,rfl⟩
   have HVV:=ZZ hv;rw[← hv] at c0 c1;have HC:=ZZ (fun (w':World)=>ZfA v.1 v.2 g.nd.length w');have e0:=Zh c0;have e1:=Zh c1;have e2:=Zh g0;clear hO hy hv had c0 c1 g0
   cases hok:vOk g.nd.length (v.1,v.2) with
   |true=>
    rw[hok] at HC;have HK:=ZZ hok;clear hok
    gi_wp2_with fail
    refine Zam (Za5 lp) 7 ZgR (by kernel_rfl) (by kernel_rfl) ?_;simp only[List.take_succ_cons,List.take_zero,List.drop_succ_cons,List.drop_zero]
    repeat (quiet_step (first|(go_at_call 124;with_reducible refine Zq (HC.out _))))
    refine wpQuiet_nil ?_;rintro w' ⟨⟨nq,osq⟩,rfl⟩;obtain⟨W2,hW2,O2⟩:=Zt W nq osq;rw[hW2];clear hW2 e0 e1 e2
    gi_wp2
    refine⟨(ZcQ O2.out).from _,KeepsV.only O2.out (fun _ _ h=>h.elim),fun p hp=>?_,HO.out.trans O2.out⟩;rcases Yq.1 hp with h|h
    · exact HY.out p h
    · rw[Ys.1 h, ← HVV.out];exact HK.out
   |false=>
    rw[hok] at HC;have HK:=ZZ hok;clear hok
    gi_wp2_with fail
    refine Zam (Za5 lp) 7 ZgR (by kernel_rfl) (by kernel_rfl) ?_;simp only[List.take_succ_cons,List.take_zero,List.drop_succ_cons,List.drop_zero]
    repeat (quiet_step (first|(go_at_call 124;with_reducible refine Zq (HC.out _))))
    refine wpQuiet_nil ?_;rintro w' ⟨⟨nq,osq⟩,rfl⟩;obtain⟨W2,hW2,O2⟩:=Zt W nq osq;rw[hW2];have BR2:=BR1.out.keep O2.out id;have r2:W2.cell? ⟨w.heap.size+1,0,none⟩=some (.bool false):=BR2.cell 0;have fr2:=BR2.free 0
    have BR3:Blk (W2.setCell ⟨w.heap.size+1,0,none⟩ (.bool false)) (w.heap.size+1) 4 #[.bool false]:=by simpa using BR2.put 0 (.bool false)
    have HBR3:=ZZ BR3;have O3:=ZZ (show Only (isb (w.heap.size+1)) W0 (W2.setCell ⟨w.heap.size+1,0,none⟩ (.bool false)) from((HO.out.trans O2.out).mono fun _ _ h=>h.elim).trans (Zc _ _ _ _));clear hW2 e0 e1 e2 r0 BR2 BR3
    gi_wp2
    exact⟨((ZcQ O2.out).trans (KeepsOthers.setCell _ _ _)).from _,rfl,⟨x,by simp,by rw[← HVV.out];exact HK.out⟩,O3.out,HBR3.out⟩
  case done=>
   rintro D ys W hD hS ⟨hy,hO⟩ hK
   have HN2:=ZZ (show q=true by
    rw[HN.out,List.all_eq_true];intro v hv;obtain⟨p,hp,rfl⟩:=Zoq hv;rw[← hS] at hp;obtain⟨y,hy1,rfl⟩:=List.mem_map.1 hp
    exact hy y hy1)
   have BR2:=BR.out.keep hO id;have r2:W.cell? ⟨w.heap.size+1,0,none⟩=some (.bool false):=BR2.cell 0;have fr2:=BR2.free 0;have HB3:=ZZ (show Blk (W.setCell ⟨w.heap.size+1,0,none⟩ (.bool true)) (w.heap.size+1) 4 #[.bool true] by simpa using BR2.put 0 (.bool true));have O3:=ZZ ((OW0.out.trans hO).setCell (p:=⟨w.heap.size+1,0,none⟩) (fun h=>absurd h (by show ¬w.heap.size+1<w.heap.size;omega)) (.bool true));have HKD:=ZZ hK;clear hy hO hK BR2
   gi_wp2
   have hK':=(KeepsOthers.setCell W ⟨w.heap.size+1,0,none⟩ (.bool true)).same D _ HKD.out rfl;refine⟨by simp,.inl ⟨_,_,rfl,run_takeDeferred hK',?_⟩⟩;have q0:=(ZcU HB3.out (.deferred none) hK' rfl).cell 0;simp at q0;refine⟨.bool true,?_,by rw[HN2.out],ZcZ (O3.out.whole) (by omega) hK'⟩;simp[results,Tryz.results78,go_sem,q0]
  case stop=>
   rintro D c pre W hD hpre ⟨rfl,⟨p,hp,hbad⟩,hO,hBR⟩ hK
   have HN2:=ZZ (show q=false by
    rw[HN.out];have hm:p.1∈allP g:=hpre.subset (List.mem_map.2 ⟨p,hp,rfl⟩);obtain⟨l,hl,hv⟩:=Zjy g p;rw[List.all_eq_false]
    exact⟨Zk6 g p.1,List.mem_flatten.2 ⟨l,Yn hl,Yn hv⟩,by rw[hbad];simp⟩)
   have HBB:=ZZ hBR;have HKD:=ZZ hK;have O3:=ZZ (show Only nob w W from OW0.out.andThen hO fun i hi e=>by unfold isb at e;omega);clear hO hBR hK
   gi_wp2
   have hK':=HKD.out;refine⟨by simp,.inl ⟨_,_,rfl,run_takeDeferred hK',?_⟩⟩;have q0:=(ZcU HBB.out (.deferred none) hK' rfl).cell 0;simp at q0;refine⟨.bool false,?_,by rw[HN2.out],ZcZ (O3.out.whole) (by omega) hK'⟩;simp[results,Tryz.results78,go_sem,q0]
end
section
open Go.RowKit Go.Lib
theorem ZiZ:Zmz 51:=by
 intro d h B w hr;obtain⟨fv,rv⟩:=h;obtain⟨Af,cf,hfv,hafc,hcfm⟩:=hr.fields.form;obtain⟨Arw,crw,hrv,harw,hcrw⟩:=hr.raws.form;simp only at hfv hrv;subst hfv hrv;obtain⟨W,hW,HB⟩:=ZaA w d.kd (.slice Af d.fs.length cf) (.slice Arw d.rs.length crw);have HW:=ZZ hW;obtain⟨-, -,d0,d1,d2⟩:=HB.out;have HZ:=ZZ (show ndSz d=wrap64 (wrap64 (1+(d.fs.length:Int))+(d.rs.length:Int)) by rw[Zev];rfl)
 obtain⟨z,hz⟩: ∃z,z=ndSz d:=⟨_,rfl⟩
 rw[← hz] at HZ ⊢;simp only;clear hW hr hz
 go_enter Tryz.func51,Tryz.ntmps51
 go_upto_region 1 with fail
 rw[HW.out];go_wp2;go_ret;exact⟨Zbf (by rw[HZ.out]),HB.out.1⟩
noncomputable instance (a b:List Nd):Decidable (a=b):=Classical.propDecidable _
end
end Go.Proofs.YtknoncenblehkaaGreatDoor
