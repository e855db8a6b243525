/- Contract of span's iterator over joined rows. -/
import Derived.Test.YtknoncenblehkaaGreatDoorG11
import Derived.RangeFuncNested
import Derived.RangeFuncBound
import Derived.RangeFuncLeaves
import Derived.RangeFuncBox
import Derived.Shelf.Abstract
import Derived.Shelf.RegionOpen
import Derived.OwnWalkIn
import Derived.LoopNIn
import Derived.LoopIn
import Derived.Maps.OwnIn
set_option maxRecDepth 100000
set_option maxHeartbeats 32000000
set_option linter.unusedSimpArgs false
set_option linter.unusedVariables false
namespace Go.Proofs.YtknoncenblehkaaGreatDoor
section
open Go.RowKit Go.Shelf Go.Sort
attribute [local go_sem] Oper.semAt_some
abbrev OkSp:={x:Sp // x.ok}
def plain (l:List OkSp):List Sp:=l.map (·.1)
theorem Zcj (l:List OkSp):(plain l).length=l.length:=List.length_map _
theorem ZcK (l:List OkSp) (x:OkSp):plain (l++[x])=plain l++[x.1]:=List.map_append
theorem Ze8 (l:List OkSp): ∀x∈plain l,Sp.ok x:=fun x hx=>by obtain⟨y,_,rfl⟩:=List.mem_map.1 hx;exact y.2
theorem Zju: ∀l:List Sp,(∀x∈l,Sp.ok x)→ ∃xs:List OkSp,plain xs=l
 |[],_=>⟨[],rfl⟩
 |x::l,h=>by
  obtain⟨xs,hx⟩:=Zju l fun y hy=>h y (List.mem_cons_of_mem _ hy);exact⟨⟨x,h x List.mem_cons_self⟩::xs,by simp[plain] at hx ⊢;exact hx⟩
def ZhZ (l O:List Sp):Prop:=Joined O∧ ∀p,cov O p↔cov l p
def mine (b:Nat) (W:World) (k:Nat):Prop:=k<W.heap.size∧ ∃v,W.cell? ⟨b,0,none⟩=some v∧v.ownBlock=some k
structure KeepsB (b N0 n0:Nat) (W W':World):Prop where
 below:Below n0 W W'
 cells: ∀k o,N0≤k→W.heap[k]? =some o→o.isCells=true→ ¬mine b W k→W'.heap[k]? =some o
 owned: ∀k,Go.Proofs.YtknoncenblehkaaGreatDoor.mine b W' k→Go.Proofs.YtknoncenblehkaaGreatDoor.mine b W k∨W.heap.size≤k
theorem KeepsB.trans {b N0 n0:Nat} {A B C:World} (h:KeepsB b N0 n0 A B) (g:KeepsB b N0 n0 B C):KeepsB b N0 n0 A C:=by
 refine⟨h.below.trans g.below,fun k o hk ho hc hm=>?_,fun k hm=>?_⟩
 · have hlt:k<A.heap.size:=(Yu.1 ho).1
   refine g.cells k o hk (h.cells k o hk ho hc hm) hc fun hB=>?_;rcases h.owned k hB with h1|h1
   · exact hm h1
   · omega
 · rcases g.owned k hm with h1|h1
   · exact h.owned k h1
   · exact .inr (Yh h.below.size h1)
theorem KeepsB.putObj {b N0 n0:Nat} (W:World) (l:Nat) (o o':Obj) (hb:b<l) (hn:n0≤l) (hl:W.heap[l]? =some o) (ho:o.isCells=false):KeepsB b N0 n0 W (W.putObj l o'):=by
 have hg:=grownBy_putObj' W l o';have hlt:l<W.heap.size:=(Yu.1 hl).1;refine⟨(Below.refl n0 W).grown hg (Yh hn (Nat.le_of_lt hlt)) (fun j e=>by cases e;exact hn),fun k q _ hq hc _=>?_,fun k hm=>.inl ?_⟩
 · have hne:k≠l:=fun e=>by rw[e,hl] at hq;cases hq;rw[ho] at hc;cases hc
   exact(hg.block k (Yu.1 hq).1 (fun e=>hne (Yo e))).trans hq
 · obtain⟨h1,v,h2,h3⟩:=hm
   have hs:(W.putObj l o').heap.size=W.heap.size:=by simp[World.putObj]
   rw[hs] at h1;refine⟨h1,v,?_,h3⟩;rw[← h2];exact(World.cell?_of_block (a:=⟨b,0,none⟩) (hg.block b (by omega) (fun e=>by have:=Yo e;omega))).symm
theorem Zbv {b:Nat} {W W':World} (h:Only nob W W') (hb:b<W.heap.size) {k:Nat} (hk:k<W.heap.size) (hm:mine b W' k):mine b W k:=by
 obtain⟨_,v,h2,h3⟩:=hm;exact⟨hk,v,by rw[← h2];exact(World.cell?_of_block (a:=⟨b,0,none⟩) (h.block b hb id)).symm,h3⟩
theorem KeepsB.only {b N0 n0:Nat} {W W':World} (h:Only nob W W') (hb:b<W.heap.size) (hn:n0≤W.heap.size):KeepsB b N0 n0 W W':=by
 refine⟨h.below hn fun _ h=>h.elim,fun k q _ hq _ _=>(h.block k (Yu.1 hq).1 id).trans hq,fun k hm=>?_⟩;rcases Yp k W.heap.size with hlt|hge
 · exact .inl (Zbv h hb hlt hm)
 · exact .inr hge
theorem KeepsB.blk {b N0 n0:Nat} {W W':World} (h:KeepsB b N0 n0 W W') {g:Nat} {t:TypeId} {cs:Array Value} (hb:Blk W g t cs) (hg:N0≤g) (hm: ¬mine b W g):Blk W' g t cs∧ ¬mine b W' g:=by
 refine⟨h.cells g _ hg hb rfl hm,fun h'=>?_⟩;rcases h.owned g h' with h1|h1
 · exact hm h1
 · have:=hb.lt
   omega
theorem ZT {W W':World} (h:Only nob W W'):W.grownBy W' none:=⟨h.os,h.tape,h.output,h.size,fun k hk _=>h.block k hk id⟩
def SlG (w:World) (g size:Nat) (v:Value) (n:Nat) (xs:List Value):Prop:=
 ∃A c,v=.slice A n c∧n≤c∧c≤maxLen∧xs.length=n * size∧(0<n→ ∃o,A=some ⟨g,o,none⟩∧ ∀k u,xs[k]? =some u→w.cell? ⟨g,o+k,none⟩=some u)
theorem SlG.sl {w:World} {g B size n:Nat} {v:Value} {xs:List Value} (h:SlG w g size v n xs) (hB:0<n→g<B):Sl w B size v n xs:=by
 obtain⟨A,c,rfl,h1,h2,h3,h4⟩:=h;exact⟨A,c,rfl,h1,h2,h3,fun hn=>by obtain⟨o,rfl,hc⟩:=h4 hn;exact⟨g,o,rfl,hB hn,hc⟩⟩
theorem SlG.keep {w w':World} {g size n:Nat} {v:Value} {xs:List Value} (h:SlG w g size v n xs) (hk:0<n→w'.heap[g]? =w.heap[g]?):SlG w' g size v n xs:=by
 obtain⟨A,c,rfl,h1,h2,h3,h4⟩:=h
 exact⟨A,c,rfl,h1,h2,h3,fun hn=>by
  obtain⟨o,rfl,hc⟩:=h4 hn
  exact⟨o,rfl,fun k u hu=>(World.cell?_of_block (a:=⟨g,o+k,none⟩) (hk hn)).trans (hc k u hu)⟩⟩
theorem SlG.cut {w:World} {g size n c l:Nat} {A:Option Addr} {xs:List Value} (h:SlG w g size (.slice A n c) n xs) (hl:l≤n):SlG w g size (ZbU A l n c size) (n - l) (xs.drop (l * size)):=by
 obtain⟨A',c',e,h1,h2,h3,h4⟩:=h
 obtain⟨rfl,rfl⟩:A=A'∧c=c':=by simpa using e
 refine⟨_,_,rfl,by omega,by omega,?_,fun hp=>?_⟩
 · rw[List.length_drop,h3, ← Nat.sub_mul]
 · obtain⟨o,rfl,hc⟩:=h4 (by omega)
   refine⟨o+l * size,?_,fun j u hu=>?_⟩
   · rw[if_neg (by omega)]
     show some (Addr.add _ _)=_;rw[Addr.add_lit]
   · rw[Nat.add_assoc]
     refine hc _ u ?_;rw[List.getElem?_drop] at hu;exact hu
def ZpN:Value→Nat
 |.slice _ n _=>n
 |_=>0
def ItJoined:Prop:= ∀(b Bn n₀:Nat) (v:Value) (l:List Sp) (w:World),n₀≤w.heap.size→Bn<w.heap.size→b<w.heap.size→w.cell? ⟨Bn,0,none⟩=some v→Sl w n₀ 2 v l.length (spc l)→l.length≤40000→ZfO l→
 (∀u k,w.cell? ⟨b,0,none⟩=some u→u.ownBlock=some k→k<w.heap.size)→
 SeqStopsK Fence.wide 2 Tryz.prog 127 #[.pointer (some ⟨Bn,0,none⟩)] (fun x:OkSp=>#[.agg #[.int .i64 x.1.1,.int .i64 x.1.2]]) (KeepsB b w.heap.size n₀) (fun xs=>ZhZ l (plain xs)) (fun pre=> ∃xs,pre<+:xs∧ZhZ l (plain xs)) l.length w
theorem ZiP (lp b Bn n₀ N0:Nat) (v:Value) (l:List Sp) (J Jx:List OkSp→World→Prop)
 (W:World) (hn:n₀≤W.heap.size) (hN0:N0≤W.heap.size) (hbW:b<N0) (hBn:W.cell? ⟨Bn,0,none⟩=some v) (hL:Sl W n₀ 2 v l.length (spc l)) (hlen:l.length≤40000) (hf:ZfO l)
 (hsane: ∀u k,W.cell? ⟨b,0,none⟩=some u→u.ownBlock=some k→k<W.heap.size)
 (hJ:AbidesFrom W.heap.size J)
 (hY: ∀pre x W1,J pre W1→pre.length<l.length→YieldAt Fence.wide 1 Tryz.prog lp #[.agg #[.int .i64 x.1.1,.int .i64 x.1.2]] W1 fun e W'=>
   (e=.returned (.bool true)∧J (pre++[x]) W'∧KeepsB b N0 n₀ W1 W')∨(e=.returned (.bool false)∧Jx (pre++[x]) W'))
 (h0:J [] W):
 CallsIn Fence.wide 2 Tryz.prog 127 #[.func (.yield lp) #[] #[],.pointer (some ⟨Bn,0,none⟩)] W fun e W'=>(∃v,e=.returned v)∧
  ((∃xs,ZhZ l (plain xs)∧J xs W')∨(∃pre,(∃xs,pre<+:xs∧ZhZ l (plain xs))∧Jx pre W')):=by
 have HA:=ZZ hL;obtain⟨A,ca,rfl, -⟩:=id hL;have HF:=ZZ hf;have HSA:=ZZ hsane;have HJ:=ZZ hJ;have HY:=ZZ hY;have H0:=ZZ h0;clear hL hf hsane hJ hY h0;refine callsIn_of_wp Tryz.func127 rfl trivial ?_ rfl;simp only[Tryz.ntmps127,List.size_toArray,List.length_cons,List.length_nil,Nat.reduceAdd,Nat.reduceSub,Array.replicate_succ,Array.replicate_zero,List.push_toArray,List.append_toArray,List.nil_append,List.cons_append]
 gi_wp2_with fail
 refine⟨trivial,?_⟩
 gi_at_call 129
 refine(callsIn_wide.2 (Zfh _ l n₀ W HA.out hn hlen HF.out)).mono ?_;rintro e W1 ⟨v1,rfl,own1,o1⟩;have OW1:=ZZ own1;have O1:=ZZ o1;obtain⟨A1,c1,rfl, -⟩:=Zl own1;have hk1:=ZjE l;clear own1 o1 hBn
 gi_wp2_with fail
 refine⟨trivial,?_⟩
 gi_at_call 128
 refine(callsIn_wide.2 (Zg8 _ (okL l) W1.heap.size W1 (Sl.of_own OW1.out OW1.out.1) (Yi _) (by omega))).mono ?_;rintro e W2 ⟨v2,L,rfl,hLs,own2,o2⟩
 have hperm:L.Perm (okL l):=by have:=hLs.2;rwa [List.take_length] at this
 have HS:=ZZ hLs.1;have HOK:=ZZ (show ∀x∈L,Sp.ok x from fun x hx=>ZoS x (hperm.mem_iff.1 hx));have HCV:=ZZ (show ∀p,cov L p↔cov l p from fun p=>(Zmh hperm p).trans (Zni l p))
 have hll:L.length≤l.length:=by rw[hperm.length_eq];exact hk1
 have O2:=ZZ (O1.out.trans o2);have hW2:W.heap.size≤W2.heap.size:=O2.out.size
 obtain⟨g,HG,HB⟩: ∃g,Hid (SlG W2 g 2 v2 L.length (spc L))∧Hid (0<L.length→ ∃cur,Blk W2 g 61 cur∧ ¬mine b W2 g∧N0≤g):=by
  rcases own2.2 with⟨rfl,h0⟩|⟨g,cap,cur,rfl,hbase,hg,h1,h2,h3,h4⟩
  · exact⟨0,⟨none,0,by rw[h0],by omega,by simp,own2.1,fun h=>by omega⟩,fun h=>by omega⟩
  · refine⟨g,⟨_,cap,rfl,h1,h2,own2.1,fun _=>⟨0,rfl,fun k u hu=>?_⟩⟩,fun _=>⟨cur,hg,fun hm=>?_,?_⟩⟩
    · have hkl:k<L.length * 2:=by have:=(Yj.1 hu).1;rw[Zar] at this;exact this
      rw[Nat.zero_add,own2.cellAt k hkl];exact hu
    · obtain⟨_,u,hu1,hu2⟩:=hm
      have hbW':b<W.heap.size:=by omega
      have hc:W.cell? ⟨b,0,none⟩=some u:=by rw[← hu1];exact(World.cell?_of_block (a:=⟨b,0,none⟩) (O2.out.block b hbW' id)).symm
      have:=HSA.out u g hc hu2
      have:=O1.out.size
      omega
    · have:=O1.out.size;omega
 have HJ2:=ZZ (HJ.out [] W W2 none H0.out (ZT O2.out) (fun _ h=>by cases h));have HP:=ZZ (Past.start L);clear own2 o2 hLs hperm HSA;obtain⟨i0,hi0,hz0,hz1,hz2⟩:=info_parts Zae;have HZ1:=ZZ hz1;clear hz0 hz1 hz2
 gi_wp2
 gi_loopw [3] (fun s wr=> ∃(k:Nat) (pre:List OkSp),Hid (SlG wr g 2 s (L.drop k).length (spc (L.drop k)))∧Hid (0<L.length→ ∃cur,Blk wr g 61 cur∧ ¬mine b wr g∧N0≤g)∧Hid (Past L k (plain pre))∧Hid (J pre wr)∧Hid (W.heap.size≤wr.heap.size)) (fun s _=>ZpN s)
 case atStart=>exact⟨0,[],by simpa using HG,HB,HP,HJ2,hW2⟩
 case round=>
  clear HG HB HP HJ2;obtain⟨k,pre,HG,HB,HP,HJ1,HZ⟩:=hrel
  obtain⟨n,hn1⟩: ∃n,n=(L.drop k).length:=⟨_,rfl⟩
  have HN:=ZZ hn1;rw[← hn1] at HG;obtain⟨A3,c3,rfl,hnc,hcm, -⟩:=id HG.out;unfold maxLen at hcm;clear hn1;by_cases hpos:0<n
  · have hkL:k<L.length:=by have:=HN.out;rw[List.length_drop] at this;omega
    have hwz:0<L.length:=by omega
    have hSL:=ZZ (show Sl wr wr.heap.size 2 (.slice A3 n c3) (L.drop k).length (spc (L.drop k)) by
     rw[← HN.out];obtain⟨cur,hb, -⟩:=HB.out hwz
     exact HG.out.sl fun _=>hb.lt)
    gi_wp2_with fail
    refine⟨trivial,?_⟩
    gi_at_call 130
    refine(callsIn_wide.2 (ZjK _ (L.drop k) wr.heap.size wr hSL.out (Yi _) (by rw[← HN.out];have:=HN.out;rw[List.length_drop] at this;omega) (by rw[← HN.out];exact hpos) (HS.out.sublist (List.drop_sublist _ _)) (fun x hx=>HOK.out x (List.mem_of_mem_drop hx)))).mono ?_;rintro e W3 ⟨r,m,rfl,m1,m2,hM,hN,o3⟩;have hrok:r.ok:=hM.joined.1 r (by simp);have HP2:=ZZ (show Past L (k+m) (plain (pre++[⟨r,hrok⟩])) by rw[ZcK];exact HP.out.next HS.out m1 m2 hM hN);have O4:=ZZ (o3.alloc (.cells #[.int .i64 r.1,.int .i64 r.2] 61))
    have hmn:m≤n:=by rw[HN.out];exact m2
    have hbr:b<wr.heap.size:=by have:=HZ.out;omega
    have HB4:=ZZ (fun (h:0<L.length)=>(show ∃cur,Blk (W3.alloc (.cells #[.int .i64 r.1,.int .i64 r.2] 61)) g 61 cur∧ ¬mine b (W3.alloc (.cells #[.int .i64 r.1,.int .i64 r.2] 61)) g∧N0≤g by
     obtain⟨cur,hb1,hb2,hb3⟩:=HB.out h
     exact⟨cur,hb1.keep O4.out id,fun hm=>hb2 (Zbv O4.out hbr hb1.lt hm),hb3⟩))
    have HG4:=ZZ (show SlG (W3.alloc (.cells #[.int .i64 r.1,.int .i64 r.2] 61)) g 2 (.slice A3 n c3) n (spc (L.drop k)) from HG.out.keep fun _=>by
     obtain⟨cur,hb1, -⟩:=HB.out hwz
     exact O4.out.block g hb1.lt id)
    have hJ4:J pre (W3.alloc (.cells #[.int .i64 r.1,.int .i64 r.2] 61)):=HJ.out pre wr _ none HJ1.out (ZT O4.out) (fun _ h=>by cases h);obtain⟨fn,tmps,assign,body,hy,hR⟩:=HY.out pre ⟨r,hrok⟩ _ hJ4 (by have:=HP.out.len;rw[Zcj] at this;omega);dsimp only at hy;clear hM hN o3 hJ4
    gi_wp2
    refine hR.mono ?_;rintro e W5 (⟨rfl,hJ5,hk5⟩|⟨rfl,hJx5⟩)
    · have HJ5:=ZZ hJ5
      have hcut:=Zap Tryz.underlying31 hi0 A3 n c3 m hmn;rw[HZ1.out] at hcut
      have HB5:=ZZ (fun (h:0<L.length)=>(show ∃cur,Blk W5 g 61 cur∧ ¬mine b W5 g∧N0≤g by
       obtain⟨cur,hb1,hb2,hb3⟩:=HB4.out h;obtain⟨q1,q2⟩:=hk5.blk hb1 hb3 hb2
       exact⟨cur,q1,q2,hb3⟩))
      have HG5:=ZZ (show SlG W5 g 2 (ZbU A3 m n c3 2) (L.drop (k+m)).length (spc (L.drop (k+m))) by
       have h1:SlG W5 g 2 (.slice A3 n c3) n (spc (L.drop k)):=HG4.out.keep fun _=>by
        obtain⟨cur,hb1,hb2,hb3⟩:=HB4.out hwz;exact((hk5.blk hb1 hb3 hb2).1).trans hb1.symm
       have h2:=h1.cut hmn;rw[Zfd,List.drop_drop] at h2;rw[show(L.drop (k+m)).length=n - m by rw[HN.out,List.length_drop,List.length_drop];omega]
       exact h2)
      have HZ5:=ZZ (show W.heap.size≤W5.heap.size from Yh HZ.out (Yh O4.out.size hk5.below.size));clear hJ5 hk5 hy hR
      gi_wp2
      go_roundw
      case rel=>exact⟨k+m,pre++[⟨r,hrok⟩],HG5,HB5,HP2,HJ5,HZ5⟩
      case measure=>simp[ZpN,ZbU];omega
    · have HJx:=ZZ hJx5
      clear hJx5 hy hR
      gi_wp2
      refine bodyPost_ret (results_none rfl _ _ _) rfl ?_;obtain⟨Q,hQ,hc⟩:=HP2.out.more HS.out HOK.out;obtain⟨ys,hys⟩:=Zju Q fun x hx=>hQ.1 x (List.mem_append_right _ hx)
      exact⟨⟨_,rfl⟩,.inr ⟨pre++[⟨r,hrok⟩],⟨pre++[⟨r,hrok⟩]++ys,⟨ys,rfl⟩,by
       rw[show plain (pre++[⟨r,hrok⟩]++ys)=plain (pre++[⟨r,hrok⟩])++Q by rw[← hys];exact List.map_append]
       exact⟨hQ,fun p=>(hc p).trans (HCV.out p)⟩⟩,HJx.out⟩⟩
  · have HE:=ZZ (show k=L.length by have h1:=HN.out;rw[List.length_drop] at h1;have:=HP.out.kle;omega)
    obtain rfl:n=0:=by omega
    gi_wp2
    go_end0
    have hP:=HP.out;rw[HE.out] at hP;exact⟨⟨_,rfl⟩,.inl ⟨pre,⟨hP.all.1,fun p=>(hP.all.2 p).trans (HCV.out p)⟩,HJ1.out⟩⟩
theorem Zlj:ItJoined:=by
 intro b Bn n₀ v l w hn hBn hb hc hs hlen hf hsane lp J Jx W hW hJ hJx hY h0;refine ZiP lp b Bn n₀ w.heap.size v l J Jx W (Yh hn hW.size) hW.size hb ((hW.cell (p:=⟨Bn,0,none⟩) hBn).trans hc) ((hs.below (hW.mono hn))) hlen hf (fun u k h1 h2=>?_) hJ hY h0
 have:=hsane u k (by rw[← h1];exact(hW.cell (p:=⟨b,0,none⟩) hb).symm) h2
 exact Yv this hW.size
attribute [local go_sem] Oper.semAt_some
theorem Zd4 {W w1:World} {n₀ N0 b:Nat} {t e:TypeId} {size:Nat} {v v':Value} {k m:Nat} {xs ys:List Value} {tmp:Obj}
 (hv:Boxed W b t v) (hte:t≠e) (hrow:W.ownsRow n₀ e size v k xs) (hn₀:n₀≤W.heap.size) (hB:n₀≤b) (hbN:b<N0)
 (hown':w1.ownsRow n₀ e size v' m ys) (hgrow:(W.alloc tmp).grownBy w1 v.ownBlock) (hvv:v'.ownBlock=v.ownBlock∨v'.ownBlock=some (W.alloc tmp).heap.size):
 KeepsB b N0 n₀ W (w1.setCell ⟨b,0,none⟩ v'):=by
 obtain⟨-,h2, -, -,h5⟩:=hv.appended hte hrow hn₀ hB hown' hgrow;refine⟨h5,fun k o hk ho hc hm=>?_,fun k hm=>?_⟩
 · have hlt:k<W.heap.size:=(Yu.1 ho).1
   have e1:(w1.setCell ⟨b,0,none⟩ v').heap[k]? =w1.heap[k]? :=Below.heap_setCell w1 ⟨b,0,none⟩ v' k (by show k≠b;omega);have e2:w1.heap[k]? =(W.alloc tmp).heap[k]? :=hgrow.block k (by simp;omega) (fun e=>hm ⟨hlt,v,hv.cell,e.symm⟩);have e3:(W.alloc tmp).heap[k]? =W.heap[k]? :=Below.heap_alloc W tmp k hlt;rw[e1,e2,e3];exact ho
 · obtain⟨_,u,hu1,hu2⟩:=hm
   rw[h2.cell] at hu1;obtain rfl:=Yo hu1;rcases hvv with e|e
   · rw[e] at hu2
     exact .inl ⟨(hrow.lt k hu2).2,v,hv.cell,hu2⟩
   · rw[e] at hu2
     have:=Yo hu2
     exact .inr (by rw[← this];simp)
theorem Zjk (w:World) (t:TypeId) (cs:Array Value): ∀j u,cs.toList[j]? =some u→(w.alloc (.cells cs t)).cell? ((⟨w.heap.size,0,none⟩:Addr).add j)=some u:=by
 intro j u hj
 have:=(Blk.new w t cs).cell j
 rw[Array.getElem?_toList] at hj;rw[show(⟨w.heap.size,0,none⟩:Addr).add j=⟨w.heap.size,j,none⟩ by simp[Addr.add];try (intro h;exact h.symm)];rw[this,hj]
theorem ZiC:1000000≤maxLen:=by unfold maxLen;decide
theorem ZkT (n:Nat) (A:Option Addr) (k c:Nat) (w:World):CallsIn Fence.wide n Tryz.prog 88 #[.slice A k c] w fun e w'=>
 e=.returned (.func (.func 127) #[] #[.pointer (some ⟨w.heap.size,0,none⟩)])∧w'=w.alloc (.cells #[.slice A k c] 31):=by
 refine callsIn_wide.2 ?_
 go_enter Tryz.func88,Tryz.ntmps88
 go_wp2_with fail
 go_ret;exact⟨rfl,rfl⟩
end
section
def gst (x:Sp) (l:List Sp):Int×List Sp:=l.foldl (fun s y=>(max s.1 (y.1+y.2),Zc1 s.2 s.1 y.1)) (x.1,[])
theorem Zk2 (x:Sp):gst x []=(x.1,[]):=rfl
theorem Zc7 (x:Sp) (l:List Sp) (y:Sp):gst x (l++[y])=(max (gst x l).1 (y.1+y.2),Zc1 (gst x l).2 (gst x l).1 y.1):=by unfold gst;rw[List.foldl_append];rfl
theorem ZeV {α:Type} {P:List α→Prop} (h0:P []) (h1: ∀l x,P l→P (l++[x])): ∀l,P l:=by
 have key: ∀n (l:List α),l.length=n→P l:=by
  intro n
  induction n with
  |zero=>intro l hl;rw[List.eq_nil_of_length_eq_zero hl];exact h0
  |succ n ih=>
   intro l hl
   rcases List.eq_nil_or_concat l with rfl|⟨m,x,rfl⟩
   · exact h0
   · rw[List.concat_eq_append] at *
     exact h1 _ _ (ih m (by simpa using hl))
 exact fun l=>key _ l rfl
theorem ZlH (O:List Sp) (a b:Int):(Zc1 O a b).length≤O.length+1:=by unfold Zc1;split <;> simp
theorem Zgv (x:Sp): ∀l:List Sp,(gst x l).2.length≤l.length:=by
 refine ZeV (by simp[Zk2]) fun l y h=>?_;rw[Zc7]
 have:=ZlH (gst x l).2 (gst x l).1 y.1
 simp only[Yr,List.length_singleton];omega
theorem ZjN (x:Sp) (hx:x.ok): ∀l:List Sp,(∀y∈l,Sp.ok y)→0≤(gst x l).1∧(gst x l).1≤1099511627776:=by
 refine ZeV (fun _=>?_) fun l y h hl=>?_
 · rw[Zk2];unfold Sp.ok Za6 at hx;simp only;omega
 · have h1:=h fun z hz=>hl z (List.mem_append_left _ hz)
   have h2:=hl y (by simp);unfold Sp.ok Za6 at h2;rw[Zc7];simp only;omega
theorem ZoG (x:Sp) (hx:x.ok): ∀l:List Sp,Joined l→(∀y∈l,y.1<x.1+x.2)→GapsAt x l (gst x l).2 (gst x l).1:=by
 refine ZeV (fun _ _=>GapsAt.start x) fun l y h hj hb=>?_;have hi:=h hj.init fun z hz=>hb z (List.mem_append_left _ hz);have hy:=hj.last;rw[Zc7];by_cases hlt:(gst x l).1<y.1
 · have hm:max (gst x l).1 (y.1+y.2)=y.1+y.2:=by have:=hy.2.1;omega
   simp only;rw[hm,show Zc1 (gst x l).2 (gst x l).1 y.1=(gst x l).2++[((gst x l).1,y.1 - (gst x l).1)] by unfold Zc1;rw[if_pos hlt]];exact hi.gap hx hy hlt (hb y (by simp)) rfl
 · simp only
   rw[show Zc1 (gst x l).2 (gst x l).1 y.1=(gst x l).2 by unfold Zc1;rw[if_neg hlt]];exact hi.none hy (fun z hz=>by have:=hj.below z hz;have:=(hj.1 z (List.mem_append_left _ hz)).2.1;omega) (by omega) rfl
theorem ZhA (x:Sp) (hx:x.ok) {l m:List Sp} (hj:Joined (l++m)) (hb: ∀y∈l,y.1<x.1+x.2) (hm: ∀z∈m,x.1+x.2≤z.1):Joined (Zc1 (gst x l).2 (gst x l).1 (x.1+x.2))∧ ∀p,cov (Zc1 (gst x l).2 (gst x l).1 (x.1+x.2)) p↔x.has p∧ ¬cov (l++m) p:=by
 have hl:Joined l:=⟨fun z hz=>hj.1 z (List.mem_append_left _ hz),(List.pairwise_append.1 hj.2).1⟩
 have hg:=ZoG x hx l hl hb;unfold Zc1
 split
 · rename_i hlt
   exact hg.rest hx (fun z hz _=>hm z hz) hlt rfl
 · rename_i hge
   exact hg.over (fun z hz _=>hm z hz) (by omega)
end
section
open Go.RowKit Go.Shelf Go.Sort
attribute [local go_sem] Oper.semAt_some
structure GapBox (n0:Nat) (A G:Nat) (x:Sp) (pre:List OkSp) (v:Value) (W:World):Prop where
 all:Blk W A 61 #[.int .i64 x.1,.int .i64 x.2]
 gaps:Blk W G 31 #[v]
 row:W.ownsRow n0 61 2 v (gst x (plain pre)).2.length (spc (gst x (plain pre)).2)
 at_:Blk W (G+1) 3 #[.int .i64 (gst x (plain pre)).1]
theorem Zdm {W:World} {g:Nat} {t:TypeId} {cs:Array Value} (h:Blk W g t cs) {o:Obj} (ho:W.heap[g]? =some o):o.isCells=true:=by
 rw[show W.heap[g]? =_ from h] at ho;cases ho;rfl
theorem Zb8 {W:World} {n0:Nat} {e:TypeId} {size n:Nat} {v:Value} {xs:List Value} (h:W.ownsRow n0 e size v n xs) {k:Nat} (hk:v.ownBlock=some k) {o:Obj} (ho:W.heap[k]? =some o):o.isCells=true:=by
 rcases h.2 with⟨rfl,_⟩|⟨g,cap,cur,rfl,_,hg,_⟩
 · cases hk
 · obtain rfl:g=k:=by simpa[Value.ownBlock] using hk
   rw[hg] at ho;cases ho;rfl
theorem GapBox.kept {n0 A G:Nat} {x:Sp} {pre:List OkSp} {v:Value} {W W':World} {row:Option Nat} (h:GapBox n0 A G x pre v W) (hg:W.grownBy W' row) (hr: ∀r,row=some r→ ∃o:Obj,W.heap[r]? =some o∧o.isCells=false):GapBox n0 A G x pre v W':=by
 have ho:Only (fun k=>row=some k) W W':=Zcv hg fun k e _=>e
 have nc: ∀{k:Nat},(∀o,W.heap[k]? =some o→o.isCells=true)→ ¬row=some k:=fun hk e=>by
  obtain⟨o,h1,h2⟩:=hr _ e;rw[hk o h1] at h2;cases h2
 exact⟨h.all.keep ho (nc fun o=>Zdm h.all),h.gaps.keep ho (nc fun o=>Zdm h.gaps),Zb h.row ho fun k hk=>nc fun o=>Zb8 h.row hk,h.at_.keep ho (nc fun o=>Zdm h.at_)⟩
theorem GapBox.only {n0 A G:Nat} {x:Sp} {pre:List OkSp} {v:Value} {W W':World} (h:GapBox n0 A G x pre v W) (ho:Only nob W W'):GapBox n0 A G x pre v W':=
 ⟨h.all.keep ho id,h.gaps.keep ho id,Zb h.row ho fun _ _=>id,h.at_.keep ho id⟩
theorem Zh7 {W W1:World} {n0 N0 M b:Nat} {t e:TypeId} {size k0:Nat} {v v':Value} {xs:List Value} (hv:Blk W b t #[v]) (hrow:W.ownsRow M e size v k0 xs) (hM:b<M) (hMW:M≤W.heap.size) (hB:n0≤b) (hbN:b<N0)
 (o:Only (fun k=>v.ownBlock=some k) W W1) (hvv:v'.ownBlock=v.ownBlock∨ ∃k,v'.ownBlock=some k∧W.heap.size≤k):KeepsB b N0 n0 W (W1.setCell ⟨b,0,none⟩ v')∧Blk (W1.setCell ⟨b,0,none⟩ v') b t #[v']:=by
 have hnb: ¬v.ownBlock=some b:=fun hk=>by have:=(Zr hrow hk).1;omega
 have hv1:Blk W1 b t #[v]:=hv.keep o hnb
 have hv2:Blk (W1.setCell ⟨b,0,none⟩ v') b t #[v']:=by simpa using hv1.put 0 v'
 have hc:W.cell? ⟨b,0,none⟩=some v:=hv.cell 0;refine⟨⟨((Zdj hrow o hMW).mono (by omega)).setCell (p:=⟨b,0,none⟩) hB v',fun k q hk hq hcell hm=>?_,fun k hm=>?_⟩,hv2⟩
 · have hlt:k<W.heap.size:=(Yu.1 hq).1
   have e1:(W1.setCell ⟨b,0,none⟩ v').heap[k]? =W1.heap[k]? :=Below.heap_setCell W1 ⟨b,0,none⟩ v' k (by show k≠b;omega);rw[e1,o.block k hlt fun e=>hm ⟨hlt,v,hc,e⟩];exact hq
 · obtain⟨_,u,hu1,hu2⟩:=hm
   have h2:(W1.setCell ⟨b,0,none⟩ v').cell? ⟨b,0,none⟩=some v':=hv2.cell 0;rw[h2] at hu1;obtain rfl:=Yo hu1
   rcases hvv with e|⟨q,e,hq⟩
   · rw[e] at hu2
     exact .inl ⟨(hrow.lt k hu2).2,v,hc,hu2⟩
   · rw[e] at hu2
     obtain rfl:=Yo hu2;exact .inr hq
theorem ZH {F:Nat→Prop} {W W':World} (h:Only F W W') (hF: ∀k o,F k→W.heap[k]? =some o→o.isCells=true):KeepsOthers W W':=by
 refine⟨h.size,fun k o ho hc=>?_⟩;rw[h.block k (Yu.1 ho).1 fun hf=>by rw[hF k o hf ho] at hc;cases hc];exact ho
theorem GapBox.stored {M A G:Nat} {x:Sp} {pre:List OkSp} {y:OkSp} {v v':Value} {W W4 W6:World} (hAG:A<G) (hM:G+1<M) (h:GapBox M A G x pre v W) (o:Only (fun k=>v.ownBlock=some k) W W4) (hr:W4.ownsRow M 61 2 v' (Zc1 (gst x (plain pre)).2 (gst x (plain pre)).1 y.1.1).length (spc (Zc1 (gst x (plain pre)).2 (gst x (plain pre)).1 y.1.1)))
 (o6:Only nob (W4.setCell ⟨G,0,none⟩ v') W6):GapBox M A G x (pre++[y]) v' (W6.setCell ⟨G+1,0,none⟩ (.int .i64 (max (gst x (plain pre)).1 (y.1.1+y.1.2)))):=by
 have no: ∀k,k<M→ ¬v.ownBlock=some k:=fun k hk e=>by have:=(Zr h.row e).1;omega
 have no': ∀k,k<M→ ¬v'.ownBlock=some k:=fun k hk e=>by have:=(Zr hr e).1;omega
 have a1:=h.all.keep o (no A (by omega));have g1:=h.gaps.keep o (no G (by omega));have t1:=h.at_.keep o (no (G+1) (by omega));have a2:=(a1.other (p:=⟨G,0,none⟩) (by show G≠A;omega) v').keep o6 id
 have g2:Blk (W4.setCell ⟨G,0,none⟩ v') G 31 #[v']:=by simpa using g1.put 0 v'
 have g3:=g2.keep o6 id;have t2:=(t1.other (p:=⟨G,0,none⟩) (by show G≠G+1;omega) v').keep o6 id;have r2:W6.ownsRow M 61 2 v' _ _:=Zb (Zb hr (Zc W4 G 0 v') fun k hk e=>by have:=(Zr hr hk).1;unfold isb at e;omega) o6 fun _ _=>id
 have hg:gst x (plain (pre++[y]))=(max (gst x (plain pre)).1 (y.1.1+y.1.2),Zc1 (gst x (plain pre)).2 (gst x (plain pre)).1 y.1.1):=by rw[ZcK,Zc7]
 refine⟨a2.other (p:=⟨G+1,0,none⟩) (by show G+1≠A;omega) _,g3.other (p:=⟨G+1,0,none⟩) (by show G+1≠G;omega) _,?_,?_⟩
 · rw[hg]
   exact Zb r2 (Zc W6 (G+1) 0 _) fun k hk e=>by have:=(Zr hr hk).1;unfold isb at e;omega
 · rw[hg]
   simpa using t2.put 0 (.int .i64 (max (gst x (plain pre)).1 (y.1.1+y.1.2)))
theorem Zij {W:World} {n0 N0 b p:Nat} (u:Value) (hp:p<N0) (hn:n0≤p) (hpb:p≠b):KeepsB b N0 n0 W (W.setCell ⟨p,0,none⟩ u):=by
 have hb:(W.setCell ⟨p,0,none⟩ u).heap[b]? =W.heap[b]? :=Below.heap_setCell W ⟨p,0,none⟩ u b (fun e=>hpb e.symm);refine⟨(Below.refl n0 W).setCell (p:=⟨p,0,none⟩) hn u,fun k q hk hq _ _=>?_,fun k hm=>.inl ?_⟩
 · rw[Below.heap_setCell W ⟨p,0,none⟩ u k (by show k≠p;omega)];exact hq
 · obtain⟨h1,v,h2,h3⟩:=hm
   have hs:(W.setCell ⟨p,0,none⟩ u).heap.size=W.heap.size:=by simp[World.setCell]
   rw[hs] at h1;exact⟨h1,v,by rw[← h2];exact(World.cell?_of_block (a:=⟨b,0,none⟩) hb).symm,h3⟩
theorem ZlC (x:Sp) (v:Value) (l:List Sp) (B:Nat) (w:World) (hs:Sl w B 2 v l.length (spc l)) (hB:B≤w.heap.size) (hlen:l.length≤30000) (hf:ZfO l) (hx:x.ok):
 Calls Tryz.prog 55 #[.agg #[.int .i64 x.1,.int .i64 x.2],v] w fun e w'=> ∃v' O,e=.returned v'∧Joined O∧(∀p,cov O p↔(x.has p∧ ¬cov l p))∧Sl w' w'.heap.size 2 v' O.length (spc O)∧Only nob w w':=by
 have HS:=ZZ hs;have HX:=ZZ hx;obtain⟨A,ca,rfl,hac,ham, -⟩:=hs;refine(callsIn_wide (n:=3)).1 ?_;obtain⟨i0,hi0,hz0,hz1,hz2⟩:=info_parts Zae;refine callsIn_of_wp_marks Tryz.func55 rfl trivial ?_ rfl;simp only[Tryz.ntmps55,List.size_toArray,List.length_cons,List.length_nil,Nat.reduceAdd,Nat.reduceSub,Array.replicate_succ,Array.replicate_zero,List.push_toArray,List.append_toArray,List.nil_append,List.cons_append]
 gi_wp2_with fail
 refine⟨trivial,?_⟩
 gi_at_call 87
 refine(callsIn_wide.2 (Zbs HX.out _)).mono ?_;rintro e w1 ⟨rfl,g1⟩;have b0:Blk w1 w.heap.size 61 #[.int .i64 x.1,.int .i64 x.2]:=(Blk.new w _ _).keep g1.only id;have bc0:=b0.cell 0;have O1:=ZZ (((Only.refl nob w).alloc (.cells #[.int .i64 x.1,.int .i64 x.2] 61)).trans g1.only);have B0:=ZZ b0;simp at bc0;have hlt1:w.heap.size<w1.heap.size:=b0.lt;clear g1 b0 hx
 gi_wp2_with (refine⟨trivial,?_⟩;gi_at_call 88;refine(ZkT _ _ _ _ _).mono ?_;rintro e w' ⟨rfl,rfl⟩)
 have K0: ∃W0,(((w1.alloc (.cells #[.slice none 0 0] 31)).alloc (.cells #[.int .i64 x.1] 3)).alloc (.cells #[.slice A l.length ca] 31))=W0∧Only nob w W0∧W0.heap.size=w1.heap.size+3∧GapBox (w1.heap.size+3) w.heap.size w1.heap.size x [] (.slice none 0 0) W0∧W0.cell? ⟨w1.heap.size+1+1,0,none⟩=some (.slice A l.length ca):=by
  refine⟨_,rfl,((O1.out.alloc _).alloc _).alloc _,by simp,⟨((B0.out.alloc _).alloc _).alloc _,(Blk.new w1 _ _).alloc _|>.alloc _,World.ownsRow_nil _ _ _ _,?_⟩,?_⟩
  · exact(Blk.newAt _ _ _ _ (by simp):Blk ((w1.alloc (.cells #[.slice none 0 0] 31)).alloc (.cells #[.int .i64 x.1] 3)) (w1.heap.size+1) 3 #[.int .i64 x.1]).alloc _
  · exact(Blk.newAt ((w1.alloc (.cells #[.slice none 0 0] 31)).alloc (.cells #[.int .i64 x.1] 3)) 31 #[.slice A l.length ca] (w1.heap.size+1+1) (by simp)).cell 0
 obtain⟨W0,hW0,o0,hsz,gb0,hl0⟩:=K0;rw[hW0];clear hW0 bc0;have OW0:=ZZ o0;have bG:W0.cell? ⟨w1.heap.size,0,none⟩=some (.slice none 0 0):=gb0.gaps.cell 0
 refine wpIn_rangeFunc_ownH rfl (by decide) (gf:=127) (lb:=#[.pointer (some ⟨w1.heap.size+1+1,0,none⟩)]) rfl trivial (enters_of Tryz.func127 (by kernel_rfl) rfl)
  (Zlj w1.heap.size (w1.heap.size+1+1) w.heap.size _ l W0 (by omega) (by omega) (by omega) hl0 ((HS.out.more hB).below o0.whole) (by omega) hf (fun u k h1 h2=>by rw[bG] at h1;cases h1;cases h2)) KeepsB.trans (fun W l o o' h1 h2 h3 _=>KeepsB.putObj W l o o' (by omega) (by omega) h2 h3) (Below.refl _ _) (fun _=>rfl)
  (fun pre W=>(∃v,GapBox (w1.heap.size+3) w.heap.size w1.heap.size x pre v W)∧(∀y∈plain pre,y.1<x.1+x.2)∧Below w.heap.size w W∧W0.heap.size≤W.heap.size∧pre.length≤l.length)
  (fun c pre W=>c=.exit 0∧ ∃pre0 y,pre=pre0++[y]∧x.1+x.2≤y.1.1∧(∃v,GapBox (w1.heap.size+3) w.heap.size w1.heap.size x pre0 v W)∧(∀y∈plain pre0,y.1<x.1+x.2)∧Below w.heap.size w W∧pre0.length≤l.length)
  ?hI ?hIx ⟨⟨_,gb0⟩,(fun _ h=>by cases h),o0.whole,Yi _,Yt _⟩
  (fun y a' W=> ∃Bx,w1.heap.size+2<Bx∧Blk W Bx 61 #[.int .i64 y.1.1,.int .i64 y.1.2]∧(∃u,Blk W w1.heap.size 31 #[u]∧ ¬u.ownBlock=some Bx)∧a'={tmps:=#[.agg #[.int .i64 x.1,.int .i64 x.2],.slice A l.length ca,.pointer (some ⟨w.heap.size,0,none⟩),undef,.slice none 0 0,.pointer (some ⟨w1.heap.size,0,none⟩),.pointer (some ⟨w1.heap.size+1,0,none⟩),.pointer (some ⟨Bx,0,none⟩),.agg #[.int .i64 x.1,.int .i64 x.2],.bool true,.bool false,.pointer (some ⟨w.heap.size,0,none⟩),.int .i64 x.1,.slice A l.length ca,.func (.func 127) #[] #[.pointer (some ⟨w1.heap.size+1+1,0,none⟩)],.agg #[.int .i64 y.1.1,.int .i64 y.1.2],undef,undef,undef,undef,undef,undef,undef,undef,undef,undef,undef,undef,undef,undef,undef,undef,undef,undef,undef],defers:=[]})
  (fun y a' _ X Y row hs hg hr=>by
    obtain⟨Bx,h1,h2,⟨u,h4,h5⟩,h3⟩:=hs;refine⟨Bx,h1,?_,⟨u,?_,h5⟩,h3⟩
    · exact(hg.block Bx h2.lt (fun e=>by obtain⟨o,ho,hc⟩:=(hr Bx e.symm).2;rw[show X.heap[Bx]? =_ from h2] at ho;cases ho;cases hc)).trans h2
    · exact(hg.block _ h4.lt (fun e=>by obtain⟨o,ho,hc⟩:=(hr _ e.symm).2;rw[show X.heap[w1.heap.size]? =_ from h4] at ho;cases ho;cases hc)).trans h4)
  ?assign ?body ?done ?stop
 case hI=>
  rintro pre W W' row ⟨⟨v,hv⟩,hy,hb,hz,hl⟩ hg hr;exact⟨⟨v,hv.kept hg fun r e=>(hr r e).2⟩,hy,hb.grown hg hb.size (fun k e=>by have:=(hr k e).1;omega),Yh hz hg.size,hl⟩
 case hIx=>
  rintro c pre W W' row ⟨rfl,pre0,y,hp,hy0,⟨v,hv⟩,hy,hb,hl⟩ hg hr;exact⟨rfl,pre0,y,hp,hy0,⟨v,hv.kept hg fun r e=>(hr r e).2⟩,hy,hb.grown hg hb.size (fun k e=>by have:=(hr k e).1;omega),hl⟩
 case assign=>
  rintro lp pre y W K ⟨⟨v,hv⟩,hy,hb,hz,hl⟩ hK
  gi_wp2
  have ho:Only nob W (W.alloc (.cells #[.int .i64 y.1.1,.int .i64 y.1.2] 61)):=(Only.refl nob W).alloc _;exact hK _ _ ((KeepsOthers.alloc _ _).from _) (KeepsB.only ho hv.gaps.lt hb.size) ⟨⟨v,hv.only ho⟩,hy,hb.alloc hb.size _,Yh hz (by simp),hl⟩ ⟨W.heap.size,by omega,Blk.new W 61 _,⟨v,hv.gaps.alloc _,fun e=>by have:=(Zr hv.row e).2;omega⟩,rfl⟩
 case body=>
  rintro lp pre y a' W hl ⟨r,hr⟩ ⟨⟨v,hv⟩,hy,hb,hz,hpl⟩ ⟨Bx,hBx,bX,⟨u,hu1,hu2⟩,rfl⟩ hlt;have x0:W.cell? ⟨w.heap.size,0,none⟩=some (.int .i64 x.1):=hv.all.cell 0;have x1:W.cell? ⟨w.heap.size,1,none⟩=some (.int .i64 x.2):=hv.all.cell 1;have y0:W.cell? ⟨Bx,0,none⟩=some (.int .i64 y.1.1):=bX.cell 0;have y1:W.cell? ⟨Bx,1,none⟩=some (.int .i64 y.1.2):=bX.cell 1;have hAG:w.heap.size<w1.heap.size:=hlt1;have bx0: ∀n os,(grow (W.drewN n) os).cell? ⟨w.heap.size,0,none⟩=some (.int .i64 x.1):=fun n os=>(Zp n os).only.keeps x0;have bx1: ∀n os,(grow (W.drewN n) os).cell? ⟨w.heap.size,1,none⟩=some (.int .i64 x.2):=fun n os=>(Zp n os).only.keeps x1;have by0: ∀n os,(grow (W.drewN n) os).cell? ⟨Bx,0,none⟩=some (.int .i64 y.1.1):=fun n os=>(Zp n os).only.keeps y0;clear x0 x1 y0 y1
  gi_wp2_with fail
  refine ZA (Za5 lp) 4 Zao (by kernel_rfl) (by kernel_rfl) ?_;simp only[List.take_succ_cons,List.take_zero,List.drop_succ_cons,List.drop_zero]
  repeat (quiet_step (first|(go_at_call 89;with_reducible refine Zab (ZaE _ _ HX.out))))
  refine wpQuiet_nil ?_;rintro w' ⟨⟨nq,osq⟩,rfl⟩;obtain⟨W3,hW3,HG3⟩:=Zs W nq osq;rw[hW3];clear hW3 bx0 bx1 by0
  obtain rfl:u=v:=by
   have h1:=hu1.cell 0;rw[hv.gaps.cell 0] at h1;simpa using h1.symm
  have HV3:=ZZ (hv.only HG3.out.only);have BX3:=ZZ (bX.keep HG3.out.only id);have K3:=ZZ (KeepsB.only (b:=w1.heap.size) (N0:=W0.heap.size) (n0:=w.heap.size) HG3.out.only hv.gaps.lt hb.size);have KO3:=ZZ (ZH HG3.out.only fun _ _ h=>h.elim);have HB3:=ZZ (hb.trans (HG3.out.only.below hb.size fun _ h=>h.elim));have HUB:=ZZ hu2;have HBW:=ZZ hb;have HY:=ZZ hy;have hz3:W0.heap.size≤W3.heap.size:=Yh hz HG3.out.only.size;clear hu1 hu2 hv bX hb hy;by_cases hbr:x.1+x.2≤y.1.1
  · gi_wp2
    exact⟨KO3.out.from _,rfl,pre,y,rfl,hbr,⟨u,HV3.out⟩,HY.out,HB3.out,hpl⟩
  · have g0:W3.cell? ⟨w1.heap.size,0,none⟩=some u:=HV3.out.gaps.cell 0
    obtain⟨f,hf0⟩: ∃f,f=(gst x (plain pre)).1:=⟨_,rfl⟩
    have t0:W3.cell? ⟨w1.heap.size+1,0,none⟩=some (.int .i64 f):=by rw[hf0];exact HV3.out.at_.cell 0
    have y0:W3.cell? ⟨Bx,0,none⟩=some (.int .i64 y.1.1):=BX3.out.cell 0;have hfl:=ZjN x HX.out (plain pre) (Ze8 pre);rw[← hf0] at hfl;have hyo:=y.2;unfold Sp.ok Za6 at hyo;have hgl:=Zgv x (plain pre);rw[Zcj] at hgl;have HF0:=ZZ hf0;obtain⟨A2,c2,rfl, -⟩:=Zl HV3.out.row;clear hf0
    gi_wp2_with fail
    refine⟨trivial,?_⟩
    gi_at_call 90
    refine(CallsIn.inRound lp (callsIn_wide.2 (ZgO _ (gst x (plain pre)).2 f y.1.1 (w1.heap.size+3) W3 HV3.out.row (by omega) (by omega) hfl (by omega)))).mono ?_;rintro e W4 ⟨v',rfl,hr4,o4,hvv⟩;obtain⟨A4,c4,rfl, -⟩:=Zl hr4;have K4:=Zh7 (N0:=W0.heap.size) (n0:=w.heap.size) HV3.out.gaps HV3.out.row (by omega) (by omega) (by omega) (by omega) o4 hvv;have KO4:=ZZ (ZH o4 fun k o e ho=>Zb8 HV3.out.row e ho);have g4:W4.cell? ⟨w1.heap.size,0,none⟩=some _:=(HV3.out.gaps.keep o4 (fun e=>by have:=(Zr HV3.out.row e).1;omega)).cell 0;have fg4:=(HV3.out.gaps.keep o4 (fun e=>by have:=(Zr HV3.out.row e).1;omega)).free 0;have BX4:=ZZ ((BX3.out.keep o4 HUB.out).other (p:=⟨w1.heap.size,0,none⟩) (by show w1.heap.size≠Bx;omega) (.slice A4 (Zc1 (gst x (plain pre)).2 f y.1.1).length c4));have T4:=ZZ ((HV3.out.at_.keep o4 (fun e=>by have:=(Zr HV3.out.row e).1;omega)).other (p:=⟨w1.heap.size,0,none⟩) (by show w1.heap.size≠w1.heap.size+1;omega) (.slice A4 (Zc1 (gst x (plain pre)).2 f y.1.1).length c4));have KB4:=ZZ K4.1;have HR4:=ZZ hr4;have O4:=ZZ o4;clear K4 hr4 o4 hvv g0 t0 y0
    gi_wp2_with fail
    obtain⟨W5,hW5⟩: ∃W5,W4.setCell ⟨w1.heap.size,0,none⟩ (.slice A4 (Zc1 (gst x (plain pre)).2 f y.1.1).length c4)=W5:=⟨_,rfl⟩
    rw[hW5] at BX4 T4 KB4 ⊢;have KO5:=ZZ (show KeepsOthers W4 W5 by rw[← hW5];exact KeepsOthers.setCell _ _ _);have HW5:=ZZ hW5;have q0: ∀n os,(grow (W5.drewN n) os).cell? ⟨w1.heap.size+1,0,none⟩=some (.int .i64 f):=fun n os=>(Zp n os).only.keeps (by rw[HF0.out];exact T4.out.cell 0);have q1: ∀n os,(grow (W5.drewN n) os).cell? ⟨Bx,0,none⟩=some (.int .i64 y.1.1):=fun n os=>(Zp n os).only.keeps (BX4.out.cell 0);have q2: ∀n os,(grow (W5.drewN n) os).cell? ⟨Bx,1,none⟩=some (.int .i64 y.1.2):=fun n os=>(Zp n os).only.keeps (BX4.out.cell 1);clear hW5 g4 fg4;refine ZA (Za5 lp) 4 Zao (by kernel_rfl) (by kernel_rfl) ?_;simp only[List.take_succ_cons,List.take_zero,List.drop_succ_cons,List.drop_zero]
    repeat (quiet_step (first|(go_at_call 89;with_reducible refine Zab (ZaE _ _ y.2))))
    refine wpQuiet_nil ?_;rintro w' ⟨⟨nq,osq⟩,rfl⟩;obtain⟨W6,hW6,HG6⟩:=Zs W5 nq osq;rw[hW6];clear hW6 q0 q1 q2;have T6:=T4.out.keep HG6.out.only id
    have t6:W6.cell? ⟨w1.heap.size+1,0,none⟩=some (.int .i64 f):=by rw[HF0.out];exact T6.cell 0
    have ft6:=T6.free 0
    have HGB:=ZZ (show GapBox (w1.heap.size+3) w.heap.size w1.heap.size x (pre++[y]) _ (W6.setCell ⟨w1.heap.size+1,0,none⟩ (.int .i64 (max f (y.1.1+y.1.2)))) by
     rw[HF0.out]
     exact GapBox.stored (W4:=W4) hlt1 (by omega) HV3.out O4.out (by rw[← HF0.out];exact HR4.out) (by rw[HW5.out];exact HG6.out.only))
    have K6:=ZZ (((K3.out.trans KB4.out).trans (KeepsB.only (b:=w1.heap.size) (N0:=W0.heap.size) (n0:=w.heap.size) HG6.out.only (by have:=KB4.out.below.size;omega) (by have:=KB4.out.below.size;have:=HB3.out.size;omega))).trans (Zij (W:=W6) (.int .i64 (max f (y.1.1+y.1.2))) (by omega:w1.heap.size+1<W0.heap.size) (by omega) (by omega)));have KO6:=ZZ ((((KO3.out.trans KO4.out).trans KO5.out).trans (ZH HG6.out.only fun _ _ h=>h.elim)).trans (KeepsOthers.setCell W6 ⟨w1.heap.size+1,0,none⟩ (.int .i64 (max f (y.1.1+y.1.2)))));have hz6:W.heap.size≤(W6.setCell ⟨w1.heap.size+1,0,none⟩ (.int .i64 (max f (y.1.1+y.1.2)))).heap.size:=KO6.out.size;clear T6
    gi_wp2
    exact⟨KO6.out.from _,K6.out,⟨⟨_,HGB.out⟩,fun z hz'=>by
     rw[ZcK] at hz';rcases Yq.1 hz' with h|h
     · exact HY.out z h
     · rw[Ys.1 h];omega,HBW.out.trans K6.out.below,Yh hz hz6,by simp;omega⟩⟩
 case done=>
  rintro D ys W hD hS ⟨⟨u,hv⟩,hy,hb,hz,hpl⟩ hK;have HVD:=ZZ hv;have HBD:=ZZ hb;have g0:W.cell? ⟨w1.heap.size,0,none⟩=some u:=HVD.out.gaps.cell 0
  obtain⟨f,hf0⟩: ∃f,f=(gst x (plain ys)).1:=⟨_,rfl⟩
  have t0:W.cell? ⟨w1.heap.size+1,0,none⟩=some (.int .i64 f):=by rw[hf0];exact HVD.out.at_.cell 0
  have x0:W.cell? ⟨w.heap.size,0,none⟩=some (.int .i64 x.1):=HVD.out.all.cell 0;have x1:W.cell? ⟨w.heap.size,1,none⟩=some (.int .i64 x.2):=HVD.out.all.cell 1;have q0: ∀n os,(grow (W.drewN n) os).cell? ⟨w1.heap.size,0,none⟩=some u:=fun n os=>(Zp n os).only.keeps g0;have q1: ∀n os,(grow (W.drewN n) os).cell? ⟨w1.heap.size+1,0,none⟩=some (.int .i64 f):=fun n os=>(Zp n os).only.keeps t0;have q2: ∀n os,(grow (W.drewN n) os).cell? ⟨w.heap.size,0,none⟩=some (.int .i64 x.1):=fun n os=>(Zp n os).only.keeps x0;have q3: ∀n os,(grow (W.drewN n) os).cell? ⟨w.heap.size,1,none⟩=some (.int .i64 x.2):=fun n os=>(Zp n os).only.keeps x1;have hfl:=ZjN x HX.out (plain ys) (Ze8 ys);rw[← hf0] at hfl;have hxo:=HX.out;unfold Sp.ok Za6 at hxo;have hgl:=Zgv x (plain ys);rw[Zcj] at hgl;have HF0:=ZZ hf0;have HKD:=ZZ hK;obtain⟨A2,c2,rfl, -⟩:=Zl HVD.out.row;clear hf0 g0 t0 x0 x1 hK
  gi_wp2_with fail
  refine ZA Zhy 4 Zao (by kernel_rfl) (by kernel_rfl) ?_;simp only[List.take_succ_cons,List.take_zero,List.drop_succ_cons,List.drop_zero]
  repeat (quiet_step (first|(go_at_call 89;with_reducible refine Zab (ZaE _ _ HX.out))))
  refine wpQuiet_nil ?_;rintro w' ⟨⟨nq,osq⟩,rfl⟩;obtain⟨W3,hW3,HG3⟩:=Zs W nq osq;rw[hW3];clear hW3 q0 q1 q2 q3
  have hz3:w1.heap.size+3≤W3.heap.size:=by have:=HG3.out.only.size;omega
  gi_wp2_with fail
  refine⟨trivial,?_⟩
  gi_at_call 90
  refine(callsIn_wide.2 (ZgO _ (gst x (plain ys)).2 f (x.1+x.2) (w1.heap.size+3) W3 (HVD.out.only HG3.out.only).row hz3 (by omega) hfl (by omega))).mono ?_;rintro e W4 ⟨v',rfl,hr4,o4, -⟩;have HK4:=ZZ ((ZH o4 fun k o e ho=>Zb8 (HVD.out.only HG3.out.only).row e ho).same D _ ((ZH HG3.out.only fun _ _ h=>h.elim).same D _ HKD.out rfl) rfl);have HR4:=ZZ hr4;have HB4:=ZZ (HBD.out.trans ((HG3.out.only.below HBD.out.size fun _ h=>h.elim).trans ((Zdj (HVD.out.only HG3.out.only).row o4 hz3).mono (by omega))));clear hr4 o4
  gi_wp2
  have hK4:=HK4.out;refine⟨by simp,.inl ⟨_,_,rfl,run_takeDeferred hK4,?_⟩⟩;have hdn:=ZhA x HX.out (l:=plain ys) (m:=[]) (by rw[List.append_nil];exact hS.1) hy (fun _ h=>by cases h);rw[← HF0.out] at hdn;have hb5:=HB4.out.trans (belowK_b (w:=w) (Yi _) W4 D _ (.deferred none) (by omega) hK4 rfl rfl);exact⟨_,results_tmp rfl _ _ _,v',_,rfl,hdn.1,(fun p=>(hdn.2 p).trans (by rw[List.append_nil,hS.2])),Sl.of_own (ownsRow_putObj HR4.out _ hK4 rfl) (Zar _),⟨hb5.os,hb5.tape,hb5.output,hb5.size,fun k hk _=>hb5.block k hk⟩⟩
 case stop=>
  rintro D c pre W hD ⟨xs,hpre,hS⟩ ⟨rfl,pre0,y,rfl,hyx,⟨u,hv⟩,hy,hb,hpl⟩ hK;obtain⟨rest,rfl⟩:=hpre
  have hz:W0.heap.size≤W.heap.size:=by have:=(Yu.1 hK).1;omega
  have hpl2:plain (pre0++[y]++rest)=plain pre0++(y.1::plain rest):=by simp[plain]
  rw[hpl2] at hS;have HVD:=ZZ hv;have HBD:=ZZ hb;have g0:W.cell? ⟨w1.heap.size,0,none⟩=some u:=HVD.out.gaps.cell 0
  obtain⟨f,hf0⟩: ∃f,f=(gst x (plain pre0)).1:=⟨_,rfl⟩
  have t0:W.cell? ⟨w1.heap.size+1,0,none⟩=some (.int .i64 f):=by rw[hf0];exact HVD.out.at_.cell 0
  have x0:W.cell? ⟨w.heap.size,0,none⟩=some (.int .i64 x.1):=HVD.out.all.cell 0;have x1:W.cell? ⟨w.heap.size,1,none⟩=some (.int .i64 x.2):=HVD.out.all.cell 1;have q0: ∀n os,(grow (W.drewN n) os).cell? ⟨w1.heap.size,0,none⟩=some u:=fun n os=>(Zp n os).only.keeps g0;have q1: ∀n os,(grow (W.drewN n) os).cell? ⟨w1.heap.size+1,0,none⟩=some (.int .i64 f):=fun n os=>(Zp n os).only.keeps t0;have q2: ∀n os,(grow (W.drewN n) os).cell? ⟨w.heap.size,0,none⟩=some (.int .i64 x.1):=fun n os=>(Zp n os).only.keeps x0;have q3: ∀n os,(grow (W.drewN n) os).cell? ⟨w.heap.size,1,none⟩=some (.int .i64 x.2):=fun n os=>(Zp n os).only.keeps x1;have hfl:=ZjN x HX.out (plain pre0) (Ze8 pre0);rw[← hf0] at hfl;have hxo:=HX.out;unfold Sp.ok Za6 at hxo;have hgl:=Zgv x (plain pre0);rw[Zcj] at hgl;have HF0:=ZZ hf0;have HKD:=ZZ hK;obtain⟨A2,c2,rfl, -⟩:=Zl HVD.out.row;clear hf0 g0 t0 x0 x1 hK
  gi_wp2_with fail
  refine ZA Zhy 4 Zao (by kernel_rfl) (by kernel_rfl) ?_;simp only[List.take_succ_cons,List.take_zero,List.drop_succ_cons,List.drop_zero]
  repeat (quiet_step (first|(go_at_call 89;with_reducible refine Zab (ZaE _ _ HX.out))))
  refine wpQuiet_nil ?_;rintro w' ⟨⟨nq,osq⟩,rfl⟩;obtain⟨W3,hW3,HG3⟩:=Zs W nq osq;rw[hW3];clear hW3 q0 q1 q2 q3
  have hz3:w1.heap.size+3≤W3.heap.size:=by have:=HG3.out.only.size;omega
  gi_wp2_with fail
  refine⟨trivial,?_⟩
  gi_at_call 90
  refine(callsIn_wide.2 (ZgO _ (gst x (plain pre0)).2 f (x.1+x.2) (w1.heap.size+3) W3 (HVD.out.only HG3.out.only).row hz3 (by omega) hfl (by omega))).mono ?_;rintro e W4 ⟨v',rfl,hr4,o4, -⟩;have HK4:=ZZ ((ZH o4 fun k o e ho=>Zb8 (HVD.out.only HG3.out.only).row e ho).same D _ ((ZH HG3.out.only fun _ _ h=>h.elim).same D _ HKD.out rfl) rfl);have HR4:=ZZ hr4;have HB4:=ZZ (HBD.out.trans ((HG3.out.only.below HBD.out.size fun _ h=>h.elim).trans ((Zdj (HVD.out.only HG3.out.only).row o4 hz3).mono (by omega))));clear hr4 o4
  gi_wp2
  have hK4:=HK4.out;refine⟨by simp,.inl ⟨_,_,rfl,run_takeDeferred hK4,?_⟩⟩
  have hdn:=ZhA x HX.out (l:=plain pre0) (m:=y.1::plain rest) hS.1 hy (fun z hz=>by
   rcases List.mem_cons.1 hz with rfl|hz
   · exact hyx
   · have h1:=(List.pairwise_append.1 hS.1.2).2.1
     have h2:=(List.pairwise_cons.1 h1).1 z hz;have h3:=y.2.2.1
     omega)
  rw[← HF0.out] at hdn;have hb5:=HB4.out.trans (belowK_b (w:=w) (Yi _) W4 D _ (.deferred none) (by omega) hK4 rfl rfl);exact⟨_,results_tmp rfl _ _ _,v',_,rfl,hdn.1,(fun p=>(hdn.2 p).trans (by rw[hS.2])),Sl.of_own (ownsRow_putObj HR4.out _ hK4 rfl) (Zar _),⟨hb5.os,hb5.tape,hb5.output,hb5.size,fun k hk _=>hb5.block k hk⟩⟩
end
section
open Go.RowKit Go.Sort
theorem ZkU:SpGaps:=by
 intro x v l B w h hB hlen hf hx;by_cases hok:x.ok
 · exact ZlC x v l B w h hB hlen hf hok
 · have HO:=ZZ hok
   clear h hok
   go_enter Tryz.func55,Tryz.ntmps55
   go_wp2_with fail
   go_at_call 87;refine(Zej hx HO.out _).mono ?_;rintro e w1 ⟨rfl,g⟩;have O1:=ZZ (((Only.refl nob w).alloc (.cells #[.int .i64 x.1,.int .i64 x.2] 61)).trans g.only);clear g;go_wp2;go_ret;exact⟨_,[],rfl,Joined.nil,fun p=>⟨fun h=>absurd h (Zbr p),fun h=>absurd h.1.1 HO.out⟩,Sl.nil_,O1.out⟩
end
end Go.Proofs.YtknoncenblehkaaGreatDoor
