/- Package state: Check, Objects, Used, Head. New heaps: blocks of their own, what they hold. -/
import Derived.Test.YtknoncenblehkaaGreatDoorG25
set_option maxRecDepth 100000
set_option maxHeartbeats 32000000
set_option linter.unusedSimpArgs false
set_option linter.unusedVariables false
namespace Go.Proofs.YtknoncenblehkaaGreatDoor
open Go.RowKit
theorem Zm9:Zmy 16:=by
 intro s vw vt vf vs B w h hB hok hpar;have HOK:=ZZ hok;obtain⟨At,ct,rfl,hat,hct⟩:=h.tab.form;obtain⟨Aw,cw,rfl,haw,hcw⟩:=h.words.form;obtain⟨Al,cl,rfl,hal,hcl⟩:=h.slots.form;obtain⟨Af,cf,rfl,haf,hcf⟩:=h.free.form;obtain⟨W,hW,HB⟩:=Za3 w s (.slice Aw s.ws.length cw) (.slice At s.tb.length ct) (.slice Af s.fr.length cf) (.slice Al s.sl.length cl);have HW:=ZZ hW;have HLO:=ZZ (Zmp s _ _ _ _ B W (h.only HB.out.1 hB) (Yh hB HB.out.1.size) hok (hpar.old HB.out.1))
 obtain⟨q,hq⟩: ∃q,q=ZbW s:=⟨_,rfl⟩
 rw[← hq] at HLO ⊢;obtain⟨c0,c1,c2,c3,c4,c5,c6,c7,c8,c9⟩:=HB.out.2.2;clear hW h hok hpar hq
 go_enter Tryz.func16,Tryz.ntmps16
 go_upto_region 1 with fail
 rw[HW.out]
 go_wp2_with fail
 go_at_call 43;refine HLO.out.mono ?_;rintro e w1 ⟨g,ba,ga,mp,n,vm,rfl, -,o⟩;have O:=ZZ (HB.out.1.trans o);clear o c0 c1 c2 c3 c4 c5 c6 c7 c8 c9;go_wp2;go_ret;exact⟨rfl,O.out⟩
theorem Z6 {w W:World} {b:Nat} {t:TypeId} (o:Only nob w W) (hb:w.heap.size≤b) {z0 z1 z2 z3 z4 z5 z6 z7 z8 z9:Value} (B:Blk W b t #[z0,z1,z2,z3,z4,z5,z6,z7,z8,z9]) (x0 x1 x2 x3 x4 x5 x6 x7 x8 x9:Value):
 ∃W4,((((((((((W.setCell ⟨b,0,none⟩ x0).setCell ⟨b,1,none⟩ x1).setCell ⟨b,2,none⟩ x2).setCell ⟨b,3,none⟩ x3).setCell ⟨b,4,none⟩ x4).setCell ⟨b,5,none⟩ x5).setCell ⟨b,6,none⟩ x6).setCell ⟨b,7,none⟩ x7).setCell ⟨b,8,none⟩ x8).setCell ⟨b,9,none⟩ x9)=W4∧Only nob w W4∧Only (isb b) W W4∧Blk W4 b t #[x0,x1,x2,x3,x4,x5,x6,x7,x8,x9]:=by
 refine⟨_,rfl,Zi (Zi (Zi (Zi (Zi (Zi (Zi (Zi (Zi (Zi o hb _) hb _) hb _) hb _) hb _) hb _) hb _) hb _) hb _) hb _,?_,?_⟩
 · exact(((((((((Zc _ b 0 _).trans (Zc _ b 1 _)).trans (Zc _ b 2 _)).trans (Zc _ b 3 _)).trans (Zc _ b 4 _)).trans (Zc _ b 5 _)).trans (Zc _ b 6 _)).trans (Zc _ b 7 _)).trans (Zc _ b 8 _)).trans (Zc _ b 9 _)
 · simpa using(((((((((B.put 0 x0).put 1 x1).put 2 x2).put 3 x3).put 4 x4).put 5 x5).put 6 x6).put 7 x7).put 8 x8).put 9 x9
theorem Zg {w:World} {b:Nat} {t:TypeId} {x0 x1 x2 x3 x4 x5 x6 x7 x8 x9:Value} (h:Blk w b t #[x0,x1,x2,x3,x4,x5,x6,x7,x8,x9]):
 w.cell? ⟨b,0,none⟩=some x0∧w.cell? ⟨b,1,none⟩=some x1∧w.cell? ⟨b,2,none⟩=some x2∧w.cell? ⟨b,3,none⟩=some x3∧w.cell? ⟨b,4,none⟩=some x4∧w.cell? ⟨b,5,none⟩=some x5∧w.cell? ⟨b,6,none⟩=some x6∧w.cell? ⟨b,7,none⟩=some x7∧w.cell? ⟨b,8,none⟩=some x8∧w.cell? ⟨b,9,none⟩=some x9:=
 ⟨h.cell 0,h.cell 1,h.cell 2,h.cell 3,h.cell 4,h.cell 5,h.cell 6,h.cell 7,h.cell 8,h.cell 9⟩
theorem Zv {w:World} {b:Nat} {t:TypeId} {cs:Array Value} (h:Blk w b t cs):
 w.frozen? ⟨b,0,none⟩=false∧w.frozen? ⟨b,1,none⟩=false∧w.frozen? ⟨b,2,none⟩=false∧w.frozen? ⟨b,3,none⟩=false∧w.frozen? ⟨b,4,none⟩=false∧w.frozen? ⟨b,5,none⟩=false∧w.frozen? ⟨b,6,none⟩=false∧w.frozen? ⟨b,7,none⟩=false∧w.frozen? ⟨b,8,none⟩=false∧w.frozen? ⟨b,9,none⟩=false:=
 ⟨h.free 0,h.free 1,h.free 2,h.free 3,h.free 4,h.free 5,h.free 6,h.free 7,h.free 8,h.free 9⟩
theorem ZI (w:World): ∃W,w.alloc (.cells #[.int .i64 0,.int .i64 0,.int .i64 0,.int .i64 0,.bool false,.slice none 0 0,.int .i64 0,.slice none 0 0,.slice none 0 0,.slice none 0 0] 34)=W∧Hid (Only nob w W∧Blk W w.heap.size 34 #[.int .i64 0,.int .i64 0,.int .i64 0,.int .i64 0,.bool false,.slice none 0 0,.int .i64 0,.slice none 0 0,.slice none 0 0,.slice none 0 0]):=
 ⟨_,rfl,ZZ ⟨(Only.refl nob w).alloc _,Blk.new w _ _⟩⟩
theorem ZdO (w:World): ∃W,(w.alloc (.cells #[.int .i64 0,.int .i64 0,.int .i64 0,.int .i64 0,.bool false,.slice none 0 0,.int .i64 0,.slice none 0 0,.slice none 0 0,.slice none 0 0] 34)).drew=W∧Hid (Only nob w.drew W∧Blk W w.heap.size 34 #[.int .i64 0,.int .i64 0,.int .i64 0,.int .i64 0,.bool false,.slice none 0 0,.int .i64 0,.slice none 0 0,.slice none 0 0,.slice none 0 0]):=
 ⟨_,rfl,ZZ ⟨(show Only nob w.drew (w.drew.alloc _) from(Only.refl nob w.drew).alloc _),Blk.new w _ _⟩⟩
theorem Zx (n:Nat) (w:World): ∃W,w.alloc (.cells (u64s (List.replicate n 0)).toArray 57)=W∧Hid (Only nob w W∧Blk W w.heap.size 57 (u64s (List.replicate n 0)).toArray):=
 ⟨_,rfl,ZZ ⟨(Only.refl nob w).alloc _,Blk.new w _ _⟩⟩
theorem ZS (n:Nat) (w:World): ∃W,w.alloc (.cells (slc (List.replicate n ((false,0,0):Slt))).toArray 63)=W∧Hid (Only nob w W∧Blk W w.heap.size 63 (slc (List.replicate n ((false,0,0):Slt))).toArray):=
 ⟨_,rfl,ZZ ⟨(Only.refl nob w).alloc _,Blk.new w _ _⟩⟩
theorem Zc3 (n:Nat) (w:World): ∃W,(w.alloc (.cells (slc (List.replicate n ((false,0,0):Slt))).toArray 63)).drew=W∧Hid (Only nob w.drew W∧Blk W w.heap.size 63 (slc (List.replicate n ((false,0,0):Slt))).toArray):=
 ⟨_,rfl,ZZ ⟨(show Only nob w.drew (w.drew.alloc _) from(Only.refl nob w.drew).alloc _),Blk.new w _ _⟩⟩
theorem ZeM {W W':World} {B b:Nat} {v:Value} {l:List Sp} (hnz: ∀x∈l,x.1≠0) (h:Sl W B 2 v l.length (spc l)) (hb:Blk W b 34 #[.int .i64 0,.int .i64 0,.int .i64 0,.int .i64 0,.bool false,.slice none 0 0,.int .i64 0,.slice none 0 0,.slice none 0 0,.slice none 0 0]) (o:Only (isb b) W W') (hB:B≤W.heap.size):Sl W' W'.heap.size 2 v l.length (spc l):=by
 obtain⟨A,c,rfl,h1,h2,h3,h4⟩:=h;refine⟨A,c,rfl,h1,h2,h3,fun hn=>?_⟩;obtain⟨g,f,rfl,hg,hc⟩:=h4 hn
 have hne:g≠b:=by
  rintro rfl
  obtain⟨x,hx⟩: ∃x,l[0]? =some x:=⟨_,Ya hn⟩
  have h5:(spc l)[0]? =some (.int .i64 x.1):=by
   cases l with
   |nil=>cases hx
   |cons y m=>obtain rfl:y=x:=by simpa using hx
              simp[spc]
  have h6:=hc 0 _ h5;have h7:=hb.cell (f+0);rw[h6] at h7;have h8:=hnz x (Yn hx);rw[Nat.add_zero] at h7
  match f,h7 with
  |0,h7=>simp at h7;exact h8 h7
  |1,h7=>simp at h7;exact h8 h7
  |2,h7=>simp at h7;exact h8 h7
  |3,h7=>simp at h7;exact h8 h7
  |4,h7=>simp at h7
  |5,h7=>simp at h7
  |6,h7=>simp at h7;exact h8 h7
  |7,h7=>simp at h7
  |8,h7=>simp at h7
  |9,h7=>simp at h7
  |n+10,h7=>simp at h7
 exact⟨g,f,rfl,Yv hg (Yh hB o.size),fun k u hu=>(o.cell (p:=⟨g,f+k,none⟩) (Yv hg hB) hne).trans (hc k u hu)⟩
theorem ZnL {W W':World} {B b m:Nat} {v:Value} {l:List Slt} (hl:l=List.replicate m ((false,0,0):Slt)) (h:Sl W B 3 v l.length (slc l)) (hb:Blk W b 34 #[.int .i64 0,.int .i64 0,.int .i64 0,.int .i64 0,.bool false,.slice none 0 0,.int .i64 0,.slice none 0 0,.slice none 0 0,.slice none 0 0]) (o:Only (isb b) W W') (hB:B≤W.heap.size):Sl W' W'.heap.size 3 v l.length (slc l):=by
 obtain⟨A,c,rfl,h1,h2,h3,h4⟩:=h;refine⟨A,c,rfl,h1,h2,h3,fun hn=>?_⟩;obtain⟨g,f,rfl,hg,hc⟩:=h4 hn
 have hne:g≠b:=by
  rintro rfl
  obtain⟨x,hx⟩: ∃x,l[0]? =some x:=⟨_,Ya hn⟩
  have hx2:x=((false,0,0):Slt):=by
   have:=Yn hx
   rw[hl,List.mem_replicate] at this;exact this.2
  have h5:(slc l)[0]? =some (.bool false)∧(slc l)[1]? =some (.int .i64 0):=by
   cases l with
   |nil=>cases hx
   |cons y q=>
    obtain rfl:y=x:=by simpa using hx
    rw[hx2];simp[slc,slE]
  have h6:=hc 0 _ h5.1;have h6':=hc 1 _ h5.2;have h7:=hb.cell (f+0);have h7':=hb.cell (f+1);rw[h6] at h7;rw[h6'] at h7';rw[Nat.add_zero] at h7
  match f,h7,h7' with
  |0,h7,_=>simp at h7
  |1,h7,_=>simp at h7
  |2,h7,_=>simp at h7
  |3,h7,_=>simp at h7
  |4,_,h7'=>simp at h7'
  |5,h7,_=>simp at h7
  |6,h7,_=>simp at h7
  |7,h7,_=>simp at h7
  |8,h7,_=>simp at h7
  |9,h7,_=>simp at h7
  |n+10,h7,_=>simp at h7
 exact⟨g,f,rfl,Yv hg (Yh hB o.size),fun k u hu=>(o.cell (p:=⟨g,f+k,none⟩) (Yv hg hB) hne).trans (hc k u hu)⟩
def frN (c:Cf):List Sp:=if 0<c.large then[Ze c] else[]
theorem ZjS {c:Cf} (h:c.ok): ∀x∈frN c,x.1≠0:=by
 intro x hx;have h':=h;unfold Cf.ok at h';unfold frN at hx
 split at hx
 · rw[Ys.1 hx]
   unfold Ze;rw[if_pos ⟨h,by omega⟩];simp only;omega
 · cases hx
theorem ZmX {c:Cf} (h:c.ok) {O:List Sp} (hJ:Joined O) (hO: ∀p,cov O p↔((Ze c).has p∧ ¬cov [] p)):O=frN c:=by
 have h':=h;unfold Cf.ok at h';refine Za9 hJ ?_ fun p=>?_
 · unfold frN
   split
   · refine⟨fun y hy=>?_,List.pairwise_singleton _ _⟩
     rw[Ys.1 hy];exact ZfK h (by assumption)
   · exact Joined.nil
 · rw[hO p]
   unfold frN
   split
   · constructor
     · exact fun ⟨h1,_⟩=>⟨_,Ys.2 rfl,h1⟩
     · rintro⟨y,hy,hp⟩
       rw[Ys.1 hy] at hp;exact⟨hp,Zbr p⟩
   · constructor
     · rintro⟨h1,_⟩
       exfalso;unfold Ze at h1;rw[if_neg (by omega)] at h1
       have:=h1.1
       unfold Sp.ok at this;simp only at this;omega
     · rintro⟨y,hy,_⟩
       cases hy
theorem Zje {w:World} {c:Cf} (h:c.ok) {rg n:Nat} {vf vs:Value} (hn:n=(Zk c).toNat) (hb:Blk w rg 57 (u64s (List.replicate n 0)).toArray) (hf:Sl w w.heap.size 2 vf (frN c).length (spc (frN c))) (hs:Sl w w.heap.size 3 vs (List.replicate c.slots.toNat ((false,0,0):Slt)).length (slc (List.replicate c.slots.toNat ((false,0,0):Slt)))):
 Rd w w.heap.size (Zmv c) (.slice (some ⟨rg,0,none⟩) n n) (.slice none 0 0) vf vs:=by
 have hw:=Zcd h;rw[Zjz h];subst hn;refine⟨?_,Sl.nil_,hf,hs⟩;have h1:=Sl.of_blk (size:=1) (n:=(Zk c).toNat) (c:=(Zk c).toNat) hb (by simp[u64s]) (Yi _) (by unfold maxLen;omega);simpa using h1
theorem ZjP (n:Int) (w:World):Calls Tryz.prog 53 #[.int .i64 n] w fun e w'=> ∃v',e=.returned (.tuple #[v',.int .i64 (Zpp n)])∧w'.ownsRow w.heap.size 63 3 v' (Zom n).length (slc (Zom n))∧Only nob w w':=by
 have HC:=ZZ (ZdM n w);by_cases hn:1≤n∧n≤1024
 · rw[Yl hn] at HC
   obtain⟨m,rfl⟩: ∃m:Nat,n=m:=⟨n.toNat,by omega⟩
   have HI:=ZZ (show Zpp m=0 from if_pos hn);have HL:=ZZ (show Zom m=List.replicate m ((false,0,0):Slt) by unfold Zom;rw[if_pos hn,Int.toNat_natCast]);have hb:=hn.2;clear hn
   go_enter Tryz.func53,Tryz.ntmps53
   go_wp2_with fail
   go_at_call 84;refine HC.out.mono ?_;rintro e w1 ⟨rfl,o⟩;have O:=ZZ o;clear o;have hmk:=Zeo m (by omega) w1
   obtain⟨W2,hW2,H2⟩: ∃W2,w1.alloc (.cells (slc (List.replicate m ((false,0,0):Slt))).toArray 63)=W2∧Hid (Only nob w1 W2∧Blk W2 w1.heap.size 63 (slc (List.replicate m ((false,0,0):Slt))).toArray):=⟨_,rfl,ZZ ⟨(Only.refl nob w1).alloc _,Blk.new _ _ _⟩⟩
   rw[hW2] at hmk;clear hW2;go_wp2;go_ret2;refine⟨_,by rw[HI.out];rfl,?_,O.out.trans H2.out.1⟩;rw[HL.out,List.length_replicate];exact⟨by simp[ZaP],.inr ⟨w1.heap.size,m,_,rfl,O.out.size,H2.out.2,Yi _,by unfold maxLen;omega,by simp[ZaP],List.take_of_length_le (by simp[ZaP])⟩⟩
 · rw[Yk hn] at HC
   have HI:=ZZ (show Zpp n=1 from if_neg hn);have HL:=ZZ (show Zom n=[] from if_neg hn);clear hn
   go_enter Tryz.func53,Tryz.ntmps53
   go_wp2_with fail
   go_at_call 84;refine HC.out.mono ?_;rintro e w1 ⟨rfl,o⟩;have O:=ZZ o;clear o;go_wp2;go_ret2;exact⟨_,by rw[HI.out];rfl,by rw[HL.out];exact World.ownsRow_nil _ _ _ _,O.out⟩
end Go.Proofs.YtknoncenblehkaaGreatDoor
