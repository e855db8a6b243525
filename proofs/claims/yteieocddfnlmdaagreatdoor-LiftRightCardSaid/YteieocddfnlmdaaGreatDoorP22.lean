/- New heaps: blocks of their own, what they hold. -/
import Derived.Test.YteieocddfnlmdaaGreatDoorP21
namespace Go.Proofs.YteieocddfnlmdaaGreatDoor
open Go.RowKit
set_option maxRecDepth 100000
set_option linter.unusedSimpArgs false
set_option linter.unusedVariables false
theorem Zif (n:Nat) (w:World): ∃W,w.alloc (.cells (u64s (List.replicate n 0)).toArray 48)=W∧Hid (Only nob w W∧Blk W w.heap.size 48 (u64s (List.replicate n 0)).toArray):=
 ⟨_,rfl,ZZ ⟨(Only.refl nob w).alloc _,Blk.new w _ _⟩⟩
theorem Zph {W W':World} {B b:Nat} {v:Value} {l:List Sp} (hnz: ∀x∈l,x.1≠0) (h:Sl W B 2 v l.length (spc l)) (hb:Blk W b 28 #[.int .i64 0,.int .i64 0,.int .i64 0,.int .i64 0,.bool false,.slice none 0 0,.int .i64 0,.slice none 0 0,.slice none 0 0,.slice none 0 0]) (o:Only (isb b) W W') (hB:B≤W.heap.size):Sl W' W'.heap.size 2 v l.length (spc l):=by
 obtain⟨A,c,rfl,h1,h2,h3,h4⟩:=h;refine⟨A,c,rfl,h1,h2,h3,fun hn=>?_⟩;obtain⟨g,f,rfl,hg,hc⟩:=h4 hn
 have hne:g≠b:=by
  rintro rfl
  obtain⟨x,hx⟩: ∃x,l[0]? =some x:=⟨_,List.getElem?_eq_getElem hn⟩
  have h5:(spc l)[0]? =some (.int .i64 x.1):=by
   cases l with
   |nil=>cases hx
   |cons y m=>obtain rfl:y=x:=by simpa using hx
              simp[spc]
  have h6:=hc 0 _ h5;have h7:=hb.cell (f+0);rw[h6] at h7;have h8:=hnz x (List.mem_of_getElem? hx);rw[Nat.add_zero] at h7
  match f,h7 with
  |0,h7=>simp at h7;exact h8 h7
  |1,h7=>simp at h7;exact h8 h7
  |2,h7=>simp at h7;exact h8 h7
  |3,h7=>simp at h7;exact h8 h7
  |4,h7=>simp at h7
  |5,h7=>simp at h7
  |6,h7=>simp at h7;exact h8 h7
  |7,h7=>simp at h7
  |8,h7=>simp at h7
  |9,h7=>simp at h7
  |n+10,h7=>simp at h7
 exact⟨g,f,rfl,Nat.lt_of_lt_of_le hg (Nat.le_trans hB o.size),fun k u hu=>(o.cell (p:=⟨g,f+k,none⟩) (Nat.lt_of_lt_of_le hg hB) hne).trans (hc k u hu)⟩
theorem ZqP {W W':World} {B b m:Nat} {v:Value} {l:List Slt} (hl:l=List.replicate m ((false,0,0):Slt)) (h:Sl W B 3 v l.length (slc l)) (hb:Blk W b 28 #[.int .i64 0,.int .i64 0,.int .i64 0,.int .i64 0,.bool false,.slice none 0 0,.int .i64 0,.slice none 0 0,.slice none 0 0,.slice none 0 0]) (o:Only (isb b) W W') (hB:B≤W.heap.size):Sl W' W'.heap.size 3 v l.length (slc l):=by
 obtain⟨A,c,rfl,h1,h2,h3,h4⟩:=h;refine⟨A,c,rfl,h1,h2,h3,fun hn=>?_⟩;obtain⟨g,f,rfl,hg,hc⟩:=h4 hn
 have hne:g≠b:=by
  rintro rfl
  obtain⟨x,hx⟩: ∃x,l[0]? =some x:=⟨_,List.getElem?_eq_getElem hn⟩
  have hx2:x=((false,0,0):Slt):=by
   have:=List.mem_of_getElem? hx
   rw[hl,List.mem_replicate] at this;exact this.2
  have h5:(slc l)[0]? =some (.bool false)∧(slc l)[1]? =some (.int .i64 0):=by
   cases l with
   |nil=>cases hx
   |cons y q=>
    obtain rfl:y=x:=by simpa using hx
    rw[hx2];simp[slc,slE]
  have h6:=hc 0 _ h5.1;have h6':=hc 1 _ h5.2;have h7:=hb.cell (f+0);have h7':=hb.cell (f+1);rw[h6] at h7;rw[h6'] at h7';rw[Nat.add_zero] at h7
  match f,h7,h7' with
  |0,h7,_=>simp at h7
  |1,h7,_=>simp at h7
  |2,h7,_=>simp at h7
  |3,h7,_=>simp at h7
  |4,_,h7'=>simp at h7'
  |5,h7,_=>simp at h7
  |6,h7,_=>simp at h7
  |7,h7,_=>simp at h7
  |8,h7,_=>simp at h7
  |9,h7,_=>simp at h7
  |n+10,h7,_=>simp at h7
 exact⟨g,f,rfl,Nat.lt_of_lt_of_le hg (Nat.le_trans hB o.size),fun k u hu=>(o.cell (p:=⟨g,f+k,none⟩) (Nat.lt_of_lt_of_le hg hB) hne).trans (hc k u hu)⟩
def frN (c:Cf):List Sp:=if 0<c.large then[Zl c] else[]
theorem ZrN {c:Cf} (h:c.ok): ∀x∈frN c,x.1≠0:=by
 intro x hx;have h':=h;unfold Cf.ok at h';unfold frN at hx
 split at hx
 · rw[List.mem_singleton.1 hx]
   unfold Zl;rw[if_pos ⟨h,by omega⟩];simp only;omega
 · cases hx
theorem Zsd {c:Cf} (h:c.ok) {O:List Sp} (hJ:Joined O) (hO: ∀p,cov O p↔((Zl c).has p∧ ¬cov [] p)):O=frN c:=by
 have h':=h;unfold Cf.ok at h';refine Zbl hJ ?_ fun p=>?_
 · unfold frN
   split
   · refine⟨fun y hy=>?_,List.pairwise_singleton _ _⟩
     rw[List.mem_singleton.1 hy];exact Zhz h (by assumption)
   · exact Joined.nil
 · rw[hO p]
   unfold frN
   split
   · constructor
     · exact fun ⟨h1,_⟩=>⟨_,List.mem_singleton.2 rfl,h1⟩
     · rintro⟨y,hy,hp⟩
       rw[List.mem_singleton.1 hy] at hp;exact⟨hp,Za3 p⟩
   · constructor
     · rintro⟨h1,_⟩
       exfalso;unfold Zl at h1;rw[if_neg (by omega)] at h1
       have:=h1.1
       unfold Sp.ok at this;simp only at this;omega
     · rintro⟨y,hy,_⟩
       cases hy
theorem Zrq {w:World} {c:Cf} (h:c.ok) {rg n:Nat} {vf vs:Value} (hn:n=(Zh c).toNat) (hb:Blk w rg 48 (u64s (List.replicate n 0)).toArray) (hf:Sl w w.heap.size 2 vf (frN c).length (spc (frN c))) (hs:Sl w w.heap.size 3 vs (List.replicate c.slots.toNat ((false,0,0):Slt)).length (slc (List.replicate c.slots.toNat ((false,0,0):Slt)))):
 Rd w w.heap.size (Zro c) (.slice (some ⟨rg,0,none⟩) n n) (.slice none 0 0) vf vs:=by
 have hw:=ZbJ h;rw[Zic h];subst hn;refine⟨?_,Sl.nil_,hf,hs⟩;have h1:=Sl.of_blk (size:=1) (n:=(Zh c).toNat) (c:=(Zh c).toNat) hb (by simp[u64s]) (Nat.le_refl _) (by unfold maxLen;omega);simpa using h1
set_option maxHeartbeats 1000000 in
theorem Zlr (n:Int) (w:World):Calls Tryz.prog 57 #[.int .i64 n] w fun e w'=> ∃v',e=.returned (.tuple #[v',.int .i64 (ZsB n)])∧w'.ownsRow w.heap.size 61 3 v' (Zrl n).length (slc (Zrl n))∧Only nob w w':=by
 have HC:=ZZ (Zer n w);by_cases hn:1≤n∧n≤1024
 · rw[decide_eq_true hn] at HC
   obtain⟨m,rfl⟩: ∃m:Nat,n=m:=⟨n.toNat,by omega⟩
   have HI:=ZZ (show ZsB m=0 from if_pos hn);have HL:=ZZ (show Zrl m=List.replicate m ((false,0,0):Slt) by unfold Zrl;rw[if_pos hn,Int.toNat_natCast]);have hb:=hn.2;clear hn
   go_enter Tryz.func57,Tryz.ntmps57
   go_wp2_with fail
   go_at_call 98;refine HC.out.mono ?_;rintro e w1 ⟨rfl,o⟩;have O:=ZZ o;clear o;have hmk:=ZkC m (by omega) w1
   obtain⟨W2,hW2,H2⟩: ∃W2,w1.alloc (.cells (slc (List.replicate m ((false,0,0):Slt))).toArray 61)=W2∧Hid (Only nob w1 W2∧Blk W2 w1.heap.size 61 (slc (List.replicate m ((false,0,0):Slt))).toArray):=⟨_,rfl,ZZ ⟨(Only.refl nob w1).alloc _,Blk.new _ _ _⟩⟩
   rw[hW2] at hmk;clear hW2;go_wp2;go_ret2;refine⟨_,by rw[HI.out];rfl,?_,O.out.trans H2.out.1⟩;rw[HL.out,List.length_replicate];exact⟨by simp[Ze7],.inr ⟨w1.heap.size,m,_,rfl,O.out.size,H2.out.2,Nat.le_refl _,by unfold maxLen;omega,by simp[Ze7],List.take_of_length_le (by simp[Ze7])⟩⟩
 · rw[decide_eq_false hn] at HC
   have HI:=ZZ (show ZsB n=1 from if_neg hn);have HL:=ZZ (show Zrl n=[] from if_neg hn);clear hn
   go_enter Tryz.func57,Tryz.ntmps57
   go_wp2_with fail
   go_at_call 98;refine HC.out.mono ?_;rintro e w1 ⟨rfl,o⟩;have O:=ZZ o;clear o;go_wp2;go_ret2;exact⟨_,by rw[HI.out];rfl,by rw[HL.out];exact World.ownsRow_nil _ _ _ _,O.out⟩
end Go.Proofs.YteieocddfnlmdaaGreatDoor
