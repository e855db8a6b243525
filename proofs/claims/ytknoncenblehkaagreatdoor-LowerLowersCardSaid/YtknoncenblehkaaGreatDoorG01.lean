/- Words for memory: which blocks a call turns; a slice that re -/
import Derived.Test.YtknoncenblehkaaGreatDoorG00
import Derived.Below
import Derived.Laws.OwnMore
import Derived.Laws.CopyOwn
import Derived.Laws.Rows
import Derived.Maps.AppendAt
import Derived.Deep.AppendLies
import Derived.OwnWalk
import Derived.Deep.Draws
import Derived.WalkSpells
import Derived.WalkSmall
import Derived.KernelRfl
set_option maxRecDepth 100000
set_option maxHeartbeats 32000000
set_option linter.unusedSimpArgs false
set_option linter.unusedVariables false
namespace Go.Proofs.YtknoncenblehkaaGreatDoor
open Go.RowKit
structure Only (F:Nat→Prop) (w w':World):Prop where
 os:w'.os=w.os
 tape:w'.tape=w.tape
 output:w'.output=w.output
 size:w.heap.size≤w'.heap.size
 block: ∀k,k<w.heap.size→ ¬F k→w'.heap[k]? =w.heap[k]?
def nob:Nat→Prop:=fun _=>False
def isb (g:Nat):Nat→Prop:=fun k=>k=g
section
variable {F G:Nat→Prop} {a b c w w':World}
theorem Only.refl (F:Nat→Prop) (w:World):Only F w w:=⟨rfl,rfl,rfl,Yi _,fun _ _ _=>rfl⟩
theorem Only.trans (h:Only F a b) (k:Only F b c):Only F a c:=
 ⟨k.os.trans h.os,k.tape.trans h.tape,k.output.trans h.output,Yh h.size k.size,fun i hi hn=>(k.block i (Yv hi h.size) hn).trans (h.block i hi hn)⟩
theorem Only.mono (h:Only F w w') (hF: ∀k,k<w.heap.size→F k→G k):Only G w w':=⟨h.os,h.tape,h.output,h.size,fun k hk hn=>h.block k hk fun hf=>hn (hF k hk hf)⟩
theorem Only.andThen (h:Only F a b) (k:Only G b c) (hG: ∀i,i<a.heap.size→G i→F i):Only F a c:=
 ⟨k.os.trans h.os,k.tape.trans h.tape,k.output.trans h.output,Yh h.size k.size,fun i hi hn=>(k.block i (Yv hi h.size) fun hg=>hn (hG i hi hg)).trans (h.block i hi hn)⟩
theorem Only.drewN (h:Only F a w) (n:Nat):Only F a (w.drewN n):=⟨h.os,h.tape,h.output,h.size,h.block⟩
theorem Only.drewL (h:Only F w.drew w'):Only F w w':=⟨h.os,h.tape,h.output,h.size,h.block⟩
theorem Only.alloc (h:Only F a w) (o:Obj):Only F a (w.alloc o):=
 ⟨h.os,h.tape,h.output,Yh h.size (by simp),fun k hk hn=>(Below.heap_alloc w o k (Yv hk h.size)).trans (h.block k hk hn)⟩
theorem Only.setCell (h:Only F a w) {p:Addr} (hp:p.block<a.heap.size→F p.block) (u:Value):Only F a (w.setCell p u):=
 ⟨h.os,h.tape,h.output,by simpa[World.setCell] using h.size,fun k hk hn=>(Below.heap_setCell w p u k (by rintro rfl;exact hn (hp hk))).trans (h.block k hk hn)⟩
theorem Only.below (h:Only F w w') {B:Nat} (hB:B≤w.heap.size) (hF: ∀k,F k→B≤k):Below B w w':=⟨h.os,h.tape,h.output,h.size,fun k hk=>h.block k (Yv hk hB) fun hf=>by have:=hF k hf;omega⟩
theorem Only.old (h:Only nob w w'): ∀b o,b<w.heap.size→w'.cell? ⟨b,o,none⟩=w.cell? ⟨b,o,none⟩:=fun b o hb=>World.cell?_of_block (a:=⟨b,o,none⟩) (h.block b hb id)
theorem Only.keeps (h:Only nob w w') {p:Addr} {v:Value} (hc:w.cell? p=some v):w'.cell? p=some v:=(World.cell?_of_block (h.block p.block (World.block_lt_of_cell? w p hc) id)).trans hc
theorem Only.whole (h:Only nob w w'):Below w.heap.size w w':=h.below (Yi _) fun _ hf=>hf.elim
theorem Below.only (h:Below w.heap.size w w'):Only F w w':=⟨h.os,h.tape,h.output,h.size,fun k hk _=>h.block k hk⟩
theorem Zcv {row:Option Nat} (h:w.grownBy w' row) (hr: ∀k,row=some k→k<w.heap.size→F k):Only F w w':=⟨h.os,h.tape,h.output,h.size,fun k hk hn=>h.block k hk fun e=>hn (hr k e.symm hk)⟩
theorem ZgH (w:World) (g:Nat) (cs:Array Value):Only (isb g) w (w.setRow g cs):=⟨rfl,rfl,rfl,by simp[World.setRow],fun k _ hn=>setRow_other w g k cs hn⟩
theorem Zc (w:World) (g i:Nat) (u:Value):Only (isb g) w (w.setCell ⟨g,i,none⟩ u):=⟨rfl,rfl,rfl,by simp[World.setCell],fun k _ hn=>Below.heap_setCell w ⟨g,i,none⟩ u k hn⟩
theorem Only.cell (h:Only F w w') {p:Addr} (hp:p.block<w.heap.size) (hn: ¬F p.block):w'.cell? p=w.cell? p:=World.cell?_of_block (h.block p.block hp hn)
end
def Blk (w:World) (g:Nat) (t:TypeId) (cs:Array Value):Prop:=w.heap[g]? =some (.cells cs t (0,0))
section
variable {w w':World} {g:Nat} {t:TypeId} {cs:Array Value} {F:Nat→Prop}
theorem Blk.lt (h:Blk w g t cs):g<w.heap.size:=by
 rcases Yp g w.heap.size with hlt|hge
 · exact hlt
 · have h':w.heap[g]? =some (.cells cs t (0,0)):=h
   rw[Array.getElem?_eq_none hge] at h'
   cases h'
theorem Blk.cell (h:Blk w g t cs) (i:Nat):w.cell? ⟨g,i,none⟩=cs[i]? :=cell_of_row w g i cs t (0,0) h
theorem Blk.free (h:Blk w g t cs) (i:Nat):w.frozen? ⟨g,i,none⟩=false:=frozen_of_row w g i cs t h
theorem Blk.new (w:World) (t:TypeId) (cs:Array Value):Blk (w.alloc (.cells cs t)) w.heap.size t cs:=heap_alloc_new w _
theorem Blk.newAt (w:World) (t:TypeId) (cs:Array Value) (g:Nat) (h:w.heap.size=g):Blk (w.alloc (.cells cs t)) g t cs:=h▸Blk.new w t cs
theorem Blk.drewN (h:Blk w g t cs) (n:Nat):Blk (w.drewN n) g t cs:=h
theorem Blk.alloc (h:Blk w g t cs) (o:Obj):Blk (w.alloc o) g t cs:=(Below.heap_alloc w o g h.lt).trans h
theorem Blk.keep (h:Blk w g t cs) (ho:Only F w w') (hn: ¬F g):Blk w' g t cs:=(ho.block g h.lt hn).trans h
theorem Blk.other (h:Blk w g t cs) {p:Addr} (hp:p.block≠g) (u:Value):Blk (w.setCell p u) g t cs:=(Below.heap_setCell w p u g (fun e=>hp e.symm)).trans h
theorem Blk.put (h:Blk w g t cs) (i:Nat) (u:Value):Blk (w.setCell ⟨g,i,none⟩ u) g t (cs.setIfInBounds i u):=heap_setCell_same w g i cs t u h
theorem Blk.ne {g':Nat} {t':TypeId} {cs':Array Value} (h:Blk w g t cs) (h':Blk w g' t' cs') (hne:t≠t'):g≠g':=by
 rintro rfl;have e:some (Obj.cells cs t (0,0))=some (Obj.cells cs' t' (0,0)):=(show w.heap[g]? =_ from h).symm.trans h';simp only[Option.some.injEq,Obj.cells.injEq] at e;exact hne e.2.1
end
def Sl (w:World) (B size:Nat) (v:Value) (n:Nat) (xs:List Value):Prop:=
 ∃A c,v=.slice A n c∧n≤c∧c≤maxLen∧xs.length=n * size∧(0<n→ ∃b o,A=some ⟨b,o,none⟩∧b<B∧ ∀k u,xs[k]? =some u→w.cell? ⟨b,o+k,none⟩=some u)
section
variable {w w':World} {B B' size n:Nat} {v:Value} {xs:List Value} {F:Nat→Prop}
theorem Sl.keep (h:Sl w B size v n xs) (hk: ∀p:Addr,p.block<B→w'.cell? p=w.cell? p):Sl w' B size v n xs:=by
 obtain⟨A,c,rfl,h1,h2,h3,h4⟩:=h
 exact⟨A,c,rfl,h1,h2,h3,fun hn=>by
  obtain⟨b,o,rfl,hb,hc⟩:=h4 hn
  exact⟨b,o,rfl,hb,fun k u hu=>(hk ⟨b,o+k,none⟩ hb).trans (hc k u hu)⟩⟩
theorem Sl.below (h:Sl w B size v n xs) (hb:Below B w w'):Sl w' B size v n xs:=h.keep fun _ hp=>hb.cell hp
theorem Sl.heap (h:Sl w B size v n xs) (e:w'.heap=w.heap):Sl w' B size v n xs:=h.keep fun p _=>by simp[World.cell?,e]
theorem Sl.more (h:Sl w B size v n xs) (hB:B≤B'):Sl w B' size v n xs:=by
 obtain⟨A,c,rfl,h1,h2,h3,h4⟩:=h
 exact⟨A,c,rfl,h1,h2,h3,fun hn=>by
  obtain⟨b,o,rfl,hb,hc⟩:=h4 hn
  exact⟨b,o,rfl,by omega,hc⟩⟩
theorem Sl.form (h:Sl w B size v n xs): ∃A c,v=.slice A n c∧n≤c∧c≤maxLen:=by
 obtain⟨A,c,h0,h1,h2,_⟩:=h;exact⟨A,c,h0,h1,h2⟩
theorem Sl.at_ (h:Sl w B size v n xs) (hn:0<n): ∃b o c,v=.slice (some ⟨b,o,none⟩) n c∧n≤c∧c≤maxLen∧b<B∧ ∀k u,xs[k]? =some u→w.cell? ⟨b,o+k,none⟩=some u:=by
 obtain⟨A,c,rfl,h1,h2,h3,h4⟩:=h;obtain⟨b,o,rfl,hb,hc⟩:=h4 hn;exact⟨b,o,c,rfl,h1,h2,hb,hc⟩
theorem Sl.nil_:Sl w B size (.slice none 0 0) 0 []:=⟨none,0,rfl,Yi _,Yt _,by simp,fun h=>absurd h (Nat.lt_irrefl 0)⟩
def ZbU (A:Option Addr) (l h m s:Nat):Value:=.slice (if m=l then A else A.map (·.add (l * s))) (h - l) (m - l)
theorem Sl.cut {A:Option Addr} {c l k:Nat} (h:Sl w B size (.slice A n c) n xs) (hl:l≤k) (hk:k≤n):Sl w B size (ZbU A l k c size) (k - l) ((xs.drop (l * size)).take ((k - l) * size)):=by
 obtain⟨A',c',e,h1,h2,h3,h4⟩:=h
 obtain⟨rfl,rfl⟩:A=A'∧c=c':=by simpa using e
 refine⟨_,_,rfl,by omega,by omega,?_,fun hp=>?_⟩
 · rw[List.length_take,List.length_drop,h3,Nat.min_eq_left]
   rw[← Nat.sub_mul];exact Nat.mul_le_mul_right _ (by omega)
 · obtain⟨b,o,rfl,hb,hc⟩:=h4 (by omega)
   refine⟨b,o+l * size,?_,hb,fun j u hu=>?_⟩
   · rw[if_neg (by omega)]
     show some (Addr.add _ _)=_;rw[Addr.add_lit]
   · rw[Nat.add_assoc]
     refine hc _ u ?_;rw[List.getElem?_take] at hu
     split at hu
     · rw[List.getElem?_drop] at hu;exact hu
     · cases hu
theorem Sl.of_blk {g:Nat} {t:TypeId} {cs:Array Value} {c:Nat} (h:Blk w g t cs) (hs:cs.size=n * size) (hc:n≤c) (hm:c≤maxLen):Sl w w.heap.size size (.slice (some ⟨g,0,none⟩) n c) n cs.toList:=
 ⟨_,c,rfl,hc,hm,by simpa using hs,fun _=>⟨g,0,rfl,h.lt,fun k u hu=>by rw[Nat.zero_add,h.cell];simpa using hu⟩⟩
theorem Sl.of_own {base:Nat} {e:TypeId} (h:w.ownsRow base e size v n xs) (h0:xs.length=n * size):Sl w w.heap.size size v n xs:=by
 rcases h.2 with⟨rfl,rfl⟩|⟨g,cap,cur,rfl,_,hg,hn,hm,_,ht⟩
 · obtain rfl:xs=[]:=List.eq_nil_of_length_eq_zero (by simpa using h0)
   exact Sl.nil_
 · refine⟨_,cap,rfl,hn,hm,h0,fun _=>⟨g,0,rfl,(Yu.1 hg).1,fun k u hu=>?_⟩⟩
   rw[Nat.zero_add,cell_of_row w g k cur e (0,0) hg];rw[← ht,List.getElem?_take] at hu
   split at hu
   · simpa using hu
   · cases hu
end
section
variable {P:Program} {w:World}
theorem Zc4 {ops:Array Oper} {rest:List Oper} {o:Oper} {a:Act} {Q:Exit→Act→World→Prop} (hgd:o.guard=none) (d s:Operand) (dT sT:TypeId)
 (ho:o.op=.call {callee:=.builtin .copy,args:=#[d,s],argTypes:=#[dT,sT]}) (elem:TypeId) (hu:P.underlying dT=some (.slice elem)) (hsz:(P.info? elem).map (·.size)=some 1)
 (dp sp:Option Addr) (n dCap sCap:Nat) (hd:a.eval d=.slice dp n dCap) (hs:a.eval s=.slice sp n sCap)
 (g off:Nat) (cur:Array Value) (t:TypeId) (hg:Blk w g t cur) (cs:List Value) (hn:cs.length=n)
 (hpos:0<n→dp=some ⟨g,off,none⟩∧ ∃b o,sp=some ⟨b,o,none⟩∧ ∀j v,cs[j]? =some v→w.cell? ⟨b,o+j,none⟩=some v)
 (hfit:off+cs.length≤cur.size) (h1: ∀v∈cs,v.oneCell'=true)
 (h: ∀w',Hid (Blk w' g t (splice cur.toList off cs).toArray)→Only (isb g) w w'→wpList P ops Q rest (a.put o.dst (goInt n)) w'):
 wpList P ops Q (o::rest) a w:=by
 subst hn;by_cases h0:cs.length=0
 · obtain rfl:cs=[]:=List.eq_nil_of_length_eq_zero h0
   refine wpList_copy_nothing hgd d s dT sT ho elem hu hsz dp sp _ dCap _ sCap hd hs (by simp) ?_;exact h w (show _=_ by have:=hg;unfold Blk at this;simpa[splice] using this) (Only.refl _ _)
 · obtain⟨rfl,b,o',rfl,hsrc⟩:=hpos (by omega)
   refine wpList_copy_own hgd d s dT sT ho elem hu hsz g off _ dCap ⟨b,o',none⟩ _ sCap hd hs cur t hg cs (by simp) (fun j v hv=>by rw[Addr.add_lit];exact hsrc j v hv) hfit h1 ?_;exact h _ (show _=_ by simpa[splice] using setRow_heap w g _ _ t _ hg) (ZgH w g _)
end
section
variable {w w':World} {base base':Nat} {E:TypeId} {size:Nat} {v:Value} {n:Nat} {xs:List Value} {F:Nat→Prop}
theorem Zb (h:w.ownsRow base E size v n xs) (ho:Only F w w') (hn: ∀k,v.ownBlock=some k→ ¬F k):w'.ownsRow base E size v n xs:=by
 refine⟨h.1,?_⟩
 rcases h.2 with h0|⟨g,cap,cur,rfl,hb,hg,rest⟩
 · exact .inl h0
 · exact .inr ⟨g,cap,cur,rfl,hb,(ho.block g (Yu.1 hg).1 (hn g rfl)).trans hg,rest⟩
theorem Zhj (h:w.ownsRow base E size v n xs) (e:w'.heap=w.heap):w'.ownsRow base E size v n xs:=by unfold World.ownsRow at *;rw[e];exact h
theorem Zak (h:w.ownsRow base E size v n xs) (hk: ∀k,v.ownBlock=some k→base'≤k):w.ownsRow base' E size v n xs:=by
 refine⟨h.1,?_⟩
 rcases h.2 with h0|⟨g,cap,cur,rfl,_,rest⟩
 · exact .inl h0
 · exact .inr ⟨g,cap,cur,rfl,hk g rfl,rest⟩
theorem Zr (h:w.ownsRow base E size v n xs) {k:Nat} (hk:v.ownBlock=some k):base≤k∧k<w.heap.size:=h.lt k hk
theorem Zl (h:w.ownsRow base E size v n xs): ∃A c,v=.slice A n c∧n≤c∧c≤maxLen:=by
 rcases h.2 with⟨rfl,rfl⟩|⟨g,cap,cur,rfl,_,_,h1,h2,_⟩
 · exact⟨none,0,rfl,Yi _,Yt _⟩
 · exact⟨_,cap,rfl,h1,h2⟩
end
section
variable {P:Program}
theorem Zep {t e:TypeId} {i:TypeInfo} (ht:P.underlying t=some (.slice e)) (hi:P.info? e=some i) (A:Option Addr) (n c l h:Nat) (hl:l≤h) (hc:h≤c) (w:World):
 (Instr.sliceAt t (.slice A n c) (some (.int .i64 (l:Int))) (some (.int .i64 (h:Int))) none).run P w=.ok (ZbU A l h c i.size) w:=by
 have he:P.elem t=e:=by simp[Program.elem,ht]
 have ht':P.underlying t=some (.slice (P.elem t)):=by rw[he];exact ht
 rw[run_sliceAt_slice _ _ _ _ _ _ ht',run_slice_lh _ _ _ _ _ ht' _ _ _ _ (by omega) (by omega) (by omega)];simp[sizeOf,typeInfo,he,hi,sliced,ZbU]
theorem Zb7 {t e:TypeId} {i:TypeInfo} (ht:P.underlying t=some (.slice e)) (hi:P.info? e=some i) (A:Option Addr) (n c h:Nat) (hc:h≤c) (w:World):
 (Instr.sliceAt t (.slice A n c) none (some (.int .i64 (h:Int))) none).run P w=.ok (ZbU A 0 h c i.size) w:=by
 have he:P.elem t=e:=by simp[Program.elem,ht]
 have ht':P.underlying t=some (.slice (P.elem t)):=by rw[he];exact ht
 rw[run_sliceAt_slice _ _ _ _ _ _ ht',run_slice_h _ _ _ _ _ ht' _ _ (by omega) (by omega)];simp[sizeOf,typeInfo,he,hi,sliced,ZbU]
theorem Zap {t e:TypeId} {i:TypeInfo} (ht:P.underlying t=some (.slice e)) (hi:P.info? e=some i) (A:Option Addr) (n c l:Nat) (hl:l≤n) (w:World):
 (Instr.sliceAt t (.slice A n c) (some (.int .i64 (l:Int))) none none).run P w=.ok (ZbU A l n c i.size) w:=by
 have he:P.elem t=e:=by simp[Program.elem,ht]
 have ht':P.underlying t=some (.slice (P.elem t)):=by rw[he];exact ht
 rw[run_sliceAt_slice _ _ _ _ _ _ ht',run_slice_l _ _ _ _ _ ht' _ _ (by omega) (by omega)];simp[sizeOf,typeInfo,he,hi,sliced,ZbU]
end
section
variable {P:Program} (w:World)
theorem Zd2 (base:Nat) (t ty e:TypeId) (i:TypeInfo) (size:Nat) (ht:P.underlying t=some (.slice e)) (hi:P.info? e=some i)
 (v:Value) (n:Nat) (xs:List Value) (hown:w.ownsRow base e size v n xs) (c:Nat):(Builtin.append_ #[t,t] ty #[v,.slice none 0 c]).run P w=.ok v w:=by
 rcases hown.2 with⟨rfl,rfl⟩|⟨g,cap,cur,rfl,_,_,hnc,_⟩
 · simp[Builtin.append_,run_underlying ht,sizeOf,typeInfo,hi,Builtin.lenOf,Builtin.firstCells]
 · simp[Builtin.append_,run_underlying ht,sizeOf,typeInfo,hi,Builtin.lenOf,Builtin.firstCells,hnc,storeCells]
theorem ZeU (base:Nat) (t ty e:TypeId) (i:TypeInfo) (z:Value) (size bytes:Nat) (ht:P.underlying t=some (.slice e)) (hi:P.info? e=some i) (hz:i.zero=some z)
 (hsize:i.size=size) (hby:i.bytes=bytes) (hzs:z.cells.size=size) (hsz:0<size)
 (v:Value) (n:Nat) (xs:List Value) (hown:w.ownsRow base e size v n xs)
 (B:Nat) (u:Value) (m:Nat) (news:List Value) (hr:Sl w B size u m news) (h1: ∀q∈news,q.oneCell'=true)
 (h63:n+m≤maxLen) (hbytes:(n+m) * bytes≤140737488355328) (hbase:base≤w.heap.size):
 ∃v' w',(Builtin.append_ #[t,t] ty #[v,u]).run P w=.ok v' w'∧w'.ownsRow base e size v' (n+m) (xs++news)∧Only (fun k=>v.ownBlock=some k) w w'∧
  (v'.ownBlock=v.ownBlock∨v'.ownBlock=some w.heap.size):=by
 obtain⟨A,c,rfl,h2,h3,h4,h5⟩:=hr;rcases A with _|ad
 · have hm:m=0:=by
    rcases Nat.eq_zero_or_pos m with h0|h0
    · exact h0
    · obtain⟨b,q,hA,_⟩:=h5 h0
      cases hA
   subst hm;obtain rfl:news=[]:=List.eq_nil_of_length_eq_zero (by simpa using h4);exact⟨v,w,Zd2 w base t ty e i size ht hi v n xs hown c,by simpa using hown,Only.refl _ _,.inl rfl⟩
 · have hnews: ∀j y,news[j]? =some y→w.cell? (ad.add j)=some y:=by
    intro j y hy;rcases Nat.eq_zero_or_pos m with h0|h0
    · subst h0
      obtain rfl:news=[]:=List.eq_nil_of_length_eq_zero (by simpa using h4);simp at hy
    · obtain⟨b,q,hA,hb,hc⟩:=h5 h0
      obtain rfl:=Yo hA;rw[Addr.add_lit];exact hc j y hy
   obtain⟨v',w',hrun,g2,g3,_,g5⟩:=run_append_own_at (P:=P) w base t ty e i z size bytes ht hi hz hsize hby hzs hsz v n xs hown ad m c news h4 hnews h1 h63 hbytes hbase;exact⟨v',w',hrun,g2,Zcv g3 fun k hk _=>hk,g5⟩
theorem ZcW {o:Oper} {a:Act} {K:Act→World→Prop} {Q:Exit→Act→World→Prop} (s x:Operand) (t:TypeId)
 (ho:o.op=.call {callee:=.builtin .append,args:=#[s,x],argTypes:=#[t,t]})
 (base:Nat) (e:TypeId) (i:TypeInfo) (z:Value) (size bytes:Nat) (ht:P.underlying t=some (.slice e)) (hi:P.info? e=some i) (hz:i.zero=some z)
 (hsize:i.size=size) (hby:i.bytes=bytes) (hzs:z.cells.size=size) (hsz:0<size)
 (v:Value) (n:Nat) (xs:List Value) (hs:a.eval s=v) (hown:w.ownsRow base e size v n xs)
 (B:Nat) (u:Value) (m:Nat) (news:List Value) (hx:a.eval x=u) (hr:Sl w B size u m news) (h1: ∀q∈news,q.oneCell'=true)
 (h63:n+m≤maxLen) (hbytes:(n+m) * bytes≤140737488355328) (hbase:base≤w.heap.size)
 (h: ∀v' w',Hid (w'.ownsRow base e size v' (n+m) (xs++news))→Only (fun k=>v.ownBlock=some k) w w'→(v'.ownBlock=v.ownBlock∨v'.ownBlock=some w.heap.size)→K (a.put o.dst v') w'):
 o.wp P a w K Q:=by
 obtain⟨v',w',hrun,g2,g3,g4⟩:=ZeU (P:=P) w base t o.type e i z size bytes ht hi hz hsize hby hzs hsz v n xs hown B u m news hr h1 h63 hbytes hbase;unfold Oper.wp execOp;simp only[ho,resolve,invoke,builtin,Sem.run_bind,Sem.run_pure,Result.andThen_ok,List.map_toArray,List.map_cons,List.map_nil,hs,hx,hrun];exact h v' w' g2 g3 g4
theorem Zf {ops:Array Oper} {rest:List Oper} {o:Oper} {a:Act} {Q:Exit→Act→World→Prop} (hgd:o.guard=none) (s x:Operand) (t:TypeId)
 (ho:o.op=.call {callee:=.builtin .append,args:=#[s,x],argTypes:=#[t,t]})
 (base:Nat) (e:TypeId) (i:TypeInfo) (z:Value) (size bytes:Nat) (ht:P.underlying t=some (.slice e)) (hi:P.info? e=some i) (hz:i.zero=some z)
 (hsize:i.size=size) (hby:i.bytes=bytes) (hzs:z.cells.size=size) (hsz:0<size)
 (v:Value) (n:Nat) (xs:List Value) (hs:a.eval s=v) (hown:w.ownsRow base e size v n xs)
 (B:Nat) (u:Value) (m:Nat) (news:List Value) (hx:a.eval x=u) (hr:Sl w B size u m news) (h1: ∀q∈news,q.oneCell'=true)
 (h63:n+m≤maxLen) (hbytes:(n+m) * bytes≤140737488355328) (hbase:base≤w.heap.size)
 (h: ∀v' w',Hid (w'.ownsRow base e size v' (n+m) (xs++news))→Only (fun k=>v.ownBlock=some k) w w'→(v'.ownBlock=v.ownBlock∨v'.ownBlock=some w.heap.size)→wpList P ops Q rest (a.put o.dst v') w'):
 wpList P ops Q (o::rest) a w:=
 wpList_plain hgd fun _ hK=>ZcW w s x t ho base e i z size bytes ht hi hz hsize hby hzs hsz v n xs hs hown B u m news hx hr h1 h63 hbytes hbase fun v' w' g2 g3 g4=>hK _ _ (h v' w' g2 g3 g4)
theorem ZaR {ops:Array Oper} {o:Oper} {a:Act} {K:Act→World→Prop} {Q:Exit→Act→World→Prop} {X:Prop} (hgd:o.guard=none) (s x:Operand) (t:TypeId)
 (ho:o.op=.call {callee:=.builtin .append,args:=#[s,x],argTypes:=#[t,t]})
 (base:Nat) (e:TypeId) (i:TypeInfo) (z:Value) (size bytes:Nat) (ht:P.underlying t=some (.slice e)) (hi:P.info? e=some i) (hz:i.zero=some z)
 (hsize:i.size=size) (hby:i.bytes=bytes) (hzs:z.cells.size=size) (hsz:0<size)
 (v:Value) (n:Nat) (xs:List Value) (hs:a.eval s=v) (hown:w.ownsRow base e size v n xs)
 (B:Nat) (u:Value) (m:Nat) (news:List Value) (hx:a.eval x=u) (hr:Sl w B size u m news) (h1: ∀q∈news,q.oneCell'=true)
 (h63:n+m≤maxLen) (hbytes:(n+m) * bytes≤140737488355328) (hbase:base≤w.heap.size)
 (h: ∀v' w',Hid (w'.ownsRow base e size v' (n+m) (xs++news))→Only (fun k=>v.ownBlock=some k) w w'→(v'.ownBlock=v.ownBlock∨v'.ownBlock=some w.heap.size)→K (a.put o.dst v') w'):
 if Region.wanted o (yielded ops a.tmps)=true then Oper.wp P o a w K Q else X:=by
 have hw:Region.wanted o (yielded ops a.tmps)=true:=by simp[Region.wanted,hgd]
 rw[if_pos hw];exact ZcW w s x t ho base e i z size bytes ht hi hz hsize hby hzs hsz v n xs hs hown B u m news hx hr h1 h63 hbytes hbase h
end
theorem Zdj {w w':World} {B:Nat} {E:TypeId} {size n:Nat} {v:Value} {xs:List Value} (h:w.ownsRow B E size v n xs) (ho:Only (fun k=>v.ownBlock=some k) w w') (hB:B≤w.heap.size):Below B w w':=
 ho.below hB fun _ hk=>(Zr h hk).1
theorem Zbi {a w w':World} {B:Nat} {E:TypeId} {size n:Nat} {v:Value} {xs:List Value} (ha:Only nob a w) (h:w.ownsRow B E size v n xs) (ho:Only (fun k=>v.ownBlock=some k) w w') (hB:a.heap.size≤B):Only nob a w':=
 ha.andThen ho fun i hi hk=>by have:=(Zr h hk).1;omega
theorem Zcc {w w':World} {o:Obj} {n c:Nat} (h:Only (fun k=>(Value.slice (some ⟨w.heap.size,0,none⟩) n c).ownBlock=some k) (w.alloc o) w'):Only nob w w':=
 ((Only.refl nob w).alloc o).andThen h fun i hi e=>by
   simp[Value.ownBlock] at e;omega
theorem ZdP (w:World) (E:TypeId) (size:Nat):(w.alloc (.cells #[] E)).ownsRow w.heap.size E size (.slice (some ⟨w.heap.size,0,none⟩) 0 0) 0 []:=
 World.ownsRow_made w #[] 0 (Yi _) (Yt _) (by simp)
theorem Zf7 {α:Type} (L cs:List α) (h:cs.length=L.length):splice L 0 cs=cs:=by unfold splice;rw[List.drop_eq_nil_of_le (by omega)];simp
theorem ZaB {α:Type} (L:List α) (off:Nat) (cs:List α) (h:off+cs.length≤L.length):(splice L off cs).length=L.length:=length_splice L off cs h
def u64s (l:List Nat):List Value:=l.map fun x=>Value.int .u64 (x:Nat)
theorem ZV (l:List Nat):(u64s l).length=l.length:=by simp[u64s]
theorem Zl1 (l:List Nat) (k:Nat) (h:k<l.length):(u64s l)[k]? =some (.int .u64 (l[k]:Nat)):=by simp[u64s,h]
theorem Zdw (l:List Nat) (k:Nat) (cs:List Nat):splice (u64s l) k (u64s cs)=u64s (splice l k cs):=by simp[u64s,splice,List.map_take,List.map_drop]
theorem ZhM (l:List Nat): ∀v∈u64s l,v.oneCell'=true:=by
 intro v hv;simp only[u64s,List.mem_map] at hv;obtain⟨x,_,rfl⟩:=hv;rfl
def wd (l:List Nat) (k:Nat):Nat:=l.getD k 0
theorem Zmw (l:List Nat) (k:Nat) (h:k<l.length):wd l k=l[k]:=by simp[wd,h]
theorem ZnE (l:List Nat) (k:Nat) (h:k<l.length):(u64s l)[k]? =some (.int .u64 (wd l k:Nat)):=by rw[Zmw l k h];exact Zl1 l k h
def Zbt (l:List Nat):Prop:= ∀x∈l,x<full
theorem Zbt.wd {l:List Nat} (h:Zbt l) (k:Nat):wd l k<full:=by
 unfold Proofs.YtknoncenblehkaaGreatDoor.wd;rcases Yp k l.length with hk|hk
 · simp[hk];exact h _ (List.getElem_mem hk)
 · simp[hk];decide
theorem Zbt.sub {l:List Nat} (h:Zbt l) (a n:Nat):Zbt ((l.drop a).take n):=fun y hy=>h y (List.mem_of_mem_drop (List.mem_of_mem_take hy))
end Go.Proofs.YtknoncenblehkaaGreatDoor
