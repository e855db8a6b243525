/- Rows of the call's own that begin at any cell of their block -/
import Derived.Test.YtknoncenblehkaaGreatDoorF26
import Derived.ArgAppend
set_option maxRecDepth 100000
set_option maxHeartbeats 32000000
set_option linter.unusedSimpArgs false
set_option linter.unusedVariables false
namespace Go.Proofs.YtknoncenblehkaaGreatDoor
section
open Go.RowKit
def OwR (w:World) (base:Nat) (E:TypeId) (v:Value) (n:Nat) (xs:List Value):Prop:=
 xs.length=n∧((v=.slice none 0 0∧n=0)∨ ∃g o cap cur,v=.slice (some ⟨g,o,none⟩) n cap∧base≤g∧w.heap[g]? =some (.cells cur E (0,0))∧n≤cap∧cap≤maxLen∧o+cap≤cur.size∧(cur.toList.drop o).take n=xs)
section
variable {w w':World} {base:Nat} {E:TypeId} {v:Value} {n:Nat} {xs:List Value} {F:Nat→Prop}
theorem OwR.nil_:OwR w base E (.slice none 0 0) 0 []:=⟨rfl,.inl ⟨rfl,rfl⟩⟩
theorem OwR.of_own (h:w.ownsRow base E 1 v n xs):OwR w base E v n xs:=by
 refine⟨by simpa using h.1,?_⟩
 rcases h.2 with h0|⟨g,cap,cur,rfl,hb,hg,h1,h2,h3,h4⟩
 · exact .inl h0
 · exact .inr ⟨g,0,cap,cur,rfl,hb,hg,h1,h2,by omega,by simpa using h4⟩
theorem OwR.only (h:OwR w base E v n xs) (ho:Only F w w') (hn: ∀k,v.ownBlock=some k→ ¬F k):OwR w' base E v n xs:=by
 refine⟨h.1,?_⟩
 rcases h.2 with h0|⟨g,o,cap,cur,rfl,hb,hg,rest⟩
 · exact .inl h0
 · exact .inr ⟨g,o,cap,cur,rfl,hb,(ho.block g (Yv.1 hg).1 (hn g rfl)).trans hg,rest⟩
theorem OwR.lt (h:OwR w base E v n xs) {k:Nat} (hk:v.ownBlock=some k):base≤k∧k<w.heap.size:=by
 rcases h.2 with⟨rfl, -⟩|⟨g,o,cap,cur,rfl,hb,hg, -⟩
 · cases hk
 · obtain rfl:=Yp hk
   exact⟨hb,(Yv.1 hg).1⟩
theorem OwR.form (h:OwR w base E v n xs): ∃A c,v=.slice A n c∧n≤c∧c≤maxLen:=by
 rcases h.2 with⟨rfl,rfl⟩|⟨g,o,cap,cur,rfl,_,_,h1,h2,_⟩
 · exact⟨none,0,rfl,Yj _,Yu _⟩
 · exact⟨_,cap,rfl,h1,h2⟩
theorem OwR.len (h:OwR w base E v n xs):xs.length=n:=h.1
theorem OwR.blk (h:OwR w base E v n xs) {k:Nat} (hk:v.ownBlock=some k): ∃cur,Blk w k E cur:=by
 rcases h.2 with⟨rfl, -⟩|⟨g,o,cap,cur,rfl,hb,hg, -⟩
 · cases hk
 · obtain rfl:=Yp hk
   exact⟨cur,hg⟩
theorem OwR.ne (h:OwR w base E v n xs) {g:Nat} {t:TypeId} {cs:Array Value} (b:Blk w g t cs) (hE:t≠E): ¬v.ownBlock=some g:=fun e=>by
 obtain⟨cur,h2⟩:=h.blk e;exact b.ne h2 hE rfl
theorem OwR.sl (h:OwR w base E v n xs):Sl w w.heap.size 1 v n xs:=by
 rcases h.2 with⟨rfl,rfl⟩|⟨g,o,cap,cur,rfl,_,hg,h1,h2,h3,h4⟩
 · obtain rfl:xs=[]:=List.eq_nil_of_length_eq_zero h.1
   exact Sl.nil_
 · refine⟨_,cap,rfl,h1,h2,by simpa using h.1,fun _=>⟨g,o,rfl,(Yv.1 hg).1,fun k u hk=>?_⟩⟩
   have hb:Blk w g E cur:=hg;rw[hb.cell, ← Array.getElem?_toList];rw[← h4] at hk
   have hkn:k<n:=by
    have:=(Yk.1 hk).1
    simp at this;omega
   rw[List.getElem?_take_of_lt hkn,List.getElem?_drop] at hk;exact hk
theorem OwR.at_ {A:Option Addr} {c:Nat} (h:OwR w base E (.slice A n c) n xs) (hn:0<n): ∃g o cur,A=some ⟨g,o,none⟩∧Blk w g E cur∧o+c≤cur.size∧ ∀k u,xs[k]? =some u→w.cell? ⟨g,o+k,none⟩=some u:=by
 obtain⟨b,o,c',e,_,_,hlt,hc⟩:=h.sl.at_ hn
 obtain⟨rfl,rfl⟩:A=some ⟨b,o,none⟩∧c=c':=by simpa using e
 rcases h.2 with⟨e,_⟩|⟨g,o',cap,cur,e,_,hg,h1,h2,h3,h4⟩
 · cases e
 · simp only[Value.slice.injEq,Option.some.injEq,Addr.mk.injEq] at e
   obtain⟨⟨rfl,rfl, -⟩, -,rfl⟩:=e;exact⟨_,_,cur,rfl,hg,h3,hc⟩
theorem OwR.init {A:Option Addr} {c:Nat} {x:Value} (h:OwR w base E (.slice A (n+1) c) (n+1) (xs++[x])):OwR w base E (Zbb A 0 n c 1) n xs∧ ∀k,(Zbb A 0 n c 1).ownBlock=some k→(Value.slice A (n+1) c).ownBlock=some k:=by
 have hl:xs.length=n:=by simpa using h.1
 rcases h.2 with⟨e,h0⟩|⟨g,o,cap,cur,e,hb,hg,h1,h2,h3,h4⟩
 · cases h0
 · simp only[Value.slice.injEq] at e
   obtain⟨rfl, -,rfl⟩:=e
   have h5:(cur.toList.drop o).take n=xs:=by
    have:=congrArg (List.take n) h4
    rw[List.take_take,Nat.min_eq_left (by omega),List.take_left' hl] at this;exact this
   unfold Zbb;rw[if_neg (by omega)];refine⟨⟨hl,.inr ⟨g,o,c,cur,by simp[Addr.add],hb,hg,by omega,h2,h3,h5⟩⟩,fun k hk=>by simpa[Value.ownBlock,Addr.add] using hk⟩
end
section
variable {P:Program} (w:World)
theorem ZgY (base:Nat) (t ty e:TypeId) (i:TypeInfo) (z:Value) (bytes:Nat) (ht:P.underlying t=some (.slice e)) (hi:P.info? e=some i) (hz:i.zero=some z)
 (hsize:i.size=1) (hby:i.bytes=bytes) (hzs:z.cells.size=1)
 (v:Value) (n:Nat) (xs:List Value) (hown:OwR w base e v n xs)
 (B:Nat) (u:Value) (x:Value) (hr:Sl w B 1 u 1 [x]) (h1:x.oneCell'=true)
 (h63:n+1≤maxLen) (hbytes:(n+1) * bytes≤140737488355328) (hbase:base≤w.heap.size):
 ∃v' w',(Builtin.append_ #[t,t] ty #[v,u]).run P w=.ok v' w'∧OwR w' base e v' (n+1) (xs++[x])∧Only (fun k=>v.ownBlock=some k) w w'∧
  (v'.ownBlock=v.ownBlock∨v'.ownBlock=some w.heap.size):=by
 have hnil:v=.slice none 0 0→ ∃v' w',(Builtin.append_ #[t,t] ty #[v,u]).run P w=.ok v' w'∧OwR w' base e v' (n+1) (xs++[x])∧Only (fun k=>v.ownBlock=some k) w w'∧
  (v'.ownBlock=v.ownBlock∨v'.ownBlock=some w.heap.size):=by
  intro hv
  have hn:n=0∧xs=[]:=by
   rcases hown.2 with⟨_,h0⟩|⟨g,o,cap,cur,e,_⟩
   · subst h0;exact⟨rfl,List.eq_nil_of_length_eq_zero hown.1⟩
   · rw[hv] at e;cases e
  obtain⟨rfl,rfl⟩:=hn;subst hv;obtain⟨v',w',hrun,g2,g3,g4⟩:=Zc2 (P:=P) w base t ty e i z 1 bytes ht hi hz hsize hby hzs (by decide) (.slice none 0 0) 0 [] (World.ownsRow_nil _ _ _ _) B u 1 [x] hr (by simpa using h1) (by simpa using h63) (by simpa using hbytes) hbase;exact⟨v',w',hrun,by simpa using OwR.of_own g2,g3,g4⟩
 rcases hown.2 with⟨hv,_⟩|⟨g,o,cap,cur,rfl,hbg,hg,hnc,hcm,hcs,htake⟩
 · exact hnil hv
 · obtain⟨A,c,rfl,h2,h3,h4,h5⟩:=hr
   obtain⟨bq,oq,rfl,hbq,hcq⟩:=h5 (by decide)
   have hx0:w.cell? ⟨bq,oq,none⟩=some x:=by simpa using hcq 0 x rfl
   have hnews: ∀j y,[x][j]? =some y→w.cell? ((⟨bq,oq,none⟩:Addr).add j)=some y:=by
    intro j y hy;rw[Addr.add_lit];exact hcq j y hy
   have hb:Blk w g e cur:=hg;by_cases hroom:n+1≤cap
   · have hlt:o+n<cur.size:=by omega
     have hrun:=run_append_room_cells (P:=P) w t ty e i ht hi g o n cap ⟨bq,oq,none⟩ 1 c [x] (by simp[hsize]) hnews (by simpa using h1) hroom
      (by intro j hj;obtain rfl:j=0:=by simpa using hj
          rw[hsize,Nat.mul_one,Nat.add_zero,hb.cell];simp[hlt])
      (by intro j hj;rw[hb.free])
     rw[hsize,Nat.mul_one] at hrun;refine⟨_,_,hrun,⟨by simp[hown.1],.inr ⟨g,o,cap,_,rfl,hbg,hb.put (o+n) x,hroom,hcm,by simpa using hcs,?_⟩⟩,(Zc w g (o+n) x).mono fun k _ h=>by unfold isb at h;simp[Value.ownBlock,h],.inl rfl⟩
     have hdl:n<(cur.toList.drop o).length:=by simp;omega
     rw[Array.toList_setIfInBounds,List.drop_set,if_neg (by omega),show o+n - o=n by omega]
     have e1:((cur.toList.drop o).set n x).take n=xs:=by rw[List.take_set_of_le (Yj _),htake]
     rw[List.take_add_one,e1,List.getElem?_set_self hdl];rfl
   · have holds: ∀j y,xs[j]? =some y→w.cell? ((⟨g,o,none⟩:Addr).add j)=some y:=by
      intro j y hy;rw[Addr.add_lit,hb.cell, ← Array.getElem?_toList];rw[← htake] at hy
      have hjn:j<n:=by
       have:=(Yk.1 hy).1
       simp at this;omega
      rw[List.getElem?_take_of_lt hjn,List.getElem?_drop] at hy;exact hy
     obtain⟨v',w',hrun,g2,g3⟩:=run_append_arg_grows (P:=P) w t ty e i z 1 bytes ht hi hz hsize hby hzs (by decide) ⟨g,o,none⟩ n cap xs (by simpa using hown.1) holds ⟨bq,oq,none⟩ 1 c [x] (by simp) hnews (by omega) h63 hbytes;refine⟨v',w',hrun,OwR.of_own (Zaf g2 fun k hk=>Yi hbase (Zh g2 hk).1),Zcj g3 (fun k h=>by cases h),?_⟩
     have hv': ∃cc,v'=.slice (some ⟨w.heap.size,0,none⟩) (n+1) cc:=by
      have hr2:=run_append_grow (P:=P) w t ty e i z ht hi hz ⟨g,o,none⟩ n cap xs (by rw[hsize];simpa using hown.1) holds ⟨bq,oq,none⟩ 1 c [x] (by simp[hsize]) hnews (by omega) (by simp only[maxLen] at h63;omega) (growslice_fits (by omega) (by rw[hby];exact hbytes));rw[hr2] at hrun
      injection hrun with e1 _
      exact⟨_,e1.symm⟩
     obtain⟨cc,rfl⟩:=hv';exact .inr rfl
theorem ZdC {o:Oper} {a:Act} {K:Act→World→Prop} {Q:Exit→Act→World→Prop} (s x:Operand) (t:TypeId)
 (ho:o.op=.call {callee:=.builtin .append,args:=#[s,x],argTypes:=#[t,t]})
 (base:Nat) (e:TypeId) (i:TypeInfo) (z:Value) (bytes:Nat) (ht:P.underlying t=some (.slice e)) (hi:P.info? e=some i) (hz:i.zero=some z)
 (hsize:i.size=1) (hby:i.bytes=bytes) (hzs:z.cells.size=1)
 (v:Value) (n:Nat) (xs:List Value) (hs:a.eval s=v) (hown:OwR w base e v n xs)
 (B:Nat) (u:Value) (y:Value) (hx:a.eval x=u) (hr:Sl w B 1 u 1 [y]) (h1:y.oneCell'=true)
 (h63:n+1≤maxLen) (hbytes:(n+1) * bytes≤140737488355328) (hbase:base≤w.heap.size)
 (h: ∀v' w',Hid (OwR w' base e v' (n+1) (xs++[y]))→Only (fun k=>v.ownBlock=some k) w w'→(v'.ownBlock=v.ownBlock∨v'.ownBlock=some w.heap.size)→K (a.put o.dst v') w'):
 o.wp P a w K Q:=by
 obtain⟨v',w',hrun,g2,g3,g4⟩:=ZgY (P:=P) w base t o.type e i z bytes ht hi hz hsize hby hzs v n xs hown B u y hr h1 h63 hbytes hbase;unfold Oper.wp execOp;simp only[ho,resolve,invoke,builtin,Sem.run_bind,Sem.run_pure,Result.andThen_ok,List.map_toArray,List.map_cons,List.map_nil,hs,hx,hrun];exact h v' w' g2 g3 g4
theorem ZaE {ops:Array Oper} {rest:List Oper} {o:Oper} {a:Act} {Q:Exit→Act→World→Prop} (hgd:o.guard=none) (s x:Operand) (t:TypeId)
 (ho:o.op=.call {callee:=.builtin .append,args:=#[s,x],argTypes:=#[t,t]})
 (base:Nat) (e:TypeId) (i:TypeInfo) (z:Value) (bytes:Nat) (ht:P.underlying t=some (.slice e)) (hi:P.info? e=some i) (hz:i.zero=some z)
 (hsize:i.size=1) (hby:i.bytes=bytes) (hzs:z.cells.size=1)
 (v:Value) (n:Nat) (xs:List Value) (hs:a.eval s=v) (hown:OwR w base e v n xs)
 (B:Nat) (u:Value) (y:Value) (hx:a.eval x=u) (hr:Sl w B 1 u 1 [y]) (h1:y.oneCell'=true)
 (h63:n+1≤maxLen) (hbytes:(n+1) * bytes≤140737488355328) (hbase:base≤w.heap.size)
 (h: ∀v' w',Hid (OwR w' base e v' (n+1) (xs++[y]))→Only (fun k=>v.ownBlock=some k) w w'→(v'.ownBlock=v.ownBlock∨v'.ownBlock=some w.heap.size)→wpList P ops Q rest (a.put o.dst v') w'):
 wpList P ops Q (o::rest) a w:=
 wpList_plain hgd fun _ hK=>ZdC w s x t ho base e i z bytes ht hi hz hsize hby hzs v n xs hs hown B u y hx hr h1 h63 hbytes hbase fun v' w' g2 g3 g4=>hK _ _ (h v' w' g2 g3 g4)
theorem ZfA {ops:Array Oper} {o:Oper} {a:Act} {K:Act→World→Prop} {Q:Exit→Act→World→Prop} {X:Prop} (hgd:o.guard=none) (s x:Operand) (t:TypeId)
 (ho:o.op=.call {callee:=.builtin .append,args:=#[s,x],argTypes:=#[t,t]})
 (base:Nat) (e:TypeId) (i:TypeInfo) (z:Value) (bytes:Nat) (ht:P.underlying t=some (.slice e)) (hi:P.info? e=some i) (hz:i.zero=some z)
 (hsize:i.size=1) (hby:i.bytes=bytes) (hzs:z.cells.size=1)
 (v:Value) (n:Nat) (xs:List Value) (hs:a.eval s=v) (hown:OwR w base e v n xs)
 (B:Nat) (u:Value) (y:Value) (hx:a.eval x=u) (hr:Sl w B 1 u 1 [y]) (h1:y.oneCell'=true)
 (h63:n+1≤maxLen) (hbytes:(n+1) * bytes≤140737488355328) (hbase:base≤w.heap.size)
 (h: ∀v' w',Hid (OwR w' base e v' (n+1) (xs++[y]))→Only (fun k=>v.ownBlock=some k) w w'→(v'.ownBlock=v.ownBlock∨v'.ownBlock=some w.heap.size)→K (a.put o.dst v') w'):
 if Region.wanted o (yielded ops a.tmps)=true then Oper.wp P o a w K Q else X:=by
 have hw:Region.wanted o (yielded ops a.tmps)=true:=by simp[Region.wanted,hgd]
 rw[if_pos hw];exact ZdC w s x t ho base e i z bytes ht hi hz hsize hby hzs v n xs hs hown B u y hx hr h1 h63 hbytes hbase h
end
def upd {α:Type} (f:Int→α) (i:Int) (x:α):Int→α:=fun j=>if j=i then x else f j
theorem Z5 {α:Type} (f:Int→α) (i:Int) (x:α):upd f i x i=x:=if_pos rfl
theorem Zq {α:Type} {f:Int→α} {i j:Int} {x:α} (h:j≠i):upd f i x j=f j:=if_neg h
structure Rws (w:World) (base:Nat) (E:TypeId) (V:Int→Value) (L:Int→List Int):Prop where
 own: ∀i,OwR w base E (V i) (L i).length (i64s (L i))
 ap: ∀i j k,i≠j→(V i).ownBlock=some k→ ¬(V j).ownBlock=some k
def Zl5 (V:Int→Value) (k:Nat):Prop:= ∃i,(V i).ownBlock=some k
section
variable {w w':World} {base:Nat} {E:TypeId} {V:Int→Value} {L:Int→List Int} {F:Nat→Prop}
theorem Rws.only (h:Rws w base E V L) (o:Only F w w') (hF: ∀k,Zl5 V k→ ¬F k):Rws w' base E V L:=
 ⟨fun i=>(h.own i).only o fun k hk=>hF k ⟨i,hk⟩,h.ap⟩
theorem Rws.ne (h:Rws w base E V L) {g:Nat} {t:TypeId} {cs:Array Value} (b:Blk w g t cs) (hE:t≠E): ¬Zl5 V g:=fun ⟨i,e⟩=>(h.own i).ne b hE e
theorem Rws.set (h:Rws w base E V L) {g j:Nat} {t:TypeId} {cs:Array Value} {u:Value} (b:Blk w g t cs) (hE:t≠E):Rws (w.setCell ⟨g,j,none⟩ u) base E V L:=
 h.only (Zc w g j u) fun k hk e=>by unfold isb at e;subst e;exact h.ne b hE hk
theorem Rws.kept (h:Rws w base E V L) (o:Only nob w w'):Rws w' base E V L:=h.only o fun _ _=>id
theorem Rws.lt (h:Rws w base E V L) {k:Nat} (hk:Zl5 V k):base≤k∧k<w.heap.size:=by
 obtain⟨i,e⟩:=hk;exact(h.own i).lt e
theorem Rws.turn (h:Rws w base E V L) (i:Int) {v':Value} {l:List Int} (o:Only (fun k=>(V i).ownBlock=some k) w w') (H:OwR w' base E v' l.length (i64s l)) (hv:v'.ownBlock=(V i).ownBlock∨v'.ownBlock=some w.heap.size):
 Rws w' base E (upd V i v') (upd L i l):=by
 have hnew: ∀k,v'.ownBlock=some k→(V i).ownBlock=some k∨k=w.heap.size:=fun k e=>by
  rcases hv with hv|hv
  · exact .inl (hv▸e)
  · rw[hv] at e;exact .inr (Yp e).symm
 refine⟨fun j=>?_,fun a b k hab ha hb=>?_⟩
 · by_cases hj:j=i
   · subst hj;rw[Z5,Z5];exact H
   · rw[Zq hj,Zq hj]
     exact(h.own j).only o fun k hk e=>h.ap j i k hj hk e
 · by_cases hai:a=i
   · subst hai
     rw[Z5] at ha;rw[Zq (Ne.symm hab)] at hb;rcases hnew k ha with e|e
     · exact h.ap a b k hab e hb
     · have:=((h.own b).lt hb).2
       omega
   · rw[Zq hai] at ha
     by_cases hbi:b=i
     · subst hbi
       rw[Z5] at hb;rcases hnew k hb with e|e
       · exact h.ap a b k hab ha e
       · have:=((h.own a).lt ha).2
         omega
     · rw[Zq hbi] at hb
       exact h.ap a b k hab ha hb
theorem Rws.cut (h:Rws w base E V L) (i:Int) {v':Value} {l:List Int} (H:OwR w base E v' l.length (i64s l)) (hv: ∀k,v'.ownBlock=some k→(V i).ownBlock=some k):Rws w base E (upd V i v') (upd L i l):=by
 refine⟨fun j=>?_,fun a b k hab ha hb=>?_⟩
 · by_cases hj:j=i
   · subst hj;rw[Z5,Z5];exact H
   · rw[Zq hj,Zq hj];exact h.own j
 · by_cases hai:a=i
   · subst hai
     rw[Z5] at ha;rw[Zq (Ne.symm hab)] at hb;exact h.ap a b k hab (hv k ha) hb
   · rw[Zq hai] at ha
     by_cases hbi:b=i
     · subst hbi
       rw[Z5] at hb;exact h.ap a b k hab ha (hv k hb)
     · rw[Zq hbi] at hb
       exact h.ap a b k hab ha hb
theorem Rws.like {V':Int→Value} {L':Int→List Int} (h:Rws w base E V L) (e1:V'=V) (e2:L'=L):Rws w base E V' L':=by rw[e1,e2];exact h
end
end
section
open Go.RowKit Go.Lib
structure QSt where
 s:PSt
 ah:List Int
 k:Nat
 wt:Int→List Int
 bg:List Int
 last:Int
 tp:Int
 pt:Nat
def Zz (g:Gr) (lim:Int):List Int→PSt→Option Int×List Int×PSt
 |[],s=>(none,[],s)
 |x::ah,s=>if ZbN g lim (2,x) s=true then(some x,ah,ZJ g lim (2,x) s) else Zz g lim ah (ZJ g lim (2,x) s)
def QSt.put (q:QSt) (r:Option Int×List Int×PSt):QSt:={q with ah:=r.2.1,s:=r.2.2}
def Zn (q:QSt):Int→List Int:=fun i=>if i= -1 then q.s.small else if i= -2 then q.s.large else if i= -3 then q.s.pile else if i= -4 then q.ah.reverse else if i= -5 then q.bg else q.wt i
theorem Zss (q:QSt) (l:List Int):Zn {q with s:={q.s with pile:=l}}=upd (Zn q) (-3) l:=by
 funext i;unfold Zn upd;by_cases h:i= -3 <;> simp[h]
def flQ (n:Nat) (l:List Int):Array Value:=((List.range n).map fun j:Nat=>Value.bool (decide ((j:Int)∈l))).toArray
theorem Zt9 {n:Nat} {l:List Int} {k:Nat} (h:k<n):(flQ n l)[k]? =some (.bool (decide ((k:Int)∈l))):=by simp[flQ,h]
theorem ZrG {n:Nat} {l m:List Int} {k:Nat} (hm: ∀x,x∈m↔x∈l∨x=(k:Int)):(flQ n l).setIfInBounds k (.bool true)=flQ n m:=by
 apply Array.ext';simp only[flQ,Array.toList_setIfInBounds];apply List.ext_getElem?;intro j;rw[List.getElem?_set];by_cases e:k=j
 · subst e
   by_cases hj:k<n
   · simp[hj,(hm k).2 (.inr rfl)]
   · simp[hj]
 · rw[if_neg e]
   by_cases hj:j<n
   · have:((j:Int)∈m)↔((j:Int)∈l):=(hm j).trans ⟨fun h=>h.resolve_right fun e2=>e (by omega),.inl⟩
     simp[hj,this]
   · simp[hj]
theorem ZqI {n:Nat} {l m:List Int} (hm: ∀x,x∈m↔x∈l):flQ n l=flQ n m:=by
 unfold flQ
 congr 1
 refine List.map_congr_left fun j _=>?_
 congr 1
 exact decide_eq_decide.2 (hm j).symm
structure Qp (W:World) (b mb base:Nat) (vn vr:Value) (lim:Int) (n:Nat) (V:Int→Value) (M:List Int) (q:QSt):Prop where
 box:Blk W b 174 #[vn,vr,.int .i64 lim,.slice (some ⟨mb,0,none⟩) n n,V (-1),V (-2),.int .i64 (q.k:Int),V (-3),V (-4)]
 fl:Blk W mb 4 (flQ n M)
 rows:Rws W base 3 V (Zn q)
 nb:base≤b
 nm:base≤mb
def Qf (b mb:Nat) (V:Int→Value) (k:Nat):Prop:=k=b∨k=mb∨Zl5 V k
structure Stp (b mb:Nat) (V V':Int→Value) (W w':World):Prop where
 only:Only (Qf b mb V) W w'
 grow: ∀k,Zl5 V' k→k<W.heap.size→Qf b mb V k
 same: ∀i,i= -5∨0≤i→V' i=V i
section
variable {W w' w'':World} {b mb base:Nat} {vn vr:Value} {lim:Int} {n:Nat} {V V' V'':Int→Value} {M M':List Int} {q:QSt} {F:Nat→Prop}
theorem Stp.refl (b mb:Nat) (V:Int→Value) (W:World):Stp b mb V V W W:=⟨Only.refl _ _,fun k h _=>.inr (.inr h),fun _ _=>rfl⟩
theorem Stp.kept (b mb:Nat) (V:Int→Value) (o:Only nob W w'):Stp b mb V V W w':=⟨o.mono fun _ _ h=>h.elim,fun k h _=>.inr (.inr h),fun _ _=>rfl⟩
theorem Stp.trans (h:Stp b mb V V' W w') (k:Stp b mb V' V'' w' w''):Stp b mb V V'' W w'':=by
 have hq: ∀i,i<W.heap.size→Qf b mb V' i→Qf b mb V i:=fun i hi e=>by
  rcases e with e|e|e
  · exact .inl e
  · exact .inr (.inl e)
  · exact h.grow i e hi
 exact⟨h.only.andThen k.only hq,fun i hi hlt=>hq i hlt (k.grow i hi (Yw hlt h.only.size)),fun i hi=>(k.same i hi).trans (h.same i hi)⟩
theorem Stp.more (h:Stp b mb V V' W w') (o:Only nob w' w''):Stp b mb V V' W w'':=h.trans (Stp.kept b mb V' o)
theorem Qp.ge (h:Qp W b mb base vn vr lim n V M q) {k:Nat} (hk:Qf b mb V k):base≤k:=by
 rcases hk with rfl|rfl|hk
 · exact h.nb
 · exact h.nm
 · exact(h.rows.lt hk).1
theorem Qp.below (h:Qp W b mb base vn vr lim n V M q) (s:Stp b mb V V' W w') (hb:base≤W.heap.size):Below base W w':=s.only.below hb fun _ hk=>h.ge hk
theorem Qp.kept (h:Qp W b mb base vn vr lim n V M q) (o:Only nob W w'):Qp w' b mb base vn vr lim n V M q:=⟨h.box.keep o id,h.fl.keep o id,h.rows.kept o,h.nb,h.nm⟩
theorem Qp.off (h:Qp W b mb base vn vr lim n V M q) (o:Only F W w') (hF: ∀k,Qf b mb V k→ ¬F k):Qp w' b mb base vn vr lim n V M q:=
 ⟨h.box.keep o (hF b (.inl rfl)),h.fl.keep o (hF mb (.inr (.inl rfl))),h.rows.only o fun k hk=>hF k (.inr (.inr hk)),h.nb,h.nm⟩
theorem Qp.bm (h:Qp W b mb base vn vr lim n V M q):b≠mb:=h.box.ne h.fl (by decide)
theorem Qp.bn (h:Qp W b mb base vn vr lim n V M q): ¬Zl5 V b:=h.rows.ne h.box (by decide)
theorem Qp.mn (h:Qp W b mb base vn vr lim n V M q): ¬Zl5 V mb:=h.rows.ne h.fl (by decide)
theorem Qp.tells (h:Qp W b mb base vn vr lim n V M q) (hm: ∀x,x∈M'↔x∈M):Qp W b mb base vn vr lim n V M' q:=⟨h.box,by rw[← ZqI hm];exact h.fl,h.rows,h.nb,h.nm⟩
theorem Qp.says (h:Qp W b mb base vn vr lim n V M q) {q':QSt} (hq:Zn q'=Zn q) (hk:q'.k=q.k):Qp W b mb base vn vr lim n V M q':=⟨by rw[hk];exact h.box,h.fl,by rw[hq];exact h.rows,h.nb,h.nm⟩
end
def atQ (i:Int) (j:Nat):Prop:=i= -1∧j=4∨i= -2∧j=5∨i= -3∧j=7∨i= -4∧j=8
theorem Zik:atQ (-1) 4:=.inl ⟨rfl,rfl⟩
theorem ZrL:atQ (-2) 5:=.inr (.inl ⟨rfl,rfl⟩)
theorem Zqx:atQ (-3) 7:=.inr (.inr (.inl ⟨rfl,rfl⟩))
theorem ZhG:atQ (-4) 8:=.inr (.inr (.inr ⟨rfl,rfl⟩))
section
variable {W w1 w':World} {b mb base:Nat} {vn vr:Value} {lim:Int} {n j:Nat} {V V':Int→Value} {M:List Int} {q q':QSt} {i:Int}
theorem Qp.cell (h:Qp W b mb base vn vr lim n V M q) (hi:atQ i j):W.cell? ⟨b,j,none⟩=some (V i):=by
 rcases hi with⟨rfl,rfl⟩|⟨rfl,rfl⟩|⟨rfl,rfl⟩|⟨rfl,rfl⟩ <;> exact h.box.cell _
theorem Qp.mid (h:Qp W b mb base vn vr lim n V M q) (oa:Only nob W w1) (o:Only (fun k=>(V i).ownBlock=some k) w1 w'):
 Blk w' b 174 #[vn,vr,.int .i64 lim,.slice (some ⟨mb,0,none⟩) n n,V (-1),V (-2),.int .i64 (q.k:Int),V (-3),V (-4)]:=
 (h.box.keep oa id).keep o fun e=>h.bn ⟨i,e⟩
theorem Qp.turn (h:Qp W b mb base vn vr lim n V M q) (hi:atQ i j) {v':Value} {l:List Int} (oa:Only nob W w1) (o:Only (fun k=>(V i).ownBlock=some k) w1 w') (H:OwR w' base 3 v' l.length (i64s l)) (hv:v'.ownBlock=(V i).ownBlock∨v'.ownBlock=some w1.heap.size)
 (hq:Zn q'=upd (Zn q) i l) (hk:q'.k=q.k):
 Qp (w'.setCell ⟨b,j,none⟩ v') b mb base vn vr lim n (upd V i v') M q'∧Stp b mb V (upd V i v') W (w'.setCell ⟨b,j,none⟩ v'):=by
 have h1:=h.kept oa
 have hF: ∀k,(V i).ownBlock=some k→Zl5 V k:=fun k e=>⟨i,e⟩
 have hb2:=h1.box.keep o fun e=>h1.bn (hF b e);have hf2:=h1.fl.keep o fun e=>h1.mn (hF mb e);have hr2:=h1.rows.turn i o H hv;refine⟨⟨?_,hf2.other (fun e=>h.bm e) v',?_,h.nb,h.nm⟩,⟨?_,?_,?_⟩⟩
 · have:=hb2.put j v'
   rw[hk]
   rcases hi with⟨rfl,rfl⟩|⟨rfl,rfl⟩|⟨rfl,rfl⟩|⟨rfl,rfl⟩ <;> simpa[upd] using this
 · rw[hq]
   exact hr2.set hb2 (by decide)
 · exact((oa.mono fun _ _ h=>h.elim).andThen (o.mono fun k _ e=>(.inr (.inr (hF k e)):Qf b mb V k)) fun _ _ h=>h).andThen (Zc w' b j v') fun k _ e=>.inl e
 · rintro k ⟨a,e⟩ hlt
   by_cases hj:a=i
   · subst hj
     rw[Z5] at e;rcases hv with hv|hv
     · exact .inr (.inr (hF k (hv▸e)))
     · rw[hv] at e
       have:=Yp e
       have:=oa.size
       omega
   · rw[Zq hj] at e
     exact .inr (.inr ⟨a,e⟩)
 · intro a ha
   exact Zq (by rintro rfl;rcases hi with⟨rfl,rfl⟩|⟨rfl,rfl⟩|⟨rfl,rfl⟩|⟨rfl,rfl⟩ <;> omega)
theorem Qp.cut (h:Qp W b mb base vn vr lim n V M q) (hi:atQ i j) {v':Value} {l:List Int} (H:OwR W base 3 v' l.length (i64s l)) (hv: ∀k,v'.ownBlock=some k→(V i).ownBlock=some k)
 (hq:Zn q'=upd (Zn q) i l) (hk:q'.k=q.k):
 Qp (W.setCell ⟨b,j,none⟩ v') b mb base vn vr lim n (upd V i v') M q'∧Stp b mb V (upd V i v') W (W.setCell ⟨b,j,none⟩ v'):=by
 have hr2:=h.rows.cut i H hv;refine⟨⟨?_,h.fl.other (fun e=>h.bm e) v',?_,h.nb,h.nm⟩,⟨(Zc W b j v').mono fun k _ e=>.inl e,?_,?_⟩⟩
 · have:=h.box.put j v'
   rw[hk]
   rcases hi with⟨rfl,rfl⟩|⟨rfl,rfl⟩|⟨rfl,rfl⟩|⟨rfl,rfl⟩ <;> simpa[upd] using this
 · rw[hq]
   exact hr2.set h.box (by decide)
 · rintro k ⟨a,e⟩ hlt
   by_cases hj:a=i
   · subst hj
     rw[Z5] at e;exact .inr (.inr ⟨a,hv k e⟩)
   · rw[Zq hj] at e
     exact .inr (.inr ⟨a,e⟩)
 · intro a ha
   exact Zq (by rintro rfl;rcases hi with⟨rfl,rfl⟩|⟨rfl,rfl⟩|⟨rfl,rfl⟩|⟨rfl,rfl⟩ <;> omega)
theorem Qp.flag (h:Qp W b mb base vn vr lim n V M q) (x:Nat):
 Qp (W.setCell ⟨mb,x,none⟩ (.bool true)) b mb base vn vr lim n V ((x:Int)::M) q∧Stp b mb V V W (W.setCell ⟨mb,x,none⟩ (.bool true)):=
 ⟨⟨h.box.other (fun e=>h.bm e.symm) _,by rw[← ZrG (l:=M) (k:=x) fun y=>by simp[or_comm]];exact h.fl.put x _,h.rows.set h.fl (by decide),h.nb,h.nm⟩,⟨(Zc W mb x _).mono fun k _ e=>.inr (.inl e),fun k hk _=>.inr (.inr hk),fun _ _=>rfl⟩⟩
end
theorem ZfL (W:World) (b j:Nat) (t:TypeId) (cs:Array Value) (g o n c:Nat) (x:Int) (hb:Blk W b t cs) (hj:cs[j]? =some (.slice (some ⟨g,o,none⟩) (n+1) c)) (hc:n+1≤c) (hm:c≤maxLen) (hx:W.cell? ⟨g,o+n,none⟩=some (.int .i64 x)):
 Calls Tryz.prog 152 #[.pointer (some ⟨b,j,none⟩)] W fun e w'=>e=.returned (.int .i64 x)∧w'=W.setCell ⟨b,j,none⟩ (Zbb (some ⟨g,o,none⟩) 0 n c 1):=by
 obtain⟨j0,hj0,hy0,hy1,hy2⟩:=info_parts Zap;have hcut:=Zfe (P:=Tryz.prog) Tryz.underlying38 hj0 (some ⟨g,o,none⟩) (n+1) c n (by omega);rw[hy1] at hcut
 obtain⟨u,hu⟩: ∃u,Zbb (some ⟨g,o,none⟩) 0 n c 1=u:=⟨_,rfl⟩
 have hform:u=.slice (some ⟨g,o,none⟩) n c:=by
  rw[← hu];unfold Zbb;by_cases h0:c=0
  · omega
  · simp[h0,Addr.add]
 rw[hu] at hcut ⊢;subst hform;clear hu
 obtain⟨m,hmn⟩: ∃m,m=n+1:=⟨_,rfl⟩
 have HMN:=ZZ hmn
 have hws:IntKind.i64.wrap ((m:Int) - 1)=(n:Int):=by
  unfold maxLen at hm;rw[IntWalk.i64_in _ (by omega)];omega
 rw[← hmn] at hj hcut hc
 have hlt:n<m:=by omega
 have c0:W.cell? ⟨b,j,none⟩=some (.slice (some ⟨g,o,none⟩) m c):=by rw[hb.cell];exact hj
 have f0:=hb.free j;unfold maxLen at hm;clear hmn hj hb hy2
 go_enter Tryz.func152,Tryz.ntmps152
 go_wp2;go_ret;exact⟨rfl,rfl⟩
end
section
open Go.RowKit Go.Lib
theorem ZjK:Tryz.prog.follows .mixedOrders=true:=by kernel_rfl
structure Okq (g:Gr) (q:QSt):Prop where
 wf:Wf g q.s
 ah: ∀x∈q.ah,(0≤x∧x<(g.nd.length:Int))∧Rch g x
theorem ZoG {g:Gr} {lim x:Int} {r:List Int} {s:PSt} (h:x∈s.met):Zz g lim (x::r) s=Zz g lim r s:=by
 have hn:Z1 (2,x) s=false:=by
  unfold PSt.met at h;unfold Z1
  rcases Yr.1 h with h|h <;> simp[h]
 have hB:ZbN g lim (2,x) s=false:=by unfold ZbN;rw[hn];rfl
 have hS:ZJ g lim (2,x) s=s:=by unfold ZJ;rw[hn];exact if_neg (by simp)
 rw[Zz,hB,hS];rfl
theorem Zol {x:Int} {s:PSt} (h:x∉s.met):Z1 (2,x) s=true:=by
 unfold PSt.met at h;unfold Z1;simp at h;simp[h]
def Zlt (x:Int) (s:PSt):PSt:={s with large:=s.large++[x],pile:=s.pile++[x]}
def ZdL (g:Gr) (x:Int) (s:PSt):PSt:={s with small:=s.small++[x],begins:=s.begins++[s.top],looked:=s.looked++[false],top:=wrap64 (s.top+ndSz (Za7 g x))}
theorem ZnT {g:Gr} {lim x:Int} {r:List Int} {s:PSt} (h:x∉s.met) (hb:lim<ndSz (Za7 g x)):Zz g lim (x::r) s=Zz g lim r (Zlt x s)∧ZJ g lim (2,x) s=Zlt x s:=by
 have hS:ZJ g lim (2,x) s=Zlt x s:=by unfold ZJ;rw[if_pos (Zol h),if_pos hb];rfl
 have hB:ZbN g lim (2,x) s=false:=by unfold ZbN;simp[hb]
 rw[Zz,hB,hS];exact⟨rfl,rfl⟩
theorem Zjm {g:Gr} {lim x:Int} {r:List Int} {s:PSt} (h:x∉s.met) (hb: ¬lim<ndSz (Za7 g x)):Zz g lim (x::r) s=(some x,r,ZdL g x s)∧ZJ g lim (2,x) s=ZdL g x s:=by
 have hS:ZJ g lim (2,x) s=ZdL g x s:=by unfold ZJ;rw[if_pos (Zol h),if_neg hb];rfl
 have hB:ZbN g lim (2,x) s=true:=by unfold ZbN;rw[Zol h];simp[hb]
 rw[Zz,hB,hS];exact⟨rfl,rfl⟩
theorem Okq.meet {g:Gr} {lim x:Int} {r:List Int} {q:QSt} {s:PSt} (h:Okq g {q with ah:=x::r,s:=s}):Okq g {q with ah:=r,s:=ZJ g lim (2,x) s}:=
 ⟨(ZgG h.wf fun _=>h.ah x (List.mem_cons_self ..)).1,fun y hy=>h.ah y (List.mem_cons_of_mem _ hy)⟩
theorem Okq.pop {g:Gr} {x:Int} {r:List Int} {q:QSt} {s:PSt} (h:Okq g {q with ah:=x::r,s:=s}):Okq g {q with ah:=r,s:=s}:=⟨h.wf,fun y hy=>h.ah y (List.mem_cons_of_mem _ hy)⟩
theorem Zj8 {g:Gr} {lim:Int} {q:QSt}: ∀(a:List Int) (s:PSt),Okq g {q with ah:=a,s:=s}→Okq g (q.put (Zz g lim a s))
 |[],s,h=>h
 |x::r,s,h=>by
  rw[Zz]
  split
  · exact h.meet
  · exact Zj8 r _ h.meet
def ZqQ (b j:Nat) (w:World):Nat:=match w.cell? ⟨b,j,none⟩ with|some (.slice _ n _)=>n|_=>0
theorem Ze7 {b j:Nat} {w:World} {A:Option Addr} {n c:Nat} (h:w.cell? ⟨b,j,none⟩=some (.slice A n c)):ZqQ b j w=n:=by unfold ZqQ;rw[h]
theorem ZkT {g:Gr} {q:QSt} {a:List Int} {s:PSt} {x:Int}:Zn {q with ah:=a,s:=ZdL g x s}=upd (Zn {q with ah:=a,s:=s}) (-1) (s.small++[x]):=by
 funext i;unfold Zn upd ZdL;by_cases h:i= -1 <;> simp[h]
theorem ZsQ {q:QSt} {s:PSt} {a a':List Int}:Zn {q with ah:=a',s:=s}=upd (Zn {q with ah:=a,s:=s}) (-4) a'.reverse:=by
 funext i;unfold Zn upd;by_cases h:i= -4 <;> simp[h]
theorem Zr6 {x y:Int} {s:PSt}:y∈(Zlt x s).met↔y∈s.met∨y=x:=by unfold Zlt PSt.met;simp[or_assoc]
theorem Znz {g:Gr} {x y:Int} {s:PSt}:y∈(ZdL g x s).met↔y∈s.met∨y=x:=by unfold ZdL PSt.met;simp[or_assoc,or_comm,or_left_comm]
theorem Zed (w:World) (x:Int):Sl (w.alloc (.cells #[.int .i64 x] 3)) (w.heap.size+1) 1 (.slice (some ⟨w.heap.size,0,none⟩) 1 1) 1 [.int .i64 x]:=ZmD w x
theorem ZdA {n:Nat} (h:n≤17000000000):n+1≤maxLen∧(n+1) * 8≤140737488355328:=by unfold maxLen;omega
theorem Zr7 (W:World) (b mb base B:Nat) (g:Gr) (vn vr:Value) (hs:List (Value×Value)) (lim:Int) (V:Int→Value) (q:QSt) (h:Qp W b mb base vn vr lim g.nd.length V q.s.met q) (hr:RdG W B g vn vr hs) (hB:B≤base) (hbase:base≤W.heap.size) (ok:Okq g q) (hn:g.nd.length≤1000000):
 Calls Tryz.prog 118 #[.pointer (some ⟨b,0,none⟩)] W fun e w'=> ∃V',e=.returned (.tuple #[.int .i64 ((Zz g lim q.ah q.s).1.getD 0),.bool (Zz g lim q.ah q.s).1.isSome])∧
  Qp w' b mb base vn vr lim g.nd.length V' (Zz g lim q.ah q.s).2.2.met (q.put (Zz g lim q.ah q.s))∧Stp b mb V V' W w':=by
 obtain⟨j0,hj0,hy0,hy1,hy2⟩:=info_parts Zap;obtain⟨An,cn,rfl,hacn,hcmn⟩:=hr.nodes.form
 obtain⟨N,hN⟩: ∃N,N=g.nd.length:=⟨_,rfl⟩
 have HNN:=ZZ hN;rw[← hN] at h hn hacn ⊢
 obtain⟨R,hR⟩: ∃R,R=Zz g lim q.ah q.s:=⟨_,rfl⟩
 have HR:=ZZ hR;rw[← hR];have HG:=ZZ hr;have HQ:=ZZ h;have HK:=ZZ ok;have HBB:=ZZ (And.intro hB hbase);unfold maxLen at hcmn;clear hR h hr ok hB hbase hN
 go_enter Tryz.func118,Tryz.ntmps118
 go_wp2
 go_loopw [4] (fun i wr=> ∃(V':Int→Value) (a:List Int) (s:PSt),Hid (Qp wr b mb base (.slice An N cn) vr lim N V' s.met {q with ah:=a,s:=s})∧Hid (Stp b mb V V' W wr)∧Hid (Okq g {q with ah:=a,s:=s})∧Hid (R=Zz g lim a s)) (fun _ wr=>ZqQ b 8 wr)
 case atStart=>exact⟨V,q.ah,q.s,HQ,ZZ (Stp.refl _ _ _ _),HK,HR⟩
 case round=>
  obtain⟨V',a,s,HQ',HS,HO,HF⟩:=hrel;obtain⟨A8,k8,hv8,hk8,hm8⟩:=(HQ'.out.rows.own (-4)).form;have c8:=HQ'.out.cell ZhG;rw[hv8] at c8
  have hlr:(Zn {q with ah:=a,s:=s} (-4)).length=a.length:=by simp[Zn]
  rw[hlr] at c8 hk8 hv8
  cases a with
  |nil=>
   have hf:=HF.out;rw[Zz] at hf;have HF2:=ZZ hf;simp only[List.length_nil] at c8 hk8;clear hf hlr hv8 hm8;go_wp2;go_ret2;refine⟨V',?_,?_,HS.out⟩
   · rw[HF2.out];rfl
   · rw[HF2.out];exact HQ'.out
  |cons x r=>
   obtain⟨x,rfl⟩: ∃y:Nat,x=y:=⟨x.toNat,by have:=(HO.out.ah x (List.mem_cons_self ..)).1;omega⟩
   have hxN:x<N:=by have:=(HO.out.ah (x:Int) (List.mem_cons_self ..)).1;have:=HNN.out;omega
   have how:=HQ'.out.rows.own (-4);rw[hv8] at how
   have hrow:Zn {q with ah:=(x:Int)::r,s:=s} (-4)=r.reverse++[(x:Int)]:=by simp[Zn]
   rw[hrow,Zy] at how;simp only[Ys,List.length_reverse,List.length_cons,List.length_nil] at how c8 hk8 hv8;obtain⟨g8,o8,cur8,rfl, -, -,hc8⟩:=how.at_ (by omega);have hx8:wr.cell? ⟨g8,o8+r.length,none⟩=some (.int .i64 x):=hc8 r.length _ (by rw[List.getElem?_append_right (by simp[Zgp])];simp[i64s]);obtain⟨hi1,hi2⟩:=how.init;have HT:=ZZ (ZfL wr b 8 _ _ g8 o8 r.length k8 x HQ'.out.box (by rw[hv8];rfl) (by omega) hm8 hx8);obtain⟨Q1,S1⟩:=HQ'.out.cut (q':={q with ah:=r,s:=s}) ZhG (l:=r.reverse) (by simpa using hi1) (fun k e=>by rw[hv8];exact hi2 k e) ZsQ rfl
   obtain⟨W1,hW1⟩: ∃W1,wr.setCell ⟨b,8,none⟩ (Zbb (some ⟨g8,o8,none⟩) 0 r.length k8 1)=W1:=⟨_,rfl⟩
   rw[hW1] at HT Q1 S1
   obtain⟨V1,hV1⟩: ∃V1,upd V' (-4) (Zbb (some ⟨g8,o8,none⟩) 0 r.length k8 1)=V1:=⟨_,rfl⟩
   have hV14:V1 (-4)=.slice (some ⟨g8,o8,none⟩) r.length k8:=by
    rw[← hV1,Z5];unfold Zbb;rw[if_neg (by omega)];simp[Addr.add]
   rw[hV1] at Q1 S1;have HQ1:=ZZ Q1;have HS1:=ZZ (HS.out.trans S1);have e3:W1.cell? ⟨b,3,none⟩=some (.slice (some ⟨mb,0,none⟩) N N):=Q1.box.cell 3
   have ef:W1.cell? ⟨mb,x,none⟩=some (.bool (decide ((x:Int)∈s.met))):=by rw[Q1.fl.cell,Zt9 hxN]
   have hms:ZqQ b 8 wr=r.length+1:=Ze7 c8;have HMS:=ZZ hms;have HM1:=ZZ (show W1.cell? ⟨b,8,none⟩=some (.slice (some ⟨g8,o8,none⟩) r.length k8) by rw[Q1.cell ZhG,hV14]);clear hms hlr hrow hc8 hx8 hi1 hi2 how Q1 S1 hV1 hV14 hW1 hv8 hm8
   go_wp2_with fail
   go_at_call 152;refine HT.out.mono ?_;rintro e w1 ⟨rfl,hw1⟩
   with_reducible rw[hw1]
   clear c8 hk8 hw1 w1;by_cases hmx:(x:Int)∈s.met
   · rw[Ym hmx] at ef
     have HF2:=ZZ (HF.out.trans (ZoG hmx));clear hmx;go_wp2
     go_roundw
     case rel=>exact⟨V1,r,s,HQ1,HS1,ZZ HO.out.pop,HF2⟩
     case measure=>rw[HMS.out,Ze7 HM1.out];omega
   · rw[Yl hmx] at ef
     have HMX:=ZZ hmx;have ff:W1.frozen? ⟨mb,x,none⟩=false:=HQ1.out.fl.free x;obtain⟨Q2,S2⟩:=HQ1.out.flag x
     obtain⟨W2,hW2⟩: ∃W2,W1.setCell ⟨mb,x,none⟩ (.bool true)=W2:=⟨_,rfl⟩
     have HW2:=ZZ hW2;rw[hW2] at Q2 S2;have HQ2:=ZZ Q2;have HS2:=ZZ (HS1.out.trans S2);have HBl:=ZZ ((HQ.out.below HS2.out HBB.out.2).mono HBB.out.1)
     obtain⟨d,hd⟩: ∃d,g.nd[x]? =some d:=⟨_,Ya (by have:=HNN.out;omega)⟩
     obtain⟨bb,oo,fv,rv,hA,hbb,hh',g0,g1,g2,hnd⟩:=HG.out.at_ HBl.out hd;obtain⟨Af,cf,hfv,hafc,hcfm⟩:=hnd.fields.form;obtain⟨Arw,crw,hrv,harw,hcrw⟩:=hnd.raws.form;simp only at hfv hrv;subst hfv hrv;obtain rfl:An=some ⟨bb,oo,none⟩:=hA;have hbB:B≤W2.heap.size:=Yi HBB.out.1 (Yi HBB.out.2 HS2.out.only.size);have HSZ:=ZZ (fun (W':World) (o:Only nob W2 W')=>Zf2 d _ _ W' (hnd.below (o.below hbB fun _ h=>h.elim)));have HZ:=ZZ (show ndSz (Za7 g (x:Int))=ndSz d by rw[show Za7 g (x:Int)=d by unfold Za7;rw[Int.toNat_natCast,Yn,hd];rfl])
     obtain⟨kd,hkd⟩: ∃kd,kd=d.kd:=⟨_,rfl⟩
     obtain⟨sz,hsz⟩: ∃z,z=ndSz d:=⟨_,rfl⟩
     rw[← hsz] at HSZ HZ;rw[← hkd] at HSZ g0;have d0:W2.cell? ⟨b,0,none⟩=some (.slice (some ⟨bb,oo,none⟩) N cn):=Q2.box.cell 0;have d2:W2.cell? ⟨b,2,none⟩=some (.int .i64 lim):=Q2.box.cell 2;clear hW2 Q2 S2 hmx hd hh' hnd hkd hsz hbB hafc hcfm harw hcrw hbb
     go_upto_region 5 with fail
     rw[HW2.out];clear e3 ef ff;have mixed:=ZjK;have OC:=ZZ (show Only nob W2 W2.drew from(Only.refl nob W2).drewN 1)
     go_region_held3 (fun w'=>w'.cell? ⟨b,0,none⟩=some (.slice (some ⟨bb,oo,none⟩) N cn)∧w'.cell? ⟨b,2,none⟩=some (.int .i64 lim)∧w'.cell? ⟨bb,oo+x * 3,none⟩=some (.int .i64 kd)∧w'.cell? ⟨bb,oo+x * 3+1,none⟩=some (.slice Af d.fs.length cf)∧w'.cell? ⟨bb,oo+x * 3+2,none⟩=some (.slice Arw d.rs.length crw))
      (first|(with_reducible exact And.intro (OC.out.keeps d0) (And.intro (OC.out.keeps d2) (And.intro (OC.out.keeps g0) (And.intro (OC.out.keeps g1) (OC.out.keeps g2)))))|go_keep)
      (first
        |(go_at_call 51
          with_reducible refine(HSZ.out _ OC.out).mono ?_
          rintro e wt ⟨rfl,o⟩;have OC:=ZZ (OC.out.trans o)
          clear o))
     have HQ3:=ZZ (HQ2.out.kept OC.out);have HS3:=ZZ (HS2.out.more OC.out);have hb3:=ZZ (Yi HBB.out.2 HS3.out.only.size)
     have HRM:=ZZ (show s.small.length+s.large.length≤N by
      have h1:=HO.out.wf.room;rw[HNN.out.symm,ZaY] at h1
      exact h1)
     have HPL:=ZZ (show s.pile.length≤s.large.length from HO.out.wf.pile_le)
     obtain⟨W3,hW3⟩: ∃W3,W3=wt:=⟨_,rfl⟩
     rw[← hW3] at HQ3 HS3 hb3 ⊢;clear hW3 d0 d2 g0 g1 g2 OC;by_cases hbig:lim<sz
     · have hnl: ¬sz≤lim:=by omega
       obtain⟨fb1,fb2⟩:=ZnT (g:=g) (r:=r) HMX.out (show lim<ndSz (Za7 g (x:Int)) by rw[HZ.out];exact hbig);have HF2:=ZZ (HF.out.trans fb1);have HO2:=ZZ (fb2▸HO.out.meet (lim:=lim));clear fb1 fb2 hbig;obtain⟨A4,k4,hv4,hk4,hm4⟩:=(HQ3.out.rows.own (-2)).form;have c4:=HQ3.out.cell ZrL;rw[hv4] at c4
       have hl4:(Zn {q with ah:=r,s:=s} (-2)).length=s.large.length:=by simp[Zn,Zlt]
       have hle4:s.large.length≤17000000000:=by have:=HRM.out;have:=HPL.out;omega
       obtain⟨n4,hn4⟩: ∃m,m=(Zn {q with ah:=r,s:=s} (-2)).length:=⟨_,rfl⟩
       have how:=HQ3.out.rows.own (-2);rw[hv4, ← hn4] at how;have HOW4:=ZZ how;rw[← hn4] at c4;have HN4:=ZZ (hn4.trans hl4)
       have hn4b:n4≤17000000000:=by rw[HN4.out];exact hle4
       rw[← hn4] at hv4;have HV4:=ZZ hv4;clear hn4 hl4 hv4 how hle4 hk4 hm4
       go_wp2_with (with_reducible refine ZaE (o:=⟨some 60,_,_,_,_,_⟩) _ rfl (.tmp 57) (.tmp 59) _ rfl base 3 j0 _ 8 Tryz.underlying38 hj0 hy0 hy1 hy2 rfl (.slice A4 n4 k4) n4 (i64s (Zn {q with ah:=r,s:=s} (-2))) rfl ?c14 (W3.heap.size+1) (.slice (some ⟨W3.heap.size,0,none⟩) 1 1) (.int .i64 (x:Int)) rfl ?c64 rfl ?c24 ?c34 ?c44 ?c54)
       case c14=>exact HOW4.out.only ((Only.refl nob _).alloc _) (fun _ _ h=>h)
       case c64=>exact Zed _ _
       case c24=>exact(ZdA hn4b).1
       case c34=>exact(ZdA hn4b).2
       case c44=>have:=hb3.out;simp;omega
       case c54=>
       intro v4 w4 H4 o4 ho4;obtain⟨B4,m4,rfl, -, -⟩:=H4.out.form;have oa4:Only nob W3 (W3.alloc (.cells #[.int .i64 (x:Int)] 3)):=(Only.refl nob W3).alloc _;rw[← HV4.out] at o4 ho4;have M4:=HQ3.out.mid oa4 o4
       have c4:w4.cell? ⟨b,5,none⟩=some (.slice A4 n4 k4):=by rw[M4.cell];exact congrArg some HV4.out
       have f4:=M4.free 5
       have hlen4:(Zn {q with ah:=r,s:=s} (-2)++[(x:Int)]).length=n4+1:=by rw[Ys,HN4.out];simp[Zn,Zlt]
       obtain⟨QQ,SS⟩:=HQ3.out.turn (q':={q with ah:=r,s:={s with large:=s.large++[(x:Int)]}}) ZrL (l:=Zn {q with ah:=r,s:=s} (-2)++[(x:Int)]) oa4 o4 (by rw[hlen4,Zy];exact H4.out) (by simpa using ho4) (by funext i;unfold Zn upd;by_cases h:i= -2 <;> simp[h]) rfl
       obtain⟨X4,hX4⟩: ∃X,w4.setCell ⟨b,5,none⟩ (.slice B4 (n4+1) m4)=X:=⟨_,rfl⟩
       rw[hX4] at QQ SS;have HX4:=ZZ hX4;have HQ4:=ZZ QQ;have HS4:=ZZ (HS3.out.trans SS);have hb4:=ZZ (Yi HBB.out.2 HS4.out.only.size);clear hX4 QQ SS hlen4 M4 H4 o4 ho4 oa4
       go_upto_region 9 with fail
       rw[HX4.out];clear c4 f4;obtain⟨A5,k5,hv5,hk5,hm5⟩:=(HQ4.out.rows.own (-3)).form;have c5:=HQ4.out.cell Zqx;rw[hv5] at c5
       have hl5:(Zn {q with ah:=r,s:={s with large:=s.large++[(x:Int)]}} (-3)).length=s.pile.length:=by simp[Zn,Zlt]
       have hle5:s.pile.length≤17000000000:=by have:=HRM.out;have:=HPL.out;omega
       obtain⟨n5,hn5⟩: ∃m,m=(Zn {q with ah:=r,s:={s with large:=s.large++[(x:Int)]}} (-3)).length:=⟨_,rfl⟩
       have how:=HQ4.out.rows.own (-3);rw[hv5, ← hn5] at how;have HOW5:=ZZ how;rw[← hn5] at c5;have HN5:=ZZ (hn5.trans hl5)
       have hn5b:n5≤17000000000:=by rw[HN5.out];exact hle5
       rw[← hn5] at hv5;have HV5:=ZZ hv5;clear hn5 hl5 hv5 how hle5 hk5 hm5
       go_wp2_with (with_reducible refine ZaE (o:=⟨some 70,_,_,_,_,_⟩) _ rfl (.tmp 67) (.tmp 69) _ rfl base 3 j0 _ 8 Tryz.underlying38 hj0 hy0 hy1 hy2 rfl (.slice A5 n5 k5) n5 (i64s (Zn {q with ah:=r,s:={s with large:=s.large++[(x:Int)]}} (-3))) rfl ?c15 (X4.heap.size+1) (.slice (some ⟨X4.heap.size,0,none⟩) 1 1) (.int .i64 (x:Int)) rfl ?c65 rfl ?c25 ?c35 ?c45 ?c55)
       case c15=>exact HOW5.out.only ((Only.refl nob _).alloc _) (fun _ _ h=>h)
       case c65=>exact Zed _ _
       case c25=>exact(ZdA hn5b).1
       case c35=>exact(ZdA hn5b).2
       case c45=>have:=hb4.out;simp;omega
       case c55=>
       intro v5 w5 H5 o5 ho5;obtain⟨B5,m5,rfl, -, -⟩:=H5.out.form;have oa5:Only nob X4 (X4.alloc (.cells #[.int .i64 (x:Int)] 3)):=(Only.refl nob X4).alloc _;rw[← HV5.out] at o5 ho5;have M5:=HQ4.out.mid oa5 o5
       have c5:w5.cell? ⟨b,7,none⟩=some (.slice A5 n5 k5):=by rw[M5.cell];exact congrArg some HV5.out
       have f5:=M5.free 7
       have hlen5:(Zn {q with ah:=r,s:={s with large:=s.large++[(x:Int)]}} (-3)++[(x:Int)]).length=n5+1:=by rw[Ys,HN5.out];simp[Zn,Zlt]
       obtain⟨QQ,SS⟩:=HQ4.out.turn (q':={q with ah:=r,s:=Zlt (x:Int) s}) Zqx (l:=Zn {q with ah:=r,s:={s with large:=s.large++[(x:Int)]}} (-3)++[(x:Int)]) oa5 o5 (by rw[hlen5,Zy];exact H5.out) (by simpa using ho5) (by funext i;unfold Zn upd Zlt;by_cases h:i= -3 <;> simp[h]) rfl
       obtain⟨X5,hX5⟩: ∃X,w5.setCell ⟨b,7,none⟩ (.slice B5 (n5+1) m5)=X:=⟨_,rfl⟩
       rw[hX5] at QQ SS;have HX5:=ZZ hX5;have HQ5:=ZZ QQ;have HS5:=ZZ (HS4.out.trans SS);have hb5:=ZZ (Yi HBB.out.2 HS5.out.only.size);clear hX5 QQ SS hlen5 M5 H5 o5 ho5 oa5
       have HM5:=ZZ (show ZqQ b 8 X5=r.length from by
        obtain⟨Az,kz,hz, -, -⟩:=(HQ5.out.rows.own (-4)).form;have e8:=HQ5.out.cell ZhG;rw[hz] at e8;rw[Ze7 e8]
        simp[Zn])
       go_wp2
       with_reducible rw[HX5.out]
       go_roundw
       case rel=>exact⟨_,r,_,ZZ (HQ5.out.tells fun y=>by rw[Zr6];simp[or_comm]),HS5,HO2,HF2⟩
       case measure=>rw[HMS.out,HM5.out];omega
     · have hnl:sz≤lim:=by omega
       obtain⟨fb1,fb2⟩:=Zjm (g:=g) (r:=r) HMX.out (show ¬lim<ndSz (Za7 g (x:Int)) by rw[HZ.out];exact hbig);have HF2:=ZZ (HF.out.trans fb1);clear fb1 fb2 hbig;obtain⟨A6,k6,hv6,hk6,hm6⟩:=(HQ3.out.rows.own (-1)).form;have c6:=HQ3.out.cell Zik;rw[hv6] at c6
       have hl6:(Zn {q with ah:=r,s:=s} (-1)).length=s.small.length:=by simp[Zn,Zlt]
       have hle6:s.small.length≤17000000000:=by have:=HRM.out;have:=HPL.out;omega
       obtain⟨n6,hn6⟩: ∃m,m=(Zn {q with ah:=r,s:=s} (-1)).length:=⟨_,rfl⟩
       have how:=HQ3.out.rows.own (-1);rw[hv6, ← hn6] at how;have HOW6:=ZZ how;rw[← hn6] at c6;have HN6:=ZZ (hn6.trans hl6)
       have hn6b:n6≤17000000000:=by rw[HN6.out];exact hle6
       rw[← hn6] at hv6;have HV6:=ZZ hv6;clear hn6 hl6 hv6 how hle6 hk6 hm6
       go_wp2_with (with_reducible refine ZaE (o:=⟨some 49,_,_,_,_,_⟩) _ rfl (.tmp 46) (.tmp 48) _ rfl base 3 j0 _ 8 Tryz.underlying38 hj0 hy0 hy1 hy2 rfl (.slice A6 n6 k6) n6 (i64s (Zn {q with ah:=r,s:=s} (-1))) rfl ?c16 (W3.heap.size+1) (.slice (some ⟨W3.heap.size,0,none⟩) 1 1) (.int .i64 (x:Int)) rfl ?c66 rfl ?c26 ?c36 ?c46 ?c56)
       case c16=>exact HOW6.out.only ((Only.refl nob _).alloc _) (fun _ _ h=>h)
       case c66=>exact Zed _ _
       case c26=>exact(ZdA hn6b).1
       case c36=>exact(ZdA hn6b).2
       case c46=>have:=hb3.out;simp;omega
       case c56=>
       intro v6 w6 H6 o6 ho6;obtain⟨B6,m6,rfl, -, -⟩:=H6.out.form;have oa6:Only nob W3 (W3.alloc (.cells #[.int .i64 (x:Int)] 3)):=(Only.refl nob W3).alloc _;rw[← HV6.out] at o6 ho6;have M6:=HQ3.out.mid oa6 o6
       have c6:w6.cell? ⟨b,4,none⟩=some (.slice A6 n6 k6):=by rw[M6.cell];exact congrArg some HV6.out
       have f6:=M6.free 4
       have hlen6:(Zn {q with ah:=r,s:=s} (-1)++[(x:Int)]).length=n6+1:=by rw[Ys,HN6.out];simp[Zn,Zlt]
       obtain⟨QQ,SS⟩:=HQ3.out.turn (q':={q with ah:=r,s:=ZdL g (x:Int) s}) Zik (l:=Zn {q with ah:=r,s:=s} (-1)++[(x:Int)]) oa6 o6 (by rw[hlen6,Zy];exact H6.out) (by simpa using ho6) (by exact ZkT) rfl
       obtain⟨X6,hX6⟩: ∃X,w6.setCell ⟨b,4,none⟩ (.slice B6 (n6+1) m6)=X:=⟨_,rfl⟩
       rw[hX6] at QQ SS;have HX6:=ZZ hX6;have HQ6:=ZZ QQ;have HS6:=ZZ (HS3.out.trans SS);have hb6:=ZZ (Yi HBB.out.2 HS6.out.only.size);clear hX6 QQ SS hlen6 M6 H6 o6 ho6 oa6
       go_upto_region 7 with fail
       rw[HX6.out];clear c6 f6;go_wp2;go_ret2;refine⟨_,?_,?_,HS6.out⟩
       · rw[HF2.out];rfl
       · rw[HF2.out];exact HQ6.out.tells fun y=>by rw[Znz];simp[or_comm]
def Zhd (l:List Int):List Sp:=l.map fun x=>(2,x)
def ZaH (g:Gr) (lim:Int) (q:QSt):PSt:=ZaA g lim (Zhd q.ah) q.s
def Zma (g:Gr) (lim:Int) (q:QSt):QSt:={q with ah:=[],s:=ZaH g lim q}
theorem ZfM {g:Gr} {lim:Int}: ∀(a:List Int) (s:PSt),ZaA g lim (Zhd a) s=ZaA g lim (Zhd (Zz g lim a s).2.1) (Zz g lim a s).2.2
 |[],s=>rfl
 |x::a,s=>by
  rw[Zz]
  split
  · rfl
  · exact ZfM a _
theorem ZeS {g:Gr} {lim:Int}: ∀(a:List Int) (s:PSt),(Zz g lim a s).1=none→(Zz g lim a s).2.1=[]
 |[],s,_=>rfl
 |x::a,s,h=>by
  rw[Zz] at h ⊢
  split
  · rename_i hb
    rw[if_pos hb] at h
    cases h
  · rename_i hb
    rw[if_neg hb] at h;exact ZeS a _ h
theorem ZfT {g:Gr} {lim:Int}: ∀(a:List Int) (s:PSt),(Zz g lim a s).1≠none→(Zz g lim a s).2.1.length<a.length
 |[],s,h=>absurd rfl h
 |x::a,s,h=>by
  rw[Zz] at h ⊢
  split
  · simp
  · rename_i hb
    rw[if_neg hb] at h
    have:=ZfT a _ h
    simp only[List.length_cons];omega
theorem look_ok {g:Gr} {lim:Int} {q:QSt} (h:Okq g q):Wf g (ZaH g lim q)∧Ext q.s (ZaH g lim q):=by
 obtain⟨h1,h2, -⟩:=Zec (lim:=lim) (Zhd q.ah) q.s h.wf fun v hv h2=>by
  unfold Zhd at hv;obtain⟨x,hx,rfl⟩:=List.mem_map.1 hv;exact h.ah x hx
 exact⟨h1,h2⟩
def okN (v:Value):Nat:=match v with|.bool true=>1|_=>0
theorem Zn9 (W:World) (b mb base B:Nat) (g:Gr) (vn vr:Value) (hs:List (Value×Value)) (lim:Int) (V:Int→Value) (q:QSt) (h:Qp W b mb base vn vr lim g.nd.length V q.s.met q) (hr:RdG W B g vn vr hs) (hB:B≤base) (hbase:base≤W.heap.size) (ok:Okq g q) (hn:g.nd.length≤1000000):
 Calls Tryz.prog 151 #[.pointer (some ⟨b,0,none⟩)] W fun e w'=> ∃V' A c,e=.returned (Zbb A q.s.small.length (ZaH g lim q).small.length c 1)∧V' (-1)=.slice A (ZaH g lim q).small.length c∧
  Qp w' b mb base vn vr lim g.nd.length V' (ZaH g lim q).met (Zma g lim q)∧Stp b mb V V' W w':=by
 obtain⟨j0,hj0,hy0,hy1,hy2⟩:=info_parts Zap
 have HC:=ZZ (fun (W':World) (V':Int→Value) (a:List Int) (s:PSt) (h':Qp W' b mb base vn vr lim g.nd.length V' s.met {q with ah:=a,s:=s}) (st:Stp b mb V V' W W') (ok':Okq g {q with ah:=a,s:=s})=>
  Zr7 W' b mb base B g vn vr hs lim V' {q with ah:=a,s:=s} h' (hr.below ((h.below st hbase).mono hB)) hB (Yi hbase st.only.size) ok' hn)
 obtain⟨A1,k1,hv1,hk1,hm1⟩:=(h.rows.own (-1)).form;have c1:=h.cell Zik;rw[hv1] at c1
 obtain⟨n1,hn1⟩: ∃n,n=q.s.small.length:=⟨_,rfl⟩
 have hl1:(Zn q (-1)).length=n1:=by rw[hn1];rfl
 have HX:=ZZ (look_ok (lim:=lim) ok);have HNL:=ZZ (show q.s.small.length≤(ZaH g lim q).small.length from HX.out.2.sm.length_le);have HNR:=ZZ (show(ZaH g lim q).small.length≤1000000 by have:=HX.out.1.room;rw[ZaY] at this;omega)
 obtain⟨T,hT⟩: ∃T,T=ZaH g lim q:=⟨_,rfl⟩
 have HT:=ZZ hT;have HTQ:=ZZ (show Zma g lim q={q with ah:=[],s:=T} by rw[hT];rfl);rw[← hT] at HNL HNR ⊢;rw[HTQ.out];rw[← hn1] at HNL ⊢;have HQ:=ZZ h;have HK:=ZZ ok;rw[hl1] at c1 hk1;clear hT hn1 hl1 hv1 h hr ok hB hbase hk1 hm1 hn
 go_enter Tryz.func151,Tryz.ntmps151
 go_wp2
 go_loopw [4] (fun u wr=> ∃(V':Int→Value) (a:List Int) (s:PSt) (k:Bool),u=.bool k∧Hid (Qp wr b mb base vn vr lim g.nd.length V' s.met {q with ah:=a,s:=s})∧Hid (Stp b mb V V' W wr)∧Hid (Okq g {q with ah:=a,s:=s})∧Hid (T=ZaA g lim (Zhd a) s)∧Hid (k=false→a=[])) (fun u wr=>ZqQ b 8 wr+okN u)
 case atStart=>exact⟨V,q.ah,q.s,true,rfl,HQ,ZZ (Stp.refl _ _ _ _),HK,HT,ZZ fun h=>by cases h⟩
 case round=>
  obtain⟨V',a,s,k,rfl,HQ',HS,HO,HL,HE⟩:=hrel
  cases k with
  |false=>
   have ha:=HE.out rfl;subst ha;have HTs:=ZZ (show T=s from HL.out);obtain⟨A2,k2,hv2,hk2,hm2⟩:=(HQ'.out.rows.own (-1)).form;have c2:=HQ'.out.cell Zik;rw[hv2] at c2
   obtain⟨n2,hn2⟩: ∃n,n=T.small.length:=⟨_,rfl⟩
   have hl2:(Zn {q with ah:=[],s:=s} (-1)).length=n2:=by rw[hn2,HTs.out];rfl
   rw[hl2] at c2 hk2 hv2;have HN2:=ZZ hn2;rw[← hn2] at HNL HNR;have hnl:=HNL.out;have hnr:=HNR.out;have HV2:=ZZ hv2;have hcut:=ZaQ (P:=Tryz.prog) Tryz.underlying38 hj0 A2 n2 k2 n1 hnl;rw[hy1] at hcut;unfold maxLen at hm2
   obtain⟨u,hu⟩: ∃u,Zbb A2 n1 n2 k2 1=u:=⟨_,rfl⟩
   have HU:=ZZ hu;rw[hu] at hcut;clear hu hv2 hn2 hl2 c1;go_wp2;go_ret;refine⟨V',A2,k2,?_,?_,?_,HS.out⟩
   · rw[← HN2.out,HU.out];rfl
   · rw[← HN2.out];exact HV2.out
   · rw[HTs.out];exact HQ'.out
  |true=>
   have HR:=ZZ (HC.out _ _ _ _ HQ'.out HS.out HO.out);obtain⟨A8,k8,hv8,hk8,hm8⟩:=(HQ'.out.rows.own (-4)).form;have c8:=HQ'.out.cell ZhG;rw[hv8] at c8;have HML:=ZZ (show ZqQ b 8 wr=a.length by rw[Ze7 c8];simp[Zn]);clear c8 hv8 hk8 hm8 c1
   go_wp2_with fail
   go_at_call 118;refine HR.out.mono ?_;rintro e w2 ⟨V2,rfl,Q2,S2⟩;have HQ2:=ZZ Q2;have HS2:=ZZ (HS.out.trans S2);obtain⟨A9,k9,hv9, -, -⟩:=(Q2.rows.own (-4)).form;have c9:=Q2.cell ZhG;rw[hv9] at c9;have HM2:=ZZ (show ZqQ b 8 w2=(Zz g lim a s).2.1.length by rw[Ze7 c9];simp[Zn,QSt.put])
   obtain⟨kb,hkb⟩: ∃kb,kb=(Zz g lim a s).1.isSome:=⟨_,rfl⟩
   have HKB:=ZZ hkb;simp only;rw[← hkb]
   have HLT:=ZZ (show(Zz g lim a s).2.1.length+okN (.bool kb)<a.length+1 by
    rw[hkb]
    cases hh:(Zz g lim a s).1 with
    |none=>rw[ZeS a s hh];simp[okN]
    |some y=>
     have:=ZfT a s (by rw[hh];simp)
     simp[okN];omega)
   have HE2:=ZZ (show kb=false→(Zz g lim a s).2.1=[] by
    intro h;rw[hkb] at h
    exact ZeS a s (by cases hh:(Zz g lim a s).1 with|none=>rfl|some y=>rw[hh] at h;cases h))
   clear Q2 S2 hv9 c9 hkb;go_wp2
   go_roundw
   case rel=>exact⟨V2,_,_,kb,rfl,HQ2,HS2,ZZ (Zj8 _ _ HO.out),ZZ (HL.out.trans (ZfM a s)),HE2⟩
   case measure=>
    rw[HM2.out,HML.out];exact HLT.out
theorem Qp.bump {W:World} {b mb base:Nat} {vn vr:Value} {lim:Int} {n:Nat} {V:Int→Value} {M:List Int} {q:QSt} (h:Qp W b mb base vn vr lim n V M q):
 Qp (W.setCell ⟨b,6,none⟩ (.int .i64 ((q.k+1:Nat):Int))) b mb base vn vr lim n V M {q with k:=q.k+1}∧Stp b mb V V W (W.setCell ⟨b,6,none⟩ (.int .i64 ((q.k+1:Nat):Int))):=by
 refine⟨⟨?_,h.fl.other (fun e=>h.bm e) _,h.rows.set h.box (by decide),h.nb,h.nm⟩,⟨(Zc W b 6 _).mono fun k _ e=>.inl e,fun k hk _=>.inr (.inr hk),fun _ _=>rfl⟩⟩
 have:=h.box.put 6 (.int .i64 ((q.k+1:Nat):Int))
 simpa using this
def ZaF (g:Gr) (lim:Int) (q:QSt):Option Int×QSt:=
 if q.k=(ZaH g lim q).small.length then(none,Zma g lim q) else(some ((ZaH g lim q).small.getD q.k 0),{Zma g lim q with k:=q.k+1})
theorem ZsT (W:World) (b mb base B:Nat) (g:Gr) (vn vr:Value) (hs:List (Value×Value)) (lim:Int) (V:Int→Value) (q:QSt) (h:Qp W b mb base vn vr lim g.nd.length V q.s.met q) (hr:RdG W B g vn vr hs) (hB:B≤base) (hbase:base≤W.heap.size) (ok:Okq g q) (hn:g.nd.length≤1000000) (hk:q.k≤q.s.small.length):
 Calls Tryz.prog 117 #[.pointer (some ⟨b,0,none⟩)] W fun e w'=> ∃V',e=.returned (.tuple #[.int .i64 ((ZaF g lim q).1.getD 0),.bool (ZaF g lim q).1.isSome])∧
  Qp w' b mb base vn vr lim g.nd.length V' (ZaF g lim q).2.s.met (ZaF g lim q).2∧Stp b mb V V' W w':=by
 have HM:=ZZ (Zn9 W b mb base B g vn vr hs lim V q h hr hB hbase ok hn);obtain⟨HX1,HX2⟩:=look_ok (lim:=lim) ok;have HNL:=ZZ (show q.k≤(ZaH g lim q).small.length from Yi hk HX2.sm.length_le);have HNR:=ZZ (show(ZaH g lim q).small.length≤1000000 by have:=HX1.room;rw[ZaY] at this;omega)
 obtain⟨R,hR⟩: ∃R,R=ZaF g lim q:=⟨_,rfl⟩
 have HR:=ZZ hR;rw[← hR];clear hR HX1 HX2 h hr hB hbase ok hn hk
 go_enter Tryz.func117,Tryz.ntmps117
 go_wp2_with fail
 go_at_call 151;refine HM.out.mono ?_;rintro e w1 ⟨V1,A1,k1,rfl,hv1,Q1,S1⟩;have HQ1:=ZZ Q1;have HS1:=ZZ S1
 obtain⟨n1,hn1⟩: ∃n,n=(ZaH g lim q).small.length:=⟨_,rfl⟩
 have HN1:=ZZ hn1;rw[← hn1] at hv1 HNL HNR
 obtain⟨kk,hkk⟩: ∃n,n=q.k:=⟨_,rfl⟩
 have HKK:=ZZ hkk;have c4:=Q1.cell Zik;rw[hv1] at c4
 have c6:w1.cell? ⟨b,6,none⟩=some (.int .i64 (kk:Int)):=by rw[hkk];exact Q1.box.cell 6
 have how:=Q1.rows.own (-1);rw[hv1] at how;have hrow:Zn (Zma g lim q) (-1)=(ZaH g lim q).small:=rfl;rw[hrow, ← hn1] at how;obtain⟨-, -, -,hk1,hm1⟩:=how.form;rw[← hkk] at HNL;have hnl:=HNL.out;have hnr:=HNR.out;have HOW:=ZZ how;clear Q1 S1 hn1 hkk hrow how HNL HNR hv1;by_cases hkn:kk=n1
 · subst hkn
   have HF:=ZZ (HR.out.trans (show ZaF g lim q=(none,Zma g lim q) by unfold ZaF;rw[if_pos (HKK.out.symm.trans HN1.out)]));go_wp2
   go_quiet (fail)
   go_wp2;go_ret2;refine⟨V1,?_,?_,HS1.out.more ((Only.refl nob _).drewN _)⟩
   · rw[HF.out];rfl
   · rw[HF.out];exact HQ1.out.kept ((Only.refl nob _).drewN _)
 · have hkq:((kk:Int)==(n1:Int))=false:=by
    have: ¬((kk:Int)=n1):=by omega
    simpa using this
   have hlt:kk<n1:=by omega
   obtain⟨z,hz⟩: ∃z,(ZaH g lim q).small[kk]? =some z:=⟨_,Ya (by rw[← HN1.out];exact hlt)⟩
   have HF:=ZZ (HR.out.trans (show ZaF g lim q=(some z,{Zma g lim q with k:=q.k+1}) by
    unfold ZaF
    rw[if_neg (by rw[← HKK.out, ← HN1.out];exact hkn), ← HKK.out,Yn,hz];rfl))
   obtain⟨g4,o4,cur4,rfl, -, -,hc4⟩:=HOW.out.at_ (by omega);have hz4:w1.cell? ⟨g4,o4+kk,none⟩=some (.int .i64 z):=hc4 kk _ (ZeG hz)
   have hws:IntKind.i64.wrap ((kk:Int)+1)=((kk+1:Nat):Int):=by rw[IntWalk.i64_in _ (by omega)];omega
   clear hc4 hz hkn;go_wp2
   go_quiet (fail)
   have O2:=ZZ ((Only.refl nob w1).drewN nq);generalize w1.drewN nq=w2 at O2 ⊢;have HQ2:=ZZ (HQ1.out.kept O2.out);have HS2:=ZZ (HS1.out.more O2.out);have d4:=O2.out.keeps c4;have d6:=O2.out.keeps c6;have f6:=HQ2.out.box.free 6;have hz5:=O2.out.keeps hz4;obtain⟨Q3,S3⟩:=HQ2.out.bump;rw[show(Zma g lim q).k+1=kk+1 from by rw[HKK.out];rfl] at Q3 S3
   obtain⟨m,hm⟩: ∃m,m=kk+1:=⟨_,rfl⟩
   have hmk:kk<m:=by omega
   have hmn:m≤n1:=by omega
   have hws2:IntKind.i64.wrap ((m:Int) - 1)=(kk:Int):=by rw[IntWalk.i64_in _ (by omega)];omega
   rw[← hm] at Q3 S3 hws
   obtain⟨W3,hW3⟩: ∃X,w2.setCell ⟨b,6,none⟩ (.int .i64 (m:Int))=X:=⟨_,rfl⟩
   rw[hW3] at Q3 S3;have HW3:=ZZ hW3;have HQ3:=ZZ Q3;have HS3:=ZZ (HS2.out.trans S3);have HM:=ZZ (hm.trans (congrArg (· +1) HKK.out))
   have e4:W3.cell? ⟨b,4,none⟩=some (.slice (some ⟨g4,o4,none⟩) n1 k1):=by
    have h1:=Q3.cell Zik;have h2:=HQ2.out.cell Zik;rw[d4] at h2;rw[h1, ← h2]
   have e6:W3.cell? ⟨b,6,none⟩=some (.int .i64 (m:Int)):=by
    rw[← hW3];exact(HQ2.out.box.put 6 (.int .i64 (m:Int))).cell 6
   have hz6:W3.cell? ⟨g4,o4+kk,none⟩=some (.int .i64 z):=by
    rw[← hW3]
    have hne:g4≠b:=fun e=>by
     have:=HOW.out.ne HQ1.out.box (by decide)
     rw[e] at this;exact this rfl
    rw[(Zc w2 b 6 _).cell (World.block_lt_of_cell? w2 _ hz5) hne];exact hz5
   clear hW3 Q3 S3 hm c4 c6 hz4
   go_upto_region 5 with fail
   with_reducible rw[HW3.out]
   clear d4 d6 f6 hz5
   go_quiet (fail)
   go_wp2;go_ret2;refine⟨V1,?_,?_,HS3.out.more ((Only.refl nob _).drewN _)⟩
   · rw[HF.out];rfl
   · rw[HF.out];exact(HQ3.out.kept ((Only.refl nob _).drewN _)).says rfl HM.out.symm
theorem ZmY (W:World) (b mb base:Nat) (n:Nat) (vn vr:Value) (lim:Int) (V:Int→Value) (q:QSt) (h:Qp W b mb base vn vr lim n V q.s.met q):
 Calls Tryz.prog 150 #[.pointer (some ⟨b,0,none⟩)] W fun e w'=> ∃V',e=.returned (.tuple #[.int .i64 (q.s.pile.getLast?.getD 0),.bool q.s.pile.getLast?.isSome])∧
  Qp w' b mb base vn vr lim n V' q.s.met {q with s:={q.s with pile:=q.s.pile.dropLast}}∧Stp b mb V V' W w':=by
 obtain⟨A1,k1,hv1,hk1,hm1⟩:=(h.rows.own (-3)).form;have c7:=h.cell Zqx;rw[hv1] at c7;have hr:Zn q (-3)=q.s.pile:=rfl;rw[hr] at c7 hk1 hv1
 rcases List.eq_nil_or_concat q.s.pile with hp|⟨P,x,hp⟩
 · have HQ:=ZZ h
   have HP:=ZZ hp;rw[hp] at c7;simp only[List.length_nil] at c7;clear hv1 hk1 hm1 h hp hr
   go_enter Tryz.func150,Tryz.ntmps150
   go_wp2;go_ret2;refine⟨V,by rw[HP.out];rfl,?_,Stp.refl _ _ _ _⟩
   have:q.s.pile.dropLast=q.s.pile:=by rw[HP.out];rfl
   rw[this];exact HQ.out
 · rw[List.concat_eq_append] at hp
   obtain⟨n1,hn1⟩: ∃m,m=P.length:=⟨_,rfl⟩
   have how:=h.rows.own (-3);rw[hv1,hr,hp,Zy] at how;rw[hp] at c7 hk1 hv1;simp only[Ys,List.length_cons,List.length_nil,Nat.zero_add] at how c7 hk1 hv1;rw[← hn1] at how c7 hk1 hv1;obtain⟨g8,o8,cur8,rfl, -, -,hc8⟩:=how.at_ (by omega);have hx8:W.cell? ⟨g8,o8+n1,none⟩=some (.int .i64 x):=hc8 n1 _ (by rw[List.getElem?_append_right (by simp[Zgp,hn1])];simp[i64s,hn1]);obtain⟨hi1,hi2⟩:=how.init;have HT:=ZZ (ZfL W b 7 _ _ g8 o8 n1 k1 x h.box (by rw[hv1];rfl) (by omega) hm1 hx8);obtain⟨Q1,S1⟩:=h.cut (q':={q with s:={q.s with pile:=P}}) Zqx (l:=P) (by rw[← hn1];exact hi1) (fun k e=>by rw[hv1];exact hi2 k e) (Zss q P) rfl;have HQ1:=ZZ Q1;have HS1:=ZZ S1;have HP:=ZZ hp;clear hc8 hx8 hi1 hi2 how hv1 hk1 hm1 hr Q1 S1 h hp hn1
   go_enter Tryz.func150,Tryz.ntmps150
   go_wp2_with fail
   go_at_call 152;refine HT.out.mono ?_;rintro e w1 ⟨rfl,hw1⟩
   with_reducible rw[hw1]
   clear c7;go_wp2;go_ret2;refine⟨_,by rw[HP.out];simp,?_,HS1.out⟩;rw[HP.out,List.dropLast_concat];exact HQ1.out
end
end Go.Proofs.YtknoncenblehkaaGreatDoor
