/- Package reach's tiers in memory: a map of rows; what waits i The program's runs are the document's plans: what is looked -/
import Derived.Test.YteieocddfnlmdaaGreatDoorQ33
import Derived.Carry
set_option maxRecDepth 100000
set_option maxHeartbeats 32000000
set_option linter.unusedSimpArgs false
set_option linter.unusedVariables false
namespace Go.Proofs.YteieocddfnlmdaaGreatDoor
section
open Go.RowKit Go.Maps Go.ChangeMaps Go.Lib
def ZvL:Value:=.slice none 0 0
section
variable {w w':World} {mp n:Nat} {V V':Int→Value} {F:Nat→Prop}
end
section
variable {W w1 w' w'':World} {b mb tb mp base:Nat} {vn vr:Value} {lim blk:Int} {n:Nat} {V V' V'':Int→Value} {M:List Int} {q q':QSt} {F:Nat→Prop}
end
end
section
open Go.RowKit Go.Maps Go.ChangeMaps Go.Lib
section
variable {W w1 w' w2:World} {b mb tb mp base:Nat} {vn vr:Value} {lim blk:Int} {n:Nat} {V:Int→Value} {M:List Int} {q:QSt}
end
theorem ZpG (z:Int):IntKind.i64.wrap z=wrap64 z:=by rw[IntKind.wrap_i64];unfold wrap64;omega
end
section
open Go.RowKit Go.Maps Go.ChangeMaps Go.Lib
end
section
open Go.RowKit
def q0:QSt:=⟨.none,[],0,fun _=>[],[],0,0,0⟩
theorem Zej {g:Gr} {lim:Int}: ∀(l:List Sp) (s:PSt),lookW g lim (Zh1 (refsOf l)) s=lookW g lim l s
 |[],s=>rfl
 |(a,x)::l,s=>by
  by_cases h:a=2
  · subst h
    have:Zh1 (refsOf ((2,x)::l))=(2,x)::Zh1 (refsOf l):=by simp[Zh1,refsOf]
    rw[this];exact Zej l _
  · have:Zh1 (refsOf ((a,x)::l))=Zh1 (refsOf l):=by simp[Zh1,refsOf,h]
    rw[this,Zej l s]
    have hn:ZY (a,x) s=false:=by unfold ZY;simp[h]
    show _=lookW g lim l (Zv g lim (a,x) s);rw[show Zv g lim (a,x) s=s by unfold Zv;rw[hn];exact if_neg (by simp)]
theorem Zrt {g:Gr} {l:List Sp} (h:Okl g l): ∀x∈refsOf l,(0≤x∧x<(g.nd.length:Int))∧Rch g x:=by
 intro x hx;unfold refsOf at hx;obtain⟨v,hv,rfl⟩:=List.mem_map.1 hx;obtain⟨h1,h2⟩:=List.mem_filter.1 hv;exact h v h1 (by simpa using h2)
theorem Zd7 {g:Gr} {lim:Int} {q:QSt} (h:q.ah=[]) (l:List Sp):Zbf g lim (Z7 q l)=lookW g lim l q.s:=by
 unfold Zbf Z7 Zbp;simp only[h,List.append_nil];exact Zej l _
theorem Zf1 {g:Gr} {q:QSt} (h:q.ah=[]) (hw:Wf g q.s) {l:List Sp} (hl:Okl g l):Okq g (Z7 q l):=
 ⟨hw,fun x hx=>Zrt hl x (by simpa[Z7,Zbp,h] using hx)⟩
theorem Zlc {g:Gr} (hg:Z9 g=true) {x:Int} (hx:0≤x∧x<(g.nd.length:Int)):(ZbB g x).length≤4096:=by
 have hlt:x.toNat<g.nd.length:=by omega
 have hm:ZbC g x∈g.nd:=by
  unfold ZbC;rw[Yn,Ya hlt];exact List.getElem_mem hlt
 exact(Zb6.1 ((Zb9.1 hg).1 _ hm)).2.1
structure SimN (g:Gr) (lim order blk:Int) (nx:QSt→Option Int×QSt) (G:QSt→Prop):Prop where
 ok: ∀q,G q→Okq g q
 none: ∀q,G q→ZcH order blk (Zbf g lim q)=none→(nx q).1=none∧(nx q).2.s=Zbf g lim q∧(nx q).2.ah=[]∧ ∀l,Okl g l→G (Z7 (ZpV (nx q).2) l)
 some: ∀q i,G q→ZcH order blk (Zbf g lim q)=some i→(nx q).1=some ((Zbf g lim q).small.getD i 0)∧(nx q).2.s=(Zbf g lim q).mark i∧(nx q).2.ah=[]∧ ∀l,Okl g l→G (Z7 (nx q).2 l)
theorem Zln {g:Gr} {lim order blk:Int} {nx:QSt→Option Int×QSt} {G:QSt→Prop} (S:SimN g lim order blk nx G) {q:QSt} (h:G q) (e:ZaY g lim order blk (Zbf g lim q)=none): ∃m e,RunQ g nx G m q e∧e.s=Zbf g lim q:=by
 unfold ZaY at e
 cases hn:ZcH order blk (Zbf g lim q) with
 |some i=>rw[hn] at e;cases e
 |none=>
  rw[hn] at e
  cases hp:(Zbf g lim q).pile.getLast? with
  |some k=>rw[hp] at e;cases e
  |none=>
   obtain⟨h1,h2,h3, -⟩:=S.none q h hn;refine⟨0,_,RunQ.stop h h1 (by rw[h2];exact hp),?_⟩;have hnil:=List.getLast?_eq_none_iff.1 hp;unfold ZpV;simp only[h2];rw[hnil];show({Zbf g lim q with pile:=[]}:PSt)=_;rw[← hnil]
theorem Zje {g:Gr} {lim order blk:Int} {nx:QSt→Option Int×QSt} {G:QSt→Prop} (hg:Z9 g=true) (ho:order≠1) (S:SimN g lim order blk nx G): ∀(n:Nat) (q:QSt),G q→ZaY g lim order blk (Zhp g lim order blk n (Zbf g lim q))=none→
 ∃m e,RunQ g nx G m q e∧e.s=Zhp g lim order blk n (Zbf g lim q)
 |0,q,h,e=>Zln S h e
 |n+1,q,h,e=>by
  have hW:=(look_ok (lim:=lim) (S.ok q h)).1;rw[Zhp] at e ⊢
  cases hs:ZaY g lim order blk (Zbf g lim q) with
  |none=>rw[hs] at e;exact Zln S h hs
  |some s'=>
   rw[hs] at e;simp only at e ⊢;unfold ZaY at hs
   have hlook: ∀l s,ZS g lim order l s=lookW g lim l s:=fun l s=>by unfold ZS;exact if_neg ho
   cases hn:ZcH order blk (Zbf g lim q) with
   |some i=>
    rw[hn] at hs;simp only[hlook] at hs;obtain⟨h1,h2,h3,h4⟩:=S.some q i h hn;have hlt:=(Zga hn).1
    have hmem:(Zbf g lim q).small.getD i 0∈(Zbf g lim q).met:=by
     rw[Yn,Ya hlt];exact Yr.2 (.inl (List.getElem_mem hlt))
    have hr:=hW.rng _ hmem
    have hall:Zbf g lim (Z7 (nx q).2 (ZbB g ((Zbf g lim q).small.getD i 0)))=s':=by
     rw[Zd7 h3,h2];exact Yp hs
    obtain⟨m,e',hrun,he⟩:=Zje hg ho S n (Z7 (nx q).2 (ZbB g ((Zbf g lim q).small.getD i 0))) (h4 _ (Zg7 hg (hW.rch _ hmem) hr)) (by rw[hall];exact e);rw[hall] at he;exact⟨m+1,e',RunQ.small h h1 hr (by rw[h3];exact Yi (Nat.add_le_add_right (Zlc hg hr) _) (by simp)) hrun,he⟩
   |none=>
    rw[hn] at hs;simp only[hlook] at hs
    cases hp:(Zbf g lim q).pile.getLast? with
    |none=>rw[hp] at hs;cases hs
    |some k=>
     rw[hp] at hs;obtain⟨h1,h2,h3,h4⟩:=S.none q h hn;have hkp:k∈(Zbf g lim q).pile:=List.mem_of_getLast? hp;have hmem:k∈(Zbf g lim q).met:=Yr.2 (.inr (hW.pl _ hkp));have hr:=hW.rng _ hmem
     have hall:Zbf g lim (Z7 (ZpV (nx q).2) (ZbB g k))=s':=by
      rw[Zd7 (q:=ZpV (nx q).2) h3];unfold ZpV;simp only[h2];exact Yp hs
     obtain⟨m,e',hrun,he⟩:=Zje hg ho S n (Z7 (ZpV (nx q).2) (ZbB g k)) (h4 _ (Zg7 hg (hW.rch _ hmem) hr)) (by rw[hall];exact e);rw[hall] at he;refine⟨m+1,e',RunQ.large h h1 (by rw[h2];exact hp) hr ?_ hrun,he⟩;show(ZbB g k).length+(nx q).2.ah.length≤_;rw[h3];exact Yi (Nat.add_le_add_right (Zlc hg hr) _) (by simp)
theorem ZqK {g:Gr} {lim order blk:Int} {nx:QSt→Option Int×QSt} {G:QSt→Prop} (hg:Z9 g=true) (ho:order≠1) (S:SimN g lim order blk nx G) (h0:G (Z7 q0 g.rt)):
 ∃m e,RunQ g nx G m (Z7 q0 g.rt) e∧e.s=ZbZ g lim order blk:=by
 have hall:Zbf g lim (Z7 q0 g.rt)=ZS g lim order g.rt .none:=by
  rw[Zd7 (q:=q0) rfl];unfold ZS;rw[if_neg ho];rfl
 obtain⟨h1,h2⟩:=ZdU lim order hg;obtain⟨w,c,e⟩:=ZiH (block:=blk) hg (g.nd.length+1) _ h1 h2 (by omega);obtain⟨m,e',hrun,he⟩:=Zje hg ho S (g.nd.length+1) _ h0 (by rw[hall];exact e);rw[hall] at he;exact⟨m,e',hrun,he⟩
def nxB (g:Gr) (lim:Int) (q:QSt):Option Int×QSt:=
 match Zbg g lim q with
 |(some i,q')=>(some i,{q' with s:=q'.s.mark q.k})
 |(none,q')=>(none,q')
structure LkB (k:Nat) (s:PSt):Prop where
 le:k≤s.small.length
 lk: ∀i,i<s.small.length→s.looked.getD i true=decide (i<k)
structure GB (g:Gr) (q:QSt):Prop where
 ok:Okq g q
 lk:LkB q.k q.s
theorem ZlA {g:Gr} {lim:Int} {q:QSt} (h:GB g q):LkB q.k (Zbf g lim q):=by
 have hl:Okl g (Zh1 q.ah):=fun v hv h2=>by
  unfold Zh1 at hv;obtain⟨x,hx,rfl⟩:=List.mem_map.1 hv;exact h.ok.ah x hx
 obtain⟨w,x, -,hn⟩:=ZdH (lim:=lim) (Zh1 q.ah) q.s h.ok.wf hl;refine⟨Yi h.lk.le x.sm.length_le,fun i hi=>?_⟩;rcases Yq i q.s.small.length with h'|h'
 · have hlt:i<q.s.looked.length:=by rw[h.ok.wf.lk];exact h'
   have e1:q.s.looked[i]? =some q.s.looked[i]:=Ya hlt;have e2:=h.lk.lk i h';rw[Yn,e1] at e2;rw[Yn];unfold Zbf;rw[Zfv x.lk e1];exact e2
 · have hlt:i<(lookW g lim (Zh1 q.ah) q.s).looked.length:=by rw[w.lk];exact hi
   have h3:=hn i h';rw[Yn];unfold Zbf;rw[Ya hlt] at h3 ⊢;have hk:=h.lk.le;rw[Yl (by omega)]
   cases hh:(lookW g lim (Zh1 q.ah) q.s).looked[i] with
   |true=>rw[hh] at h3;exact absurd rfl h3
   |false=>rfl
theorem Zoz {k:Nat} {s:PSt} (h:LkB k s):Za9 (fun _=>true) s=if k<s.small.length then some k else none:=by
 unfold Za9;by_cases hk:k<s.small.length
 · rw[if_pos hk,List.find?_range_eq_some]
   refine⟨by rw[h.lk k hk];simp,List.mem_range.2 hk,fun j hj=>?_⟩;rw[h.lk j (by omega)];simp[hj]
 · rw[if_neg hk,List.find?_eq_none]
   intro j hj
   have:=List.mem_range.1 hj
   rw[h.lk j this];simp;omega
theorem LkB.mark {k:Nat} {s:PSt} (h:LkB k s) (hk:k<s.small.length) (hl:s.looked.length=s.small.length):LkB (k+1) (s.mark k):=by
 refine⟨hk,fun i hi=>?_⟩;show(s.looked.set k true).getD i true=_;have h1:=h.lk i hi;rw[Yn] at h1 ⊢;by_cases hik:k=i
 · subst hik
   rw[List.getElem?_set_self (by omega)];simp
 · rw[List.getElem?_set_ne hik,h1]
   exact decide_eq_decide.2 (by omega)
theorem Zj5 {g:Gr} (lim blk:Int):SimN g lim 0 blk (nxB g lim) (GB g):=by
 have hnext: ∀s,ZcH 0 blk s=Za9 (fun _=>true) s:=fun s=>by unfold ZcH;rw[if_neg (by simp)]
 refine⟨fun q h=>h.ok,fun q h hn=>?_,fun q i h hn=>?_⟩
 · have hl:=ZlA (lim:=lim) h
   have hW:=(look_ok (lim:=lim) h.ok).1;rw[hnext,Zoz hl] at hn
   have hk: ¬q.k<(Zbf g lim q).small.length:=fun hk=>by rw[if_pos hk] at hn;cases hn
   have hfq:Zbg g lim q=(none,Zm8 g lim q):=by unfold Zbg;rw[if_pos (by have:=hl.le;omega)]
   have hnx:nxB g lim q=(none,Zm8 g lim q):=by unfold nxB;rw[hfq]
   rw[hnx];refine⟨rfl,rfl,rfl,fun l hol=>⟨Zf1 rfl ?_ hol,?_⟩⟩
   · exact⟨hW.nodup,hW.rng,hW.rch,hW.lk,hW.bg,fun x hx=>hW.pl x (List.dropLast_subset _ hx),hW.pn.sublist (List.dropLast_sublist _)⟩
   · exact⟨hl.le,hl.lk⟩
 · have hl:=ZlA (lim:=lim) h
   have hW:=(look_ok (lim:=lim) h.ok).1;rw[hnext,Zoz hl] at hn
   have hk:q.k<(Zbf g lim q).small.length:=by
    refine Classical.byContradiction fun hk=>?_;rw[if_neg hk] at hn;cases hn
   rw[if_pos hk] at hn;obtain rfl:=Yp hn
   have hfq:Zbg g lim q=(some ((Zbf g lim q).small.getD q.k 0),{Zm8 g lim q with k:=q.k+1}):=by unfold Zbg;rw[if_neg (by omega)]
   have hnx:nxB g lim q=(some ((Zbf g lim q).small.getD q.k 0),{Zm8 g lim q with k:=q.k+1,s:=(Zbf g lim q).mark q.k}):=by unfold nxB;rw[hfq];rfl
   rw[hnx];exact⟨rfl,rfl,rfl,fun l hol=>⟨Zf1 rfl (hW.mark _) hol,hl.mark hk hW.lk⟩⟩
theorem ZqC {g:Gr} (hg:Z9 g=true):GB g (Z7 q0 g.rt):=⟨Zf1 (q:=q0) rfl (Zhf g) (Zqu hg),⟨Yj _,fun i hi=>absurd hi (Nat.not_lt_zero i)⟩⟩
theorem Zkf {g:Gr} (lim blk:Int) (hg:Z9 g=true): ∃m e,RunQ g (nxB g lim) (GB g) m (Z7 q0 g.rt) e∧e.s=ZbZ g lim 0 blk:=
 ZqK hg (by decide) (Zj5 lim blk) (ZqC hg)
end
section
open Go.RowKit Go.Lib
section
variable {W w':World} {b mb tb mp base B:Nat} {g:Gr} {vn vr:Value} {hs:List (Value×Value)} {lim blk:Int}
def RB (b mb base B:Nat) (g:Gr) (vn vr:Value) (hs:List (Value×Value)) (lim:Int) (W:World) (q:QSt):Prop:=RdG W B g vn vr hs∧ ∃V,Qp W b mb base vn vr lim g.nd.length V q.s.met q
theorem Zn6 (h:RdG W B g vn vr hs) (hB:B≤base) (hb:base≤W.heap.size) (o:Only (geB base) W w'):RdG w' B g vn vr hs:=h.below (o.below (Yi hB hb) fun _ hk=>Yi hB hk)
theorem Stp.ge {V V':Int→Value} {M:List Int} {q:QSt} {n:Nat} (s:Stp b mb V V' W w') (h:Qp W b mb base vn vr lim n V M q):Only (geB base) W w':=s.only.mono fun k _ hk=>h.ge hk
theorem ZlW (hB:B≤base) (hN:g.nd.length≤1000000):RunC b base B g vn vr 119 ⟨b,0,none⟩ (nxB g lim) (GB g) (RB b mb base B g vn vr hs lim) where
 enters:=enters_of Tryz.func119 (by kernel_rfl) rfl
 next:=fun W q hb ⟨hr,V,h⟩ hG=>by
  refine(Zts W b mb base B g vn vr hs lim V q h hr hB hb hG.ok hN hG.lk.le).mono ?_;rintro e w' ⟨V',rfl,h',s'⟩;have o:=s'.ge h;refine⟨?_,⟨Zn6 hr hB hb o,V',?_⟩,o⟩
  · unfold nxB
    cases hf:Zbg g lim q with
    |mk o q'=>cases o <;> rfl
  · unfold nxB
    revert h'
    cases hf:Zbg g lim q with
    |mk o q'=>
     intro h'
     cases o with
     |none=>exact h'
     |some i=>exact h'.says rfl rfl
 off:=fun W q hb ⟨hr,V,h⟩=>by
  refine(ZpJ W b mb base _ vn vr lim V q h).mono ?_;rintro e w' ⟨V',rfl,h',s'⟩;have o:=s'.ge h;exact⟨rfl,⟨Zn6 hr hB hb o,V',h'⟩,o⟩
 fol:=fun W q A c l hb ⟨hr,V,h⟩ hl hn=>by
  refine(Zqj W b mb base _ vn vr lim V _ q A c B l h hl hB hb hn).mono ?_;rintro e w' ⟨V',rfl,h',s'⟩;have o:=s'.ge h;exact⟨rfl,⟨Zn6 hr hB hb o,V',h'⟩,o⟩
 cn:=fun W q ⟨_,V,h⟩=>⟨h.box.cell 0,h.box.cell 1⟩
end
def ZaZ (g:Gr) (lim order block:Int):Int:=if Z9 g=true then(if lim<1∨block<1∨(order≠0∧order≠1∧order≠2) then 1 else 0) else 4
def ZF (g:Gr) (lim order block:Int):List Int:=if ZaZ g lim order block=0 then(ZbZ g lim order block).small else[]
def ZJ (g:Gr) (lim order block:Int):List Int:=if ZaZ g lim order block=0 then(ZbZ g lim order block).large else[]
structure GrBd (g:Gr):Prop where
 nd:g.nd.length≤1000
 rt:g.rt.length≤1000
def Zum (f:FuncId):Prop:= ∀(g:Gr) (vn vr:Value) (hs:List (Value×Value)) (B:Nat) (W:World) (lim order block:Int),RdG W B g vn vr hs→B≤W.heap.size→GrFit g→GrBd g→block≤9223372036854775807→
 Calls Tryz.prog f #[.agg #[vn,vr],.int .i64 lim,.int .i64 order,.int .i64 block] W fun e w'=> ∃v1 v2,e=.returned (.tuple #[v1,v2,.int .i64 (ZaZ g lim order block)])∧
  OwR w' W.heap.size 3 v1 (ZF g lim order block).length (i64s (ZF g lim order block))∧OwR w' W.heap.size 3 v2 (ZJ g lim order block).length (i64s (ZJ g lim order block))∧Only nob W w'
theorem Zs7:ZA q0=fun _=>[]:=by
 funext i
 unfold ZA q0 PSt.none;simp
theorem Zre {W0 W1:World} {b mb base:Nat} {vn vr:Value} {lim:Int} {n:Nat} (hb:Blk W1 b 169 #[vn,vr,.int .i64 lim,.slice (some ⟨mb,0,none⟩) n n,.slice none 0 0,.slice none 0 0,.int .i64 0,.slice none 0 0,.slice none 0 0]) (hm:Blk W1 mb 4 (flQ n [])) (h1:base≤b) (h2:base≤mb):
 Qp W1 b mb base vn vr lim n (fun _=>ZvL) [] q0:=
 ⟨hb,hm,by rw[Zs7];exact⟨fun _=>OwR.nil_,fun i j k _ h=>by cases h⟩,h1,h2⟩
end
section
open Go.RowKit Go.Lib
theorem ZlP:(Tryz.prog.info? 4).map (fun i=>(i.zero,i.size,i.bytes))=some (some (.bool false),1,1):=by kernel_rfl
theorem ZqV (n:Nat) (hn:n≤1000000) (w:World):(Instr.makeSlice 167 (.int .i64 (n:Int)) (.int .i64 (n:Int))).run Tryz.prog w=.ok (.slice (some ⟨w.heap.size,0,none⟩) n n) (w.alloc (.cells (flQ n []) 4)):=by
 obtain⟨i0,hi0,hz0,hz1,hz2⟩:=info_parts ZlP;have h:=run_make (P:=Tryz.prog) w 167 4 i0 _ Tryz.underlying167 hi0 hz0 .i64 .i64 n n (by omega) (Int.le_refl _) (by rw[hz2];omega) (by omega);rw[h];simp only[Int.toNat_natCast,hz1,Nat.mul_one]
 have e:madeCells (Value.bool false).cells n=flQ n []:=by
  apply Array.ext';show(madeCells #[.bool false] n).toList=_;rw[toList_madeCells_one];apply List.ext_getElem?;intro j;simp[flQ,List.getElem?_replicate]
  split <;> simp_all
 rw[e]
theorem Zq1 {g:Gr} {lim order block:Int} {n:Int} (h:ZaZ g lim order block=n) (hn:n≠0):ZF g lim order block=[]∧ZJ g lim order block=[]:=by
 unfold ZF ZJ;rw[if_neg (by rw[h];exact hn),if_neg (by rw[h];exact hn)];exact⟨rfl,rfl⟩
def ZsH (f:FuncId):Prop:= ∀(g:Gr) (vn vr:Value) (hs:List (Value×Value)) (B:Nat) (W:World) (lim block:Int),RdG W B g vn vr hs→B≤W.heap.size→GrFit g→GrBd g→block≤9223372036854775807→
 Calls Tryz.prog f #[.agg #[vn,vr],.int .i64 lim,.int .i64 0,.int .i64 block] W fun e w'=> ∃v1 v2,e=.returned (.tuple #[v1,v2,.int .i64 (ZaZ g lim 0 block)])∧
  OwR w' W.heap.size 3 v1 (ZF g lim 0 block).length (i64s (ZF g lim 0 block))∧OwR w' W.heap.size 3 v2 (ZJ g lim 0 block).length (i64s (ZJ g lim 0 block))∧Only nob W w'
theorem Zeo:ZsH 78:=by
 intro g vn vr hs B W lim block hr hB hfit hbd hblkm;obtain⟨An,cn,rfl,hacn,hcmn⟩:=hr.nodes.form;obtain⟨Ar,cr,rfl,hacr,hcmr⟩:=hr.roots.form
 obtain⟨W1,hW1,o1,b1⟩: ∃X,W.alloc (.cells #[.slice An g.nd.length cn,.slice Ar g.rt.length cr] 34)=X∧Only nob W X∧Blk X W.heap.size 34 #[.slice An g.nd.length cn,.slice Ar g.rt.length cr]:=⟨_,rfl,(Only.refl nob W).alloc _,Blk.new _ _ _⟩
 have HW1:=ZZ hW1;have O1:=ZZ o1;have B1:=ZZ b1;have HG:=ZZ hr;have HBW:=ZZ hB;have HBD:=ZZ hbd;have HRT:=ZZ (fun (W':World) (o:Only nob W W')=>ZfO g _ _ hs B W' (hr.only o hB) (Yi hB o.size) hfit);have c0:W1.cell? ⟨W.heap.size,0,none⟩=some (.slice An g.nd.length cn):=b1.cell 0;have c1:W1.cell? ⟨W.heap.size,1,none⟩=some (.slice Ar g.rt.length cr):=b1.cell 1
 obtain⟨E,hE⟩: ∃E,E=ZaZ g lim 0 block:=⟨_,rfl⟩
 have HE:=ZZ hE;rw[← hE]
 obtain⟨gk,hgk⟩: ∃k,k=Z9 g:=⟨_,rfl⟩
 have HGK:=ZZ hgk;rw[← hgk] at HRT;unfold maxLen at hcmn;clear hW1 o1 b1 hr hB hfit hbd hE hgk
 have go: ∀(E':Int),E=E'→E'≠0→ ∀w',Only nob W w'→ ∃v1 v2,Ending.returned (.tuple #[.slice none 0 0,.slice none 0 0,.int .i64 E'])=.returned (.tuple #[v1,v2,.int .i64 E])∧
  OwR w' W.heap.size 3 v1 (ZF g lim 0 block).length (i64s (ZF g lim 0 block))∧OwR w' W.heap.size 3 v2 (ZJ g lim 0 block).length (i64s (ZJ g lim 0 block))∧Only nob W w':=fun E' h1 h2 w' o=>by
  obtain⟨p1,p2⟩:=Zq1 (HE.out.symm.trans h1) h2;refine⟨_,_,by rw[h1],?_,?_,o⟩
  · rw[p1];exact OwR.nil_
  · rw[p2];exact OwR.nil_
 have GO:=ZZ go;clear go
 go_enter Tryz.func78,Tryz.ntmps78
 go_upto_region 1 with fail
 rw[HW1.out]
 go_wp2_with fail
 go_at_call 20;refine(HRT.out W1 O1.out).mono ?_;rintro e w2 ⟨rfl,o2⟩;have O2:=ZZ (O1.out.trans o2);have B2:=ZZ (B1.out.keep o2 id);have d0:=o2.keeps c0;have d1:=o2.keeps c1;clear c0 c1 o2
 cases gk with
 |false=>
  have HF:=ZZ (show E=4 by rw[HE.out];unfold ZaZ;rw[if_neg (by rw[← HGK.out];simp)]);clear d0 d1;go_wp2
  go_ret3
  exact GO.out 4 HF.out (by decide) _ O2.out
 |true=>
  by_cases hlb:lim<1∨block<1
  · have HF:=ZZ (show E=1 by
     rw[HE.out];unfold ZaZ;rw[if_pos HGK.out.symm,if_pos (by rcases hlb with h|h;exact .inl h;exact .inr (.inl h))])
    clear d0 d1;by_cases hl1:lim<1
    · clear hlb
      go_wp2
      go_ret3
      exact GO.out 1 HF.out (by decide) _ O2.out
    · have hb1:block<1:=hlb.resolve_left hl1
      clear hlb;go_wp2
      go_ret3
      exact GO.out 1 HF.out (by decide) _ O2.out
  · have hl1: ¬lim<1:=fun h=>hlb (.inl h)
    have hb1: ¬block<1:=fun h=>hlb (.inr h);have HLB:=ZZ hlb;clear hlb
    go_upto_region 5 with fail
    refine ZaC (stop:=8) (S:=fun w':World=>w'.cell? ⟨W.heap.size,0,none⟩=some (.slice An g.nd.length cn)∧w'.cell? ⟨W.heap.size,1,none⟩=some (.slice Ar g.rt.length cr)) (by kernel_rfl) ⟨d0,d1⟩ (fun hHeld=>?_);clear d0 d1
    obtain⟨WD,hWD,oD⟩: ∃X,w2.drew=X∧Only nob w2 X:=⟨_,rfl,(Only.refl nob w2).drewN 1⟩
    rw[hWD] at hHeld ⊢;have OD:=ZZ (O2.out.trans oD);clear hWD oD;refine Zc (i:=0) (v:=?_) rfl (by kernel_rfl) (by kernel_rfl) (by kernel_rfl) (by kernel_rfl) (fun _ _ _ h=>h) (Or.inl ⟨by rfl,?_⟩) hHeld ?_;rotate_left
    · intro w hSw;(try dsimp only at hSw);go_simp;first|done|with_reducible rfl
    try simp only[Act.put,Yb,Yd,Yc,Yh,Yf,Yg]
    refine Zc (i:=1) (v:=?_) rfl (by kernel_rfl) (by kernel_rfl) (by kernel_rfl) (by kernel_rfl) (fun _ _ _ h=>h) (Or.inl ⟨by rfl,?_⟩) hHeld ?_;rotate_left
    · intro w hSw;(try dsimp only at hSw);go_simp;first|done|with_reducible rfl
    try simp only[Act.put,Yb,Yd,Yc,Yh,Yf,Yg]
    refine Zc (i:=2) (v:=?_) rfl (by kernel_rfl) (by kernel_rfl) (by kernel_rfl) (by kernel_rfl) (fun _ _ _ h=>h) (Or.inl ⟨by rfl,?_⟩) hHeld ?_;rotate_left
    · intro w hSw;(try dsimp only at hSw);go_simp;first|done|with_reducible rfl
    try simp only[Act.put,Yb,Yd,Yc,Yh,Yf,Yg]
    refine Zc (i:=3) (v:=?_) rfl (by kernel_rfl) (by kernel_rfl) (by kernel_rfl) (by kernel_rfl) (fun _ _ _ h=>h) (Or.inl ⟨by rfl,?_⟩) hHeld ?_;rotate_left
    · intro w hSw;(try dsimp only at hSw);go_simp;first|done|with_reducible rfl
    try simp only[Act.put,Yb,Yd,Yc,Yh,Yf,Yg]
    refine Zc (i:=4) (v:=?_) rfl (by kernel_rfl) (by kernel_rfl) (by kernel_rfl) (by kernel_rfl) (fun _ _ _ h=>h) (Or.inl ⟨by rfl,?_⟩) hHeld ?_;rotate_left
    · intro w hSw;(try dsimp only at hSw);go_simp;first|done|with_reducible rfl
    try simp only[Act.put,Yb,Yd,Yc,Yh,Yf,Yg]
    obtain⟨X2,hX2,oX2,bX2,sX2⟩: ∃X,WD.alloc (.cells (flQ g.nd.length []) 4)=X∧Only nob WD X∧Blk X WD.heap.size 4 (flQ g.nd.length [])∧X.heap.size=WD.heap.size+1:=⟨_,rfl,(Only.refl nob WD).alloc _,Blk.new _ _ _,by simp⟩
    have hmk:=ZqV g.nd.length (by have:=HBD.out.nd;omega) WD;rw[hX2] at hmk;have HOX2:=ZZ oX2;have OX2:=ZZ (OD.out.trans oX2);have BX2:=ZZ bX2;clear hX2 oX2 bX2 sX2;refine Zk (rs:=[5]) (by kernel_rfl) (by simp) ?_;refine(ZaI.cons rfl (fun K hK=>?_) ZaI.nil);go_simp;refine hK.out _ _ (fun _=>⟨HOX2.out.keeps hHeld.1,HOX2.out.keeps hHeld.2⟩) (fun hHeld2=>?_);clear hK K hHeld;have hHeld:=hHeld2 (by decide);clear hHeld2
    try simp only[Act.put,Yb,Yd,Yc,Yh,Yf,Yg]
    refine Zc (i:=6) (v:=?_) rfl (by kernel_rfl) (by kernel_rfl) (by kernel_rfl) (by kernel_rfl) (fun _ _ _ h=>h) (Or.inl ⟨by rfl,?_⟩) hHeld ?_;rotate_left
    · intro w hSw;(try dsimp only at hSw);go_simp;first|done|with_reducible rfl
    try simp only[Act.put,Yb,Yd,Yc,Yh,Yf,Yg]
    obtain⟨X3,hX3,oX3,bX3⟩: ∃X,X2.alloc (.cells #[.slice An g.nd.length cn,.slice Ar g.rt.length cr,.int .i64 lim,.slice (some ⟨WD.heap.size,0,none⟩) g.nd.length g.nd.length,.slice none 0 0,.slice none 0 0,.int .i64 0,.slice none 0 0,.slice none 0 0] 169)=X∧Only nob X2 X∧Blk X X2.heap.size 169 #[.slice An g.nd.length cn,.slice Ar g.rt.length cr,.int .i64 lim,.slice (some ⟨WD.heap.size,0,none⟩) g.nd.length g.nd.length,.slice none 0 0,.slice none 0 0,.int .i64 0,.slice none 0 0,.slice none 0 0]:=⟨_,rfl,(Only.refl nob X2).alloc _,Blk.new _ _ _⟩
    have HX3:=ZZ hX3;have HOX3:=ZZ oX3;have OX3:=ZZ (OX2.out.trans oX3);have HQ:=ZZ (Zre (W0:=W) (base:=W.heap.size) bX3 (BX2.out.keep oX3 id) OX2.out.size OD.out.size);have HG3:=ZZ (HG.out.only OX3.out HBW.out);clear hX3 oX3 bX3 hmk;refine Zk (rs:=[7]) (by kernel_rfl) (by simp) ?_;refine(ZaI.cons rfl (fun K hK=>?_) ZaI.nil);go_simp
    with_reducible rw[HX3.out]
    refine hK.out _ _ (fun _=>⟨HOX3.out.keeps hHeld.1,HOX3.out.keeps hHeld.2⟩) (fun hHeld2=>?_);clear hK K hHeld;have hHeld:=hHeld2 (by decide);clear hHeld2
    try simp only[Act.put,Yb,Yd,Yc,Yh,Yf,Yg]
    refine Zk (rs:=[8]) (by kernel_rfl) (by simp) ?_;refine(ZaI.cons rfl (fun K hK=>?_) ZaI.nil);go_simp;refine hK.out _ _ (fun h=>absurd rfl h) (fun hHeld2=>?_);clear hK K hHeld hHeld2
    try simp only[Act.put,Yb,Yd,Yc,Yh,Yf,Yg]
    refine ZbA (by kernel_rfl) ?_ _
    obtain⟨bp,hbp⟩: ∃b,b=X2.heap.size:=⟨_,rfl⟩
    obtain⟨mb,hmb⟩: ∃b,b=WD.heap.size:=⟨_,rfl⟩
    rw[← hbp, ← hmb] at HQ;rw[← hbp, ← hmb];clear hbp hmb BX2 HX3 HOX3 HOX2 OX2 OD;have HRB:=ZZ (show RB bp mb W.heap.size B g _ _ hs lim X3 q0 from⟨HG3.out,_,HQ.out⟩);have hgk:Z9 g=true:=HGK.out.symm;have HGO:=ZZ hgk;have hN1:=HBD.out.nd;have hR1:=HBD.out.rt
    have HF:=ZZ (show E=0 by
     rw[HE.out];unfold ZaZ;rw[if_pos HGO.out,if_neg (by rintro(h|h|h);omega;omega;exact h.1 rfl)])
    obtain⟨m,ee,hrun,hee⟩:=Zkf (g:=g) lim block hgk;have HEE:=ZZ hee;have HC:=ZZ (Zvy bp W.heap.size B g _ _ hs 119 ⟨bp,0,none⟩ _ _ _ (ZlW (mb:=mb) (hs:=hs) HBW.out (by omega)) HBW.out X3 q0 ee m HRB.out HG3.out OX3.out.size hrun (by show g.rt.length+0≤_;omega));clear hrun hee hN1 hR1 hgk
    go_wp2_with fail
    go_at_call 118;refine HC.out.mono ?_;rintro e w5 ⟨rfl,hRE,oE⟩;obtain⟨-,V,HQE0⟩:=hRE;have HQE:=ZZ HQE0;have HO:=ZZ (show Only nob W w5 from OX3.out.andThen oE fun i hi e=>by unfold geB at e;omega);obtain⟨A4,k4,hv4, -, -⟩:=(HQE0.rows.own (-1)).form;obtain⟨A5,k5,hv5, -, -⟩:=(HQE0.rows.own (-2)).form;have c4:w5.cell? ⟨bp,4,none⟩=some (V (-1)):=HQE0.cell Ziz;have c5:w5.cell? ⟨bp,5,none⟩=some (V (-2)):=HQE0.cell Ztx;have h4:=HQE0.rows.own (-1);have h5:=HQE0.rows.own (-2);rw[hv4] at c4 h4;rw[hv5] at c5 h5
    have hr4:ZA ee (-1)=ZF g lim 0 block:=by unfold ZF;rw[if_pos (HE.out.symm.trans HF.out)];show ee.s.small=_;rw[HEE.out]
    have hr5:ZA ee (-2)=ZJ g lim 0 block:=by unfold ZJ;rw[if_pos (HE.out.symm.trans HF.out)];show ee.s.large=_;rw[HEE.out]
    rw[hr4] at h4 c4;rw[hr5] at h5 c5;have H4:=ZZ h4;have H5:=ZZ h5;clear hv4 hv5 hr4 hr5 h4 h5 HQE0 oE;go_wp2
    go_quiet (fail)
    go_wp2
    go_ret3
    refine⟨_,_,by rw[HF.out];rfl,H4.out.only ((Only.refl nob w5).drewN _) fun _ _ h=>h,H5.out.only ((Only.refl nob w5).drewN _) fun _ _ h=>h,HO.out.trans ((Only.refl nob w5).drewN _)⟩
end
end Go.Proofs.YteieocddfnlmdaaGreatDoor
