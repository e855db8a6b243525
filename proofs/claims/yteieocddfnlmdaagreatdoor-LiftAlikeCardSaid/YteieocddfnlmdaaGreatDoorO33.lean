/- Package reach's tiers in memory: a map of rows; what waits i The program's runs are the document's plans: what is looked -/
import Derived.Test.YteieocddfnlmdaaGreatDoorO32
import Derived.Carry
set_option maxRecDepth 100000
set_option maxHeartbeats 32000000
set_option linter.unusedSimpArgs false
set_option linter.unusedVariables false
namespace Go.Proofs.YteieocddfnlmdaaGreatDoor
section
open Go.RowKit Go.Maps Go.ChangeMaps Go.Lib
def Zvh:Value:=.slice none 0 0
def ZtM (v:Value):Option (DataW Value×List MemPlace):=some (.held v,[])
def Zvs (z:Int):Prop:=0≤z∧z≤9223372036854775807
def Zvo (w:World) (mp n:Nat) (V:Int→Value):Prop:=
 ∃D:DataW Value,w.ownsMap Tryz.prog 3 ZtM mp n D∧ ∀p:Int,Zvs p→D.atKey (.int .i64 p) (.held Zvh)=.held (V p)
section
variable {w w':World} {mp n:Nat} {V V':Int→Value} {F:Nat→Prop}
theorem Zvo.new (w:World) (hV: ∀p,0≤p→V p=Zvh):Zvo (w.alloc (.map #[] 0)) w.heap.size 0 V:=
 ⟨_,World.ownsMap_made w _ _ _,fun p hp=>by rw[hV p hp.1];rfl⟩
end
def Tf (tb mp:Nat) (V:Int→Value) (k:Nat):Prop:=k=tb∨k=mp∨ZpA V k
structure Stt (tb mp:Nat) (V V':Int→Value) (W w':World):Prop where
 only:Only (Tf tb mp V) W w'
 grow: ∀k,ZpA V' k→k<W.heap.size→Tf tb mp V k
 same: ∀i,i<0→i≠ -5→V' i=V i
section
variable {W w1 w' w'':World} {b mb tb mp base:Nat} {vn vr:Value} {lim blk:Int} {n:Nat} {V V' V'':Int→Value} {M:List Int} {q q':QSt} {F:Nat→Prop}
theorem Stt.trans (h:Stt tb mp V V' W w') (k:Stt tb mp V' V'' w' w''):Stt tb mp V V'' W w'':=by
 have hq: ∀i,i<W.heap.size→Tf tb mp V' i→Tf tb mp V i:=fun i hi e=>by
  rcases e with e|e|e
  · exact .inl e
  · exact .inr (.inl e)
  · exact h.grow i e hi
 exact⟨h.only.andThen k.only hq,fun i hi hlt=>hq i hlt (k.grow i hi (Yw hlt h.only.size)),fun i hi h5=>(k.same i hi h5).trans (h.same i hi h5)⟩
end
end
section
open Go.RowKit Go.Maps Go.ChangeMaps Go.Lib
section
variable {W w1 w' w2:World} {b mb tb mp base:Nat} {vn vr:Value} {lim blk:Int} {n:Nat} {V:Int→Value} {M:List Int} {q:QSt}
end
theorem Zso (z:Int):IntKind.i64.wrap z=wrap64 z:=by rw[IntKind.wrap_i64];unfold wrap64;omega
end
section
open Go.RowKit Go.Maps Go.ChangeMaps Go.Lib
end
section
open Go.RowKit
def q0:QSt:=⟨.none,[],0,fun _=>[],[],0,0,0⟩
theorem ZdT {g:Gr} {lim:Int}: ∀(l:List Sp) (s:PSt),Za3 g lim (ZhU (refsOf l)) s=Za3 g lim l s
 |[],s=>rfl
 |(a,x)::l,s=>by
  by_cases h:a=2
  · subst h
    have:ZhU (refsOf ((2,x)::l))=(2,x)::ZhU (refsOf l):=by simp[ZhU,refsOf]
    rw[this];exact ZdT l _
  · have:ZhU (refsOf ((a,x)::l))=ZhU (refsOf l):=by simp[ZhU,refsOf,h]
    rw[this,ZdT l s]
    have hn:Z7 (a,x) s=false:=by unfold Z7;simp[h]
    show _=Za3 g lim l (ZO g lim (a,x) s);rw[show ZO g lim (a,x) s=s by unfold ZO;rw[hn];exact if_neg (by simp)]
theorem Zqs {g:Gr} {l:List Sp} (h:Okl g l): ∀x∈refsOf l,(0≤x∧x<(g.nd.length:Int))∧Rch g x:=by
 intro x hx;unfold refsOf at hx;obtain⟨v,hv,rfl⟩:=List.mem_map.1 hx;obtain⟨h1,h2⟩:=List.mem_filter.1 hv;exact h v h1 (by simpa using h2)
theorem Zd4 {g:Gr} {lim:Int} {q:QSt} (h:q.ah=[]) (l:List Sp):Zbd g lim (ZW q l)=Za3 g lim l q.s:=by
 unfold Zbd ZW Zbq;simp only[h,List.append_nil];exact ZdT l _
theorem ZfR {g:Gr} {q:QSt} (h:q.ah=[]) (hw:Wf g q.s) {l:List Sp} (hl:Okl g l):Okq g (ZW q l):=
 ⟨hw,fun x hx=>Zqs hl x (by simpa[ZW,Zbq,h] using hx)⟩
theorem ZkH {g:Gr} (hg:ZC g=true) {x:Int} (hx:0≤x∧x<(g.nd.length:Int)):(ZcW g x).length≤4096:=by
 have hlt:x.toNat<g.nd.length:=by omega
 have hm:Zax g x∈g.nd:=by
  unfold Zax;rw[Yn,Ya hlt];exact List.getElem_mem hlt
 exact(Zb9.1 ((ZbD.1 hg).1 _ hm)).2.1
structure SimN (g:Gr) (lim order blk:Int) (nx:QSt→Option Int×QSt) (G:QSt→Prop):Prop where
 ok: ∀q,G q→Okq g q
 none: ∀q,G q→Zcw order blk (Zbd g lim q)=none→(nx q).1=none∧(nx q).2.s=Zbd g lim q∧(nx q).2.ah=[]∧ ∀l,Okl g l→G (ZW (ZpB (nx q).2) l)
 some: ∀q i,G q→Zcw order blk (Zbd g lim q)=some i→(nx q).1=some ((Zbd g lim q).small.getD i 0)∧(nx q).2.s=(Zbd g lim q).mark i∧(nx q).2.ah=[]∧ ∀l,Okl g l→G (ZW (nx q).2 l)
theorem Zlp {g:Gr} {lim order blk:Int} {nx:QSt→Option Int×QSt} {G:QSt→Prop} (S:SimN g lim order blk nx G) {q:QSt} (h:G q) (e:Zbg g lim order blk (Zbd g lim q)=none): ∃m e,RunQ g nx G m q e∧e.s=Zbd g lim q:=by
 unfold Zbg at e
 cases hn:Zcw order blk (Zbd g lim q) with
 |some i=>rw[hn] at e;cases e
 |none=>
  rw[hn] at e
  cases hp:(Zbd g lim q).pile.getLast? with
  |some k=>rw[hp] at e;cases e
  |none=>
   obtain⟨h1,h2,h3, -⟩:=S.none q h hn;refine⟨0,_,RunQ.stop h h1 (by rw[h2];exact hp),?_⟩;have hnil:=List.getLast?_eq_none_iff.1 hp;unfold ZpB;simp only[h2];rw[hnil];show({Zbd g lim q with pile:=[]}:PSt)=_;rw[← hnil]
theorem ZjE {g:Gr} {lim order blk:Int} {nx:QSt→Option Int×QSt} {G:QSt→Prop} (hg:ZC g=true) (ho:order≠1) (S:SimN g lim order blk nx G): ∀(n:Nat) (q:QSt),G q→Zbg g lim order blk (ZdQ g lim order blk n (Zbd g lim q))=none→
 ∃m e,RunQ g nx G m q e∧e.s=ZdQ g lim order blk n (Zbd g lim q)
 |0,q,h,e=>Zlp S h e
 |n+1,q,h,e=>by
  have hW:=(look_ok (lim:=lim) (S.ok q h)).1;rw[ZdQ] at e ⊢
  cases hs:Zbg g lim order blk (Zbd g lim q) with
  |none=>rw[hs] at e;exact Zlp S h hs
  |some s'=>
   rw[hs] at e;simp only at e ⊢;unfold Zbg at hs
   have hlook: ∀l s,Zaj g lim order l s=Za3 g lim l s:=fun l s=>by unfold Zaj;exact if_neg ho
   cases hn:Zcw order blk (Zbd g lim q) with
   |some i=>
    rw[hn] at hs;simp only[hlook] at hs;obtain⟨h1,h2,h3,h4⟩:=S.some q i h hn;have hlt:=(Zii hn).1
    have hmem:(Zbd g lim q).small.getD i 0∈(Zbd g lim q).met:=by
     rw[Yn,Ya hlt];exact Yr.2 (.inl (List.getElem_mem hlt))
    have hr:=hW.rng _ hmem
    have hall:Zbd g lim (ZW (nx q).2 (ZcW g ((Zbd g lim q).small.getD i 0)))=s':=by
     rw[Zd4 h3,h2];exact Yp hs
    obtain⟨m,e',hrun,he⟩:=ZjE hg ho S n (ZW (nx q).2 (ZcW g ((Zbd g lim q).small.getD i 0))) (h4 _ (Zn0 hg (hW.rch _ hmem) hr)) (by rw[hall];exact e);rw[hall] at he;exact⟨m+1,e',RunQ.small h h1 hr (by rw[h3];exact Yi (Nat.add_le_add_right (ZkH hg hr) _) (by simp)) hrun,he⟩
   |none=>
    rw[hn] at hs;simp only[hlook] at hs
    cases hp:(Zbd g lim q).pile.getLast? with
    |none=>rw[hp] at hs;cases hs
    |some k=>
     rw[hp] at hs;obtain⟨h1,h2,h3,h4⟩:=S.none q h hn;have hkp:k∈(Zbd g lim q).pile:=List.mem_of_getLast? hp;have hmem:k∈(Zbd g lim q).met:=Yr.2 (.inr (hW.pl _ hkp));have hr:=hW.rng _ hmem
     have hall:Zbd g lim (ZW (ZpB (nx q).2) (ZcW g k))=s':=by
      rw[Zd4 (q:=ZpB (nx q).2) h3];unfold ZpB;simp only[h2];exact Yp hs
     obtain⟨m,e',hrun,he⟩:=ZjE hg ho S n (ZW (ZpB (nx q).2) (ZcW g k)) (h4 _ (Zn0 hg (hW.rch _ hmem) hr)) (by rw[hall];exact e);rw[hall] at he;refine⟨m+1,e',RunQ.large h h1 (by rw[h2];exact hp) hr ?_ hrun,he⟩;show(ZcW g k).length+(nx q).2.ah.length≤_;rw[h3];exact Yi (Nat.add_le_add_right (ZkH hg hr) _) (by simp)
theorem ZpI {g:Gr} {lim order blk:Int} {nx:QSt→Option Int×QSt} {G:QSt→Prop} (hg:ZC g=true) (ho:order≠1) (S:SimN g lim order blk nx G) (h0:G (ZW q0 g.rt)):
 ∃m e,RunQ g nx G m (ZW q0 g.rt) e∧e.s=ZcM g lim order blk:=by
 have hall:Zbd g lim (ZW q0 g.rt)=Zaj g lim order g.rt .none:=by
  rw[Zd4 (q:=q0) rfl];unfold Zaj;rw[if_neg ho];rfl
 obtain⟨h1,h2⟩:=ZdN lim order hg;obtain⟨w,c,e⟩:=ZgE (block:=blk) hg (g.nd.length+1) _ h1 h2 (by omega);obtain⟨m,e',hrun,he⟩:=ZjE hg ho S (g.nd.length+1) _ h0 (by rw[hall];exact e);rw[hall] at he;exact⟨m,e',hrun,he⟩
def nxB (g:Gr) (lim:Int) (q:QSt):Option Int×QSt:=
 match Zbb g lim q with
 |(some i,q')=>(some i,{q' with s:=q'.s.mark q.k})
 |(none,q')=>(none,q')
structure LkB (k:Nat) (s:PSt):Prop where
 le:k≤s.small.length
 lk: ∀i,i<s.small.length→s.looked.getD i true=decide (i<k)
structure GB (g:Gr) (q:QSt):Prop where
 ok:Okq g q
 lk:LkB q.k q.s
theorem ZlA {g:Gr} {lim:Int} {q:QSt} (h:GB g q):LkB q.k (Zbd g lim q):=by
 have hl:Okl g (ZhU q.ah):=fun v hv h2=>by
  unfold ZhU at hv;obtain⟨x,hx,rfl⟩:=List.mem_map.1 hv;exact h.ok.ah x hx
 obtain⟨w,x, -,hn⟩:=ZeM (lim:=lim) (ZhU q.ah) q.s h.ok.wf hl;refine⟨Yi h.lk.le x.sm.length_le,fun i hi=>?_⟩;rcases Yq i q.s.small.length with h'|h'
 · have hlt:i<q.s.looked.length:=by rw[h.ok.wf.lk];exact h'
   have e1:q.s.looked[i]? =some q.s.looked[i]:=Ya hlt;have e2:=h.lk.lk i h';rw[Yn,e1] at e2;rw[Yn];unfold Zbd;rw[Zfr x.lk e1];exact e2
 · have hlt:i<(Za3 g lim (ZhU q.ah) q.s).looked.length:=by rw[w.lk];exact hi
   have h3:=hn i h';rw[Yn];unfold Zbd;rw[Ya hlt] at h3 ⊢;have hk:=h.lk.le;rw[Yl (by omega)]
   cases hh:(Za3 g lim (ZhU q.ah) q.s).looked[i] with
   |true=>rw[hh] at h3;exact absurd rfl h3
   |false=>rfl
theorem Zn5 {k:Nat} {s:PSt} (h:LkB k s):Zdd (fun _=>true) s=if k<s.small.length then some k else none:=by
 unfold Zdd;by_cases hk:k<s.small.length
 · rw[if_pos hk,List.find?_range_eq_some]
   refine⟨by rw[h.lk k hk];simp,List.mem_range.2 hk,fun j hj=>?_⟩;rw[h.lk j (by omega)];simp[hj]
 · rw[if_neg hk,List.find?_eq_none]
   intro j hj
   have:=List.mem_range.1 hj
   rw[h.lk j this];simp;omega
theorem LkB.mark {k:Nat} {s:PSt} (h:LkB k s) (hk:k<s.small.length) (hl:s.looked.length=s.small.length):LkB (k+1) (s.mark k):=by
 refine⟨hk,fun i hi=>?_⟩;show(s.looked.set k true).getD i true=_;have h1:=h.lk i hi;rw[Yn] at h1 ⊢;by_cases hik:k=i
 · subst hik
   rw[List.getElem?_set_self (by omega)];simp
 · rw[List.getElem?_set_ne hik,h1]
   exact decide_eq_decide.2 (by omega)
theorem Zjh {g:Gr} (lim blk:Int):SimN g lim 0 blk (nxB g lim) (GB g):=by
 have hnext: ∀s,Zcw 0 blk s=Zdd (fun _=>true) s:=fun s=>by unfold Zcw;rw[if_neg (by simp)]
 refine⟨fun q h=>h.ok,fun q h hn=>?_,fun q i h hn=>?_⟩
 · have hl:=ZlA (lim:=lim) h
   have hW:=(look_ok (lim:=lim) h.ok).1;rw[hnext,Zn5 hl] at hn
   have hk: ¬q.k<(Zbd g lim q).small.length:=fun hk=>by rw[if_pos hk] at hn;cases hn
   have hfq:Zbb g lim q=(none,Zm0 g lim q):=by unfold Zbb;rw[if_pos (by have:=hl.le;omega)]
   have hnx:nxB g lim q=(none,Zm0 g lim q):=by unfold nxB;rw[hfq]
   rw[hnx];refine⟨rfl,rfl,rfl,fun l hol=>⟨ZfR rfl ?_ hol,?_⟩⟩
   · exact⟨hW.nodup,hW.rng,hW.rch,hW.lk,hW.bg,fun x hx=>hW.pl x (List.dropLast_subset _ hx),hW.pn.sublist (List.dropLast_sublist _)⟩
   · exact⟨hl.le,hl.lk⟩
 · have hl:=ZlA (lim:=lim) h
   have hW:=(look_ok (lim:=lim) h.ok).1;rw[hnext,Zn5 hl] at hn
   have hk:q.k<(Zbd g lim q).small.length:=by
    refine Classical.byContradiction fun hk=>?_;rw[if_neg hk] at hn;cases hn
   rw[if_pos hk] at hn;obtain rfl:=Yp hn
   have hfq:Zbb g lim q=(some ((Zbd g lim q).small.getD q.k 0),{Zm0 g lim q with k:=q.k+1}):=by unfold Zbb;rw[if_neg (by omega)]
   have hnx:nxB g lim q=(some ((Zbd g lim q).small.getD q.k 0),{Zm0 g lim q with k:=q.k+1,s:=(Zbd g lim q).mark q.k}):=by unfold nxB;rw[hfq];rfl
   rw[hnx];exact⟨rfl,rfl,rfl,fun l hol=>⟨ZfR rfl (hW.mark _) hol,hl.mark hk hW.lk⟩⟩
theorem Zqr {g:Gr} (hg:ZC g=true):GB g (ZW q0 g.rt):=⟨ZfR (q:=q0) rfl (ZoC g) (Zur hg),⟨Yj _,fun i hi=>absurd hi (Nat.not_lt_zero i)⟩⟩
theorem ZjM {g:Gr} (lim blk:Int) (hg:ZC g=true): ∃m e,RunQ g (nxB g lim) (GB g) m (ZW q0 g.rt) e∧e.s=ZcM g lim 0 blk:=
 ZpI hg (by decide) (Zjh lim blk) (Zqr hg)
end
section
open Go.RowKit Go.Lib
section
variable {W w':World} {b mb tb mp base B:Nat} {g:Gr} {vn vr:Value} {hs:List (Value×Value)} {lim blk:Int}
def RB (b mb base B:Nat) (g:Gr) (vn vr:Value) (hs:List (Value×Value)) (lim:Int) (W:World) (q:QSt):Prop:=RdG W B g vn vr hs∧ ∃V,Qp W b mb base vn vr lim g.nd.length V q.s.met q
theorem Zni (h:RdG W B g vn vr hs) (hB:B≤base) (hb:base≤W.heap.size) (o:Only (geB base) W w'):RdG w' B g vn vr hs:=h.below (o.below (Yi hB hb) fun _ hk=>Yi hB hk)
theorem Stp.ge {V V':Int→Value} {M:List Int} {q:QSt} {n:Nat} (s:Stp b mb V V' W w') (h:Qp W b mb base vn vr lim n V M q):Only (geB base) W w':=s.only.mono fun k _ hk=>h.ge hk
theorem Zml (hB:B≤base) (hN:g.nd.length≤1000000):RunC b base B g vn vr 119 ⟨b,0,none⟩ (nxB g lim) (GB g) (RB b mb base B g vn vr hs lim) where
 enters:=enters_of Tryz.func119 (by kernel_rfl) rfl
 next:=fun W q hb ⟨hr,V,h⟩ hG=>by
  refine(Ztn W b mb base B g vn vr hs lim V q h hr hB hb hG.ok hN hG.lk.le).mono ?_;rintro e w' ⟨V',rfl,h',s'⟩;have o:=s'.ge h;refine⟨?_,⟨Zni hr hB hb o,V',?_⟩,o⟩
  · unfold nxB
    cases hf:Zbb g lim q with
    |mk o q'=>cases o <;> rfl
  · unfold nxB
    revert h'
    cases hf:Zbb g lim q with
    |mk o q'=>
     intro h'
     cases o with
     |none=>exact h'
     |some i=>exact h'.says rfl rfl
 off:=fun W q hb ⟨hr,V,h⟩=>by
  refine(Zn2 W b mb base _ vn vr lim V q h).mono ?_;rintro e w' ⟨V',rfl,h',s'⟩;have o:=s'.ge h;exact⟨rfl,⟨Zni hr hB hb o,V',h'⟩,o⟩
 fol:=fun W q A c l hb ⟨hr,V,h⟩ hl hn=>by
  refine(Zqd W b mb base _ vn vr lim V _ q A c B l h hl hB hb hn).mono ?_;rintro e w' ⟨V',rfl,h',s'⟩;have o:=s'.ge h;exact⟨rfl,⟨Zni hr hB hb o,V',h'⟩,o⟩
 cn:=fun W q ⟨_,V,h⟩=>⟨h.box.cell 0,h.box.cell 1⟩
end
def Zc3 (g:Gr) (lim order block:Int):Int:=if ZC g=true then(if lim<1∨block<1∨(order≠0∧order≠1∧order≠2) then 1 else 0) else 4
def Zad (g:Gr) (lim order block:Int):List Int:=if Zc3 g lim order block=0 then(ZcM g lim order block).small else[]
def Zao (g:Gr) (lim order block:Int):List Int:=if Zc3 g lim order block=0 then(ZcM g lim order block).large else[]
structure GrBd (g:Gr):Prop where
 nd:g.nd.length≤1000
 rt:g.rt.length≤1000
theorem Ztp:Zy q0=fun _=>[]:=by
 funext i
 unfold Zy q0 PSt.none;simp
theorem ZpR {W0 W1:World} {b mb base:Nat} {vn vr:Value} {lim:Int} {n:Nat} (hb:Blk W1 b 169 #[vn,vr,.int .i64 lim,.slice (some ⟨mb,0,none⟩) n n,.slice none 0 0,.slice none 0 0,.int .i64 0,.slice none 0 0,.slice none 0 0]) (hm:Blk W1 mb 4 (flQ n [])) (h1:base≤b) (h2:base≤mb):
 Qp W1 b mb base vn vr lim n (fun _=>Zvh) [] q0:=
 ⟨hb,hm,by rw[Ztp];exact⟨fun _=>OwR.nil_,fun i j k _ h=>by cases h⟩,h1,h2⟩
end
section
open Go.RowKit Go.Lib
theorem ZmH:(Tryz.prog.info? 4).map (fun i=>(i.zero,i.size,i.bytes))=some (some (.bool false),1,1):=by kernel_rfl
theorem Zqq (n:Nat) (hn:n≤1000000) (w:World):(Instr.makeSlice 167 (.int .i64 (n:Int)) (.int .i64 (n:Int))).run Tryz.prog w=.ok (.slice (some ⟨w.heap.size,0,none⟩) n n) (w.alloc (.cells (flQ n []) 4)):=by
 obtain⟨i0,hi0,hz0,hz1,hz2⟩:=info_parts ZmH;have h:=run_make (P:=Tryz.prog) w 167 4 i0 _ Tryz.underlying167 hi0 hz0 .i64 .i64 n n (by omega) (Int.le_refl _) (by rw[hz2];omega) (by omega);rw[h];simp only[Int.toNat_natCast,hz1,Nat.mul_one]
 have e:madeCells (Value.bool false).cells n=flQ n []:=by
  apply Array.ext';show(madeCells #[.bool false] n).toList=_;rw[toList_madeCells_one];apply List.ext_getElem?;intro j;simp[flQ,List.getElem?_replicate]
  split <;> simp_all
 rw[e]
theorem Zqj {g:Gr} {lim order block:Int} {n:Int} (h:Zc3 g lim order block=n) (hn:n≠0):Zad g lim order block=[]∧Zao g lim order block=[]:=by
 unfold Zad Zao;rw[if_neg (by rw[h];exact hn),if_neg (by rw[h];exact hn)];exact⟨rfl,rfl⟩
def Ztt (f:FuncId):Prop:= ∀(g:Gr) (vn vr:Value) (hs:List (Value×Value)) (B:Nat) (W:World) (lim block:Int),RdG W B g vn vr hs→B≤W.heap.size→GrFit g→GrBd g→block≤9223372036854775807→
 Calls Tryz.prog f #[.agg #[vn,vr],.int .i64 lim,.int .i64 0,.int .i64 block] W fun e w'=> ∃v1 v2,e=.returned (.tuple #[v1,v2,.int .i64 (Zc3 g lim 0 block)])∧
  OwR w' W.heap.size 3 v1 (Zad g lim 0 block).length (i64s (Zad g lim 0 block))∧OwR w' W.heap.size 3 v2 (Zao g lim 0 block).length (i64s (Zao g lim 0 block))∧Only nob W w'
theorem ZeF:Ztt 78:=by
 intro g vn vr hs B W lim block hr hB hfit hbd hblkm;obtain⟨An,cn,rfl,hacn,hcmn⟩:=hr.nodes.form;obtain⟨Ar,cr,rfl,hacr,hcmr⟩:=hr.roots.form
 obtain⟨W1,hW1,o1,b1⟩: ∃X,W.alloc (.cells #[.slice An g.nd.length cn,.slice Ar g.rt.length cr] 34)=X∧Only nob W X∧Blk X W.heap.size 34 #[.slice An g.nd.length cn,.slice Ar g.rt.length cr]:=⟨_,rfl,(Only.refl nob W).alloc _,Blk.new _ _ _⟩
 have HW1:=ZZ hW1;have O1:=ZZ o1;have B1:=ZZ b1;have HG:=ZZ hr;have HBW:=ZZ hB;have HBD:=ZZ hbd;have HRT:=ZZ (fun (W':World) (o:Only nob W W')=>ZfV g _ _ hs B W' (hr.only o hB) (Yi hB o.size) hfit);have c0:W1.cell? ⟨W.heap.size,0,none⟩=some (.slice An g.nd.length cn):=b1.cell 0;have c1:W1.cell? ⟨W.heap.size,1,none⟩=some (.slice Ar g.rt.length cr):=b1.cell 1
 obtain⟨E,hE⟩: ∃E,E=Zc3 g lim 0 block:=⟨_,rfl⟩
 have HE:=ZZ hE;rw[← hE]
 obtain⟨gk,hgk⟩: ∃k,k=ZC g:=⟨_,rfl⟩
 have HGK:=ZZ hgk;rw[← hgk] at HRT;unfold maxLen at hcmn;clear hW1 o1 b1 hr hB hfit hbd hE hgk
 have go: ∀(E':Int),E=E'→E'≠0→ ∀w',Only nob W w'→ ∃v1 v2,Ending.returned (.tuple #[.slice none 0 0,.slice none 0 0,.int .i64 E'])=.returned (.tuple #[v1,v2,.int .i64 E])∧
  OwR w' W.heap.size 3 v1 (Zad g lim 0 block).length (i64s (Zad g lim 0 block))∧OwR w' W.heap.size 3 v2 (Zao g lim 0 block).length (i64s (Zao g lim 0 block))∧Only nob W w':=fun E' h1 h2 w' o=>by
  obtain⟨p1,p2⟩:=Zqj (HE.out.symm.trans h1) h2;refine⟨_,_,by rw[h1],?_,?_,o⟩
  · rw[p1];exact OwR.nil_
  · rw[p2];exact OwR.nil_
 have GO:=ZZ go;clear go
 go_enter Tryz.func78,Tryz.ntmps78
 go_upto_region 1 with fail
 rw[HW1.out]
 go_wp2_with fail
 go_at_call 20;refine(HRT.out W1 O1.out).mono ?_;rintro e w2 ⟨rfl,o2⟩;have O2:=ZZ (O1.out.trans o2);have B2:=ZZ (B1.out.keep o2 id);have d0:=o2.keeps c0;have d1:=o2.keeps c1;clear c0 c1 o2
 cases gk with
 |false=>
  have HF:=ZZ (show E=4 by rw[HE.out];unfold Zc3;rw[if_neg (by rw[← HGK.out];simp)]);clear d0 d1;go_wp2
  go_ret3
  exact GO.out 4 HF.out (by decide) _ O2.out
 |true=>
  by_cases hlb:lim<1∨block<1
  · have HF:=ZZ (show E=1 by
     rw[HE.out];unfold Zc3;rw[if_pos HGK.out.symm,if_pos (by rcases hlb with h|h;exact .inl h;exact .inr (.inl h))])
    clear d0 d1;by_cases hl1:lim<1
    · clear hlb
      go_wp2
      go_ret3
      exact GO.out 1 HF.out (by decide) _ O2.out
    · have hb1:block<1:=hlb.resolve_left hl1
      clear hlb;go_wp2
      go_ret3
      exact GO.out 1 HF.out (by decide) _ O2.out
  · have hl1: ¬lim<1:=fun h=>hlb (.inl h)
    have hb1: ¬block<1:=fun h=>hlb (.inr h);have HLB:=ZZ hlb;clear hlb
    go_upto_region 5 with fail
    refine ZaY (stop:=8) (S:=fun w':World=>w'.cell? ⟨W.heap.size,0,none⟩=some (.slice An g.nd.length cn)∧w'.cell? ⟨W.heap.size,1,none⟩=some (.slice Ar g.rt.length cr)) (by kernel_rfl) ⟨d0,d1⟩ (fun hHeld=>?_);clear d0 d1
    obtain⟨WD,hWD,oD⟩: ∃X,w2.drew=X∧Only nob w2 X:=⟨_,rfl,(Only.refl nob w2).drewN 1⟩
    rw[hWD] at hHeld ⊢;have OD:=ZZ (O2.out.trans oD);clear hWD oD;refine Zc (i:=0) (v:=?_) rfl (by kernel_rfl) (by kernel_rfl) (by kernel_rfl) (by kernel_rfl) (fun _ _ _ h=>h) (Or.inl ⟨by rfl,?_⟩) hHeld ?_;rotate_left
    · intro w hSw;(try dsimp only at hSw);go_simp;first|done|with_reducible rfl
    try simp only[Act.put,Yb,Yd,Yc,Yh,Yf,Yg]
    refine Zc (i:=1) (v:=?_) rfl (by kernel_rfl) (by kernel_rfl) (by kernel_rfl) (by kernel_rfl) (fun _ _ _ h=>h) (Or.inl ⟨by rfl,?_⟩) hHeld ?_;rotate_left
    · intro w hSw;(try dsimp only at hSw);go_simp;first|done|with_reducible rfl
    try simp only[Act.put,Yb,Yd,Yc,Yh,Yf,Yg]
    refine Zc (i:=2) (v:=?_) rfl (by kernel_rfl) (by kernel_rfl) (by kernel_rfl) (by kernel_rfl) (fun _ _ _ h=>h) (Or.inl ⟨by rfl,?_⟩) hHeld ?_;rotate_left
    · intro w hSw;(try dsimp only at hSw);go_simp;first|done|with_reducible rfl
    try simp only[Act.put,Yb,Yd,Yc,Yh,Yf,Yg]
    refine Zc (i:=3) (v:=?_) rfl (by kernel_rfl) (by kernel_rfl) (by kernel_rfl) (by kernel_rfl) (fun _ _ _ h=>h) (Or.inl ⟨by rfl,?_⟩) hHeld ?_;rotate_left
    · intro w hSw;(try dsimp only at hSw);go_simp;first|done|with_reducible rfl
    try simp only[Act.put,Yb,Yd,Yc,Yh,Yf,Yg]
    refine Zc (i:=4) (v:=?_) rfl (by kernel_rfl) (by kernel_rfl) (by kernel_rfl) (by kernel_rfl) (fun _ _ _ h=>h) (Or.inl ⟨by rfl,?_⟩) hHeld ?_;rotate_left
    · intro w hSw;(try dsimp only at hSw);go_simp;first|done|with_reducible rfl
    try simp only[Act.put,Yb,Yd,Yc,Yh,Yf,Yg]
    obtain⟨X2,hX2,oX2,bX2,sX2⟩: ∃X,WD.alloc (.cells (flQ g.nd.length []) 4)=X∧Only nob WD X∧Blk X WD.heap.size 4 (flQ g.nd.length [])∧X.heap.size=WD.heap.size+1:=⟨_,rfl,(Only.refl nob WD).alloc _,Blk.new _ _ _,by simp⟩
    have hmk:=Zqq g.nd.length (by have:=HBD.out.nd;omega) WD;rw[hX2] at hmk;have HOX2:=ZZ oX2;have OX2:=ZZ (OD.out.trans oX2);have BX2:=ZZ bX2;clear hX2 oX2 bX2 sX2;refine Zp (rs:=[5]) (by kernel_rfl) (by simp) ?_;refine(Za6.cons rfl (fun K hK=>?_) Za6.nil);go_simp;refine hK.out _ _ (fun _=>⟨HOX2.out.keeps hHeld.1,HOX2.out.keeps hHeld.2⟩) (fun hHeld2=>?_);clear hK K hHeld;have hHeld:=hHeld2 (by decide);clear hHeld2
    try simp only[Act.put,Yb,Yd,Yc,Yh,Yf,Yg]
    refine Zc (i:=6) (v:=?_) rfl (by kernel_rfl) (by kernel_rfl) (by kernel_rfl) (by kernel_rfl) (fun _ _ _ h=>h) (Or.inl ⟨by rfl,?_⟩) hHeld ?_;rotate_left
    · intro w hSw;(try dsimp only at hSw);go_simp;first|done|with_reducible rfl
    try simp only[Act.put,Yb,Yd,Yc,Yh,Yf,Yg]
    obtain⟨X3,hX3,oX3,bX3⟩: ∃X,X2.alloc (.cells #[.slice An g.nd.length cn,.slice Ar g.rt.length cr,.int .i64 lim,.slice (some ⟨WD.heap.size,0,none⟩) g.nd.length g.nd.length,.slice none 0 0,.slice none 0 0,.int .i64 0,.slice none 0 0,.slice none 0 0] 169)=X∧Only nob X2 X∧Blk X X2.heap.size 169 #[.slice An g.nd.length cn,.slice Ar g.rt.length cr,.int .i64 lim,.slice (some ⟨WD.heap.size,0,none⟩) g.nd.length g.nd.length,.slice none 0 0,.slice none 0 0,.int .i64 0,.slice none 0 0,.slice none 0 0]:=⟨_,rfl,(Only.refl nob X2).alloc _,Blk.new _ _ _⟩
    have HX3:=ZZ hX3;have HOX3:=ZZ oX3;have OX3:=ZZ (OX2.out.trans oX3);have HQ:=ZZ (ZpR (W0:=W) (base:=W.heap.size) bX3 (BX2.out.keep oX3 id) OX2.out.size OD.out.size);have HG3:=ZZ (HG.out.only OX3.out HBW.out);clear hX3 oX3 bX3 hmk;refine Zp (rs:=[7]) (by kernel_rfl) (by simp) ?_;refine(Za6.cons rfl (fun K hK=>?_) Za6.nil);go_simp
    with_reducible rw[HX3.out]
    refine hK.out _ _ (fun _=>⟨HOX3.out.keeps hHeld.1,HOX3.out.keeps hHeld.2⟩) (fun hHeld2=>?_);clear hK K hHeld;have hHeld:=hHeld2 (by decide);clear hHeld2
    try simp only[Act.put,Yb,Yd,Yc,Yh,Yf,Yg]
    refine Zp (rs:=[8]) (by kernel_rfl) (by simp) ?_;refine(Za6.cons rfl (fun K hK=>?_) Za6.nil);go_simp;refine hK.out _ _ (fun h=>absurd rfl h) (fun hHeld2=>?_);clear hK K hHeld hHeld2
    try simp only[Act.put,Yb,Yd,Yc,Yh,Yf,Yg]
    refine ZbL (by kernel_rfl) ?_ _
    obtain⟨bp,hbp⟩: ∃b,b=X2.heap.size:=⟨_,rfl⟩
    obtain⟨mb,hmb⟩: ∃b,b=WD.heap.size:=⟨_,rfl⟩
    rw[← hbp, ← hmb] at HQ;rw[← hbp, ← hmb];clear hbp hmb BX2 HX3 HOX3 HOX2 OX2 OD;have HRB:=ZZ (show RB bp mb W.heap.size B g _ _ hs lim X3 q0 from⟨HG3.out,_,HQ.out⟩);have hgk:ZC g=true:=HGK.out.symm;have HGO:=ZZ hgk;have hN1:=HBD.out.nd;have hR1:=HBD.out.rt
    have HF:=ZZ (show E=0 by
     rw[HE.out];unfold Zc3;rw[if_pos HGO.out,if_neg (by rintro(h|h|h);omega;omega;exact h.1 rfl)])
    obtain⟨m,ee,hrun,hee⟩:=ZjM (g:=g) lim block hgk;have HEE:=ZZ hee;have HC:=ZZ (Zu7 bp W.heap.size B g _ _ hs 119 ⟨bp,0,none⟩ _ _ _ (Zml (mb:=mb) (hs:=hs) HBW.out (by omega)) HBW.out X3 q0 ee m HRB.out HG3.out OX3.out.size hrun (by show g.rt.length+0≤_;omega));clear hrun hee hN1 hR1 hgk
    go_wp2_with fail
    go_at_call 118;refine HC.out.mono ?_;rintro e w5 ⟨rfl,hRE,oE⟩;obtain⟨-,V,HQE0⟩:=hRE;have HQE:=ZZ HQE0;have HO:=ZZ (show Only nob W w5 from OX3.out.andThen oE fun i hi e=>by unfold geB at e;omega);obtain⟨A4,k4,hv4, -, -⟩:=(HQE0.rows.own (-1)).form;obtain⟨A5,k5,hv5, -, -⟩:=(HQE0.rows.own (-2)).form;have c4:w5.cell? ⟨bp,4,none⟩=some (V (-1)):=HQE0.cell Zi2;have c5:w5.cell? ⟨bp,5,none⟩=some (V (-2)):=HQE0.cell ZsG;have h4:=HQE0.rows.own (-1);have h5:=HQE0.rows.own (-2);rw[hv4] at c4 h4;rw[hv5] at c5 h5
    have hr4:Zy ee (-1)=Zad g lim 0 block:=by unfold Zad;rw[if_pos (HE.out.symm.trans HF.out)];show ee.s.small=_;rw[HEE.out]
    have hr5:Zy ee (-2)=Zao g lim 0 block:=by unfold Zao;rw[if_pos (HE.out.symm.trans HF.out)];show ee.s.large=_;rw[HEE.out]
    rw[hr4] at h4 c4;rw[hr5] at h5 c5;have H4:=ZZ h4;have H5:=ZZ h5;clear hv4 hv5 hr4 hr5 h4 h5 HQE0 oE;go_wp2
    go_quiet (fail)
    go_wp2
    go_ret3
    refine⟨_,_,by rw[HF.out];rfl,H4.out.only ((Only.refl nob w5).drewN _) fun _ _ h=>h,H5.out.only ((Only.refl nob w5).drewN _) fun _ _ h=>h,HO.out.trans ((Only.refl nob w5).drewN _)⟩
end
end Go.Proofs.YteieocddfnlmdaaGreatDoor
