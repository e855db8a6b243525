/- The program's runs are the document's plans: what is looked -/
import Derived.Test.YtknoncenblehkaaGreatDoorF31
import Derived.Carry
set_option maxRecDepth 100000
set_option maxHeartbeats 32000000
set_option linter.unusedSimpArgs false
set_option linter.unusedVariables false
namespace Go.Proofs.YtknoncenblehkaaGreatDoor
section
open Go.RowKit
def q0:QSt:=⟨.none,[],0,fun _=>[],[],0,0,0⟩
theorem Zdj {g:Gr} {lim:Int}: ∀(l:List Sp) (s:PSt),ZaA g lim (Zhd (refsOf l)) s=ZaA g lim l s
 |[],s=>rfl
 |(a,x)::l,s=>by
  by_cases h:a=2
  · subst h
    have:Zhd (refsOf ((2,x)::l))=(2,x)::Zhd (refsOf l):=by simp[Zhd,refsOf]
    rw[this];exact Zdj l _
  · have:Zhd (refsOf ((a,x)::l))=Zhd (refsOf l):=by simp[Zhd,refsOf,h]
    rw[this,Zdj l s]
    have hn:Z1 (a,x) s=false:=by unfold Z1;simp[h]
    show _=ZaA g lim l (ZJ g lim (a,x) s);rw[show ZJ g lim (a,x) s=s by unfold ZJ;rw[hn];exact if_neg (by simp)]
theorem Zqr {g:Gr} {l:List Sp} (h:Okl g l): ∀x∈refsOf l,(0≤x∧x<(g.nd.length:Int))∧Rch g x:=by
 intro x hx;unfold refsOf at hx;obtain⟨v,hv,rfl⟩:=List.mem_map.1 hx;obtain⟨h1,h2⟩:=List.mem_filter.1 hv;exact h v h1 (by simpa using h2)
theorem Zds {g:Gr} {lim:Int} {q:QSt} (h:q.ah=[]) (l:List Sp):ZaH g lim (ZR q l)=ZaA g lim l q.s:=by
 unfold ZaH ZR ZaP;simp only[h,List.append_nil];exact Zdj l _
theorem Zff {g:Gr} {q:QSt} (h:q.ah=[]) (hw:Wf g q.s) {l:List Sp} (hl:Okl g l):Okq g (ZR q l):=
 ⟨hw,fun x hx=>Zqr hl x (by simpa[ZR,ZaP,h] using hx)⟩
theorem ZjO {g:Gr} (hg:ZA g=true) {x:Int} (hx:0≤x∧x<(g.nd.length:Int)):(Zcb g x).length≤4096:=by
 have hlt:x.toNat<g.nd.length:=by omega
 have hm:Za7 g x∈g.nd:=by
  unfold Za7;rw[Yn,Ya hlt];exact List.getElem_mem hlt
 exact(ZV.1 ((Zv.1 hg).1 _ hm)).2.1
structure SimN (g:Gr) (lim order blk:Int) (nx:QSt→Option Int×QSt) (G:QSt→Prop):Prop where
 ok: ∀q,G q→Okq g q
 none: ∀q,G q→Zb2 order blk (ZaH g lim q)=none→(nx q).1=none∧(nx q).2.s=ZaH g lim q∧(nx q).2.ah=[]∧ ∀l,Okl g l→G (ZR (ZoR (nx q).2) l)
 some: ∀q i,G q→Zb2 order blk (ZaH g lim q)=some i→(nx q).1=some ((ZaH g lim q).small.getD i 0)∧(nx q).2.s=(ZaH g lim q).mark i∧(nx q).2.ah=[]∧ ∀l,Okl g l→G (ZR (nx q).2 l)
theorem Zka {g:Gr} {lim order blk:Int} {nx:QSt→Option Int×QSt} {G:QSt→Prop} (S:SimN g lim order blk nx G) {q:QSt} (h:G q) (e:ZaI g lim order blk (ZaH g lim q)=none): ∃m e,RunQ g nx G m q e∧e.s=ZaH g lim q:=by
 unfold ZaI at e
 cases hn:Zb2 order blk (ZaH g lim q) with
 |some i=>rw[hn] at e;cases e
 |none=>
  rw[hn] at e
  cases hp:(ZaH g lim q).pile.getLast? with
  |some k=>rw[hp] at e;cases e
  |none=>
   obtain⟨h1,h2,h3, -⟩:=S.none q h hn;refine⟨0,_,RunQ.stop h h1 (by rw[h2];exact hp),?_⟩;have hnil:=List.getLast?_eq_none_iff.1 hp;unfold ZoR;simp only[h2];rw[hnil];show({ZaH g lim q with pile:=[]}:PSt)=_;rw[← hnil]
theorem Zjv {g:Gr} {lim order blk:Int} {nx:QSt→Option Int×QSt} {G:QSt→Prop} (hg:ZA g=true) (ho:order≠1) (S:SimN g lim order blk nx G): ∀(n:Nat) (q:QSt),G q→ZaI g lim order blk (Zdb g lim order blk n (ZaH g lim q))=none→
 ∃m e,RunQ g nx G m q e∧e.s=Zdb g lim order blk n (ZaH g lim q)
 |0,q,h,e=>Zka S h e
 |n+1,q,h,e=>by
  have hW:=(look_ok (lim:=lim) (S.ok q h)).1;rw[Zdb] at e ⊢
  cases hs:ZaI g lim order blk (ZaH g lim q) with
  |none=>rw[hs] at e;exact Zka S h hs
  |some s'=>
   rw[hs] at e;simp only at e ⊢;unfold ZaI at hs
   have hlook: ∀l s,Z8 g lim order l s=ZaA g lim l s:=fun l s=>by unfold Z8;exact if_neg ho
   cases hn:Zb2 order blk (ZaH g lim q) with
   |some i=>
    rw[hn] at hs;simp only[hlook] at hs;obtain⟨h1,h2,h3,h4⟩:=S.some q i h hn;have hlt:=(ZhL hn).1
    have hmem:(ZaH g lim q).small.getD i 0∈(ZaH g lim q).met:=by
     rw[Yn,Ya hlt];exact Yr.2 (.inl (List.getElem_mem hlt))
    have hr:=hW.rng _ hmem
    have hall:ZaH g lim (ZR (nx q).2 (Zcb g ((ZaH g lim q).small.getD i 0)))=s':=by
     rw[Zds h3,h2];exact Yp hs
    obtain⟨m,e',hrun,he⟩:=Zjv hg ho S n (ZR (nx q).2 (Zcb g ((ZaH g lim q).small.getD i 0))) (h4 _ (Znc hg (hW.rch _ hmem) hr)) (by rw[hall];exact e);rw[hall] at he;exact⟨m+1,e',RunQ.small h h1 hr (by rw[h3];exact Yi (Nat.add_le_add_right (ZjO hg hr) _) (by simp)) hrun,he⟩
   |none=>
    rw[hn] at hs;simp only[hlook] at hs
    cases hp:(ZaH g lim q).pile.getLast? with
    |none=>rw[hp] at hs;cases hs
    |some k=>
     rw[hp] at hs;obtain⟨h1,h2,h3,h4⟩:=S.none q h hn;have hkp:k∈(ZaH g lim q).pile:=List.mem_of_getLast? hp;have hmem:k∈(ZaH g lim q).met:=Yr.2 (.inr (hW.pl _ hkp));have hr:=hW.rng _ hmem
     have hall:ZaH g lim (ZR (ZoR (nx q).2) (Zcb g k))=s':=by
      rw[Zds (q:=ZoR (nx q).2) h3];unfold ZoR;simp only[h2];exact Yp hs
     obtain⟨m,e',hrun,he⟩:=Zjv hg ho S n (ZR (ZoR (nx q).2) (Zcb g k)) (h4 _ (Znc hg (hW.rch _ hmem) hr)) (by rw[hall];exact e);rw[hall] at he;refine⟨m+1,e',RunQ.large h h1 (by rw[h2];exact hp) hr ?_ hrun,he⟩;show(Zcb g k).length+(nx q).2.ah.length≤_;rw[h3];exact Yi (Nat.add_le_add_right (ZjO hg hr) _) (by simp)
theorem ZpB {g:Gr} {lim order blk:Int} {nx:QSt→Option Int×QSt} {G:QSt→Prop} (hg:ZA g=true) (ho:order≠1) (S:SimN g lim order blk nx G) (h0:G (ZR q0 g.rt)):
 ∃m e,RunQ g nx G m (ZR q0 g.rt) e∧e.s=Zb8 g lim order blk:=by
 have hall:ZaH g lim (ZR q0 g.rt)=Z8 g lim order g.rt .none:=by
  rw[Zds (q:=q0) rfl];unfold Z8;rw[if_neg ho];rfl
 obtain⟨h1,h2⟩:=ZcV lim order hg;obtain⟨w,c,e⟩:=ZfY (block:=blk) hg (g.nd.length+1) _ h1 h2 (by omega);obtain⟨m,e',hrun,he⟩:=Zjv hg ho S (g.nd.length+1) _ h0 (by rw[hall];exact e);rw[hall] at he;exact⟨m,e',hrun,he⟩
def nxB (g:Gr) (lim:Int) (q:QSt):Option Int×QSt:=
 match ZaF g lim q with
 |(some i,q')=>(some i,{q' with s:=q'.s.mark q.k})
 |(none,q')=>(none,q')
structure LkB (k:Nat) (s:PSt):Prop where
 le:k≤s.small.length
 lk: ∀i,i<s.small.length→s.looked.getD i true=decide (i<k)
structure GB (g:Gr) (q:QSt):Prop where
 ok:Okq g q
 lk:LkB q.k q.s
theorem ZjA {g:Gr} {lim:Int} {q:QSt} (h:GB g q):LkB q.k (ZaH g lim q):=by
 have hl:Okl g (Zhd q.ah):=fun v hv h2=>by
  unfold Zhd at hv;obtain⟨x,hx,rfl⟩:=List.mem_map.1 hv;exact h.ok.ah x hx
 obtain⟨w,x, -,hn⟩:=Zec (lim:=lim) (Zhd q.ah) q.s h.ok.wf hl;refine⟨Yi h.lk.le x.sm.length_le,fun i hi=>?_⟩;rcases Yq i q.s.small.length with h'|h'
 · have hlt:i<q.s.looked.length:=by rw[h.ok.wf.lk];exact h'
   have e1:q.s.looked[i]? =some q.s.looked[i]:=Ya hlt;have e2:=h.lk.lk i h';rw[Yn,e1] at e2;rw[Yn];unfold ZaH;rw[ZeN x.lk e1];exact e2
 · have hlt:i<(ZaA g lim (Zhd q.ah) q.s).looked.length:=by rw[w.lk];exact hi
   have h3:=hn i h';rw[Yn];unfold ZaH;rw[Ya hlt] at h3 ⊢;have hk:=h.lk.le;rw[Yl (by omega)]
   cases hh:(ZaA g lim (Zhd q.ah) q.s).looked[i] with
   |true=>rw[hh] at h3;exact absurd rfl h3
   |false=>rfl
theorem Znv {k:Nat} {s:PSt} (h:LkB k s):Zct (fun _=>true) s=if k<s.small.length then some k else none:=by
 unfold Zct;by_cases hk:k<s.small.length
 · rw[if_pos hk,List.find?_range_eq_some]
   refine⟨by rw[h.lk k hk];simp,List.mem_range.2 hk,fun j hj=>?_⟩;rw[h.lk j (by omega)];simp[hj]
 · rw[if_neg hk,List.find?_eq_none]
   intro j hj
   have:=List.mem_range.1 hj
   rw[h.lk j this];simp;omega
theorem LkB.mark {k:Nat} {s:PSt} (h:LkB k s) (hk:k<s.small.length) (hl:s.looked.length=s.small.length):LkB (k+1) (s.mark k):=by
 refine⟨hk,fun i hi=>?_⟩;show(s.looked.set k true).getD i true=_;have h1:=h.lk i hi;rw[Yn] at h1 ⊢;by_cases hik:k=i
 · subst hik
   rw[List.getElem?_set_self (by omega)];simp
 · rw[List.getElem?_set_ne hik,h1]
   exact decide_eq_decide.2 (by omega)
theorem Zir {g:Gr} (lim blk:Int):SimN g lim 0 blk (nxB g lim) (GB g):=by
 have hnext: ∀s,Zb2 0 blk s=Zct (fun _=>true) s:=fun s=>by unfold Zb2;rw[if_neg (by simp)]
 refine⟨fun q h=>h.ok,fun q h hn=>?_,fun q i h hn=>?_⟩
 · have hl:=ZjA (lim:=lim) h
   have hW:=(look_ok (lim:=lim) h.ok).1;rw[hnext,Znv hl] at hn
   have hk: ¬q.k<(ZaH g lim q).small.length:=fun hk=>by rw[if_pos hk] at hn;cases hn
   have hfq:ZaF g lim q=(none,Zma g lim q):=by unfold ZaF;rw[if_pos (by have:=hl.le;omega)]
   have hnx:nxB g lim q=(none,Zma g lim q):=by unfold nxB;rw[hfq]
   rw[hnx];refine⟨rfl,rfl,rfl,fun l hol=>⟨Zff rfl ?_ hol,?_⟩⟩
   · exact⟨hW.nodup,hW.rng,hW.rch,hW.lk,hW.bg,fun x hx=>hW.pl x (List.dropLast_subset _ hx),hW.pn.sublist (List.dropLast_sublist _)⟩
   · exact⟨hl.le,hl.lk⟩
 · have hl:=ZjA (lim:=lim) h
   have hW:=(look_ok (lim:=lim) h.ok).1;rw[hnext,Znv hl] at hn
   have hk:q.k<(ZaH g lim q).small.length:=by
    refine Classical.byContradiction fun hk=>?_;rw[if_neg hk] at hn;cases hn
   rw[if_pos hk] at hn;obtain rfl:=Yp hn
   have hfq:ZaF g lim q=(some ((ZaH g lim q).small.getD q.k 0),{Zma g lim q with k:=q.k+1}):=by unfold ZaF;rw[if_neg (by omega)]
   have hnx:nxB g lim q=(some ((ZaH g lim q).small.getD q.k 0),{Zma g lim q with k:=q.k+1,s:=(ZaH g lim q).mark q.k}):=by unfold nxB;rw[hfq];rfl
   rw[hnx];exact⟨rfl,rfl,rfl,fun l hol=>⟨Zff rfl (hW.mark _) hol,hl.mark hk hW.lk⟩⟩
theorem ZqG {g:Gr} (hg:ZA g=true):GB g (ZR q0 g.rt):=⟨Zff (q:=q0) rfl (ZmK g) (Zuc hg),⟨Yj _,fun i hi=>absurd hi (Nat.not_lt_zero i)⟩⟩
theorem Zjb {g:Gr} (lim blk:Int) (hg:ZA g=true): ∃m e,RunQ g (nxB g lim) (GB g) m (ZR q0 g.rt) e∧e.s=Zb8 g lim 0 blk:=
 ZpB hg (by decide) (Zir lim blk) (ZqG hg)
def inB (blk:Int) (s:PSt) (z:Int) (i:Nat):Bool:=!s.looked.getD i true&&decide ((s.begins.getD i 0).tdiv blk=z)
def ZhY (blk:Int) (s:PSt) (z:Int):List Int:=((List.range s.small.length).filter (inB blk s z)).map fun i=>s.small.getD i 0
structure TT (blk:Int) (q:QSt) (s:PSt):Prop where
 tp:q.tp=s.top
 last:q.last=if s.small=[] then 0 else(s.begins.getLastD 0).tdiv blk
 wt: ∀z,q.wt z=ZhY blk s z
 has: ∀z,q.wt z≠[]→z∈q.bg
 srt:q.bg.Pairwise (· ≤ ·)
 top: ∀z∈q.bg,0≤z∧z≤q.last
 lo:0≤q.last
 bl:q.bg.length≤s.small.length
 mono: ∀(i j:Nat) bi bj,i≤j→s.begins[i]? =some bi→s.begins[j]? =some bj→bi≤bj
 bs: ∀b∈s.begins,0≤b∧b≤s.top
 tn:0≤s.top∧s.top≤8193 * (s.small.length:Int)
theorem TT.like {blk:Int} {q:QSt} {s s':PSt} (h:TT blk q s) (e1:s'.small=s.small) (e2:s'.begins=s.begins) (e3:s'.looked=s.looked) (e4:s'.top=s.top):TT blk q s':=by
 have ew: ∀z,ZhY blk s' z=ZhY blk s z:=fun z=>by unfold ZhY inB;rw[e1,e2,e3]
 exact⟨by rw[e4];exact h.tp,by rw[e1,e2];exact h.last,fun z=>by rw[ew];exact h.wt z,h.has,h.srt,h.top,h.lo,by rw[e1];exact h.bl,by rw[e2];exact h.mono,by rw[e2,e4];exact h.bs,by rw[e1,e4];exact h.tn⟩
structure GT (g:Gr) (blk:Int) (q:QSt):Prop where
 ok:Okq g q
 tt:TT blk q q.s
 pt:q.pt≤q.s.small.length+q.s.looked.countP id
theorem GT.tb {g:Gr} {blk:Int} {q:QSt} (h:GT g blk q) (hb:1≤blk) (hN:g.nd.length≤1000000):TB q.s.small.length (q.s.looked.countP id) q:=by
 have hr:=h.ok.wf.room;rw[ZaY] at hr;have hn:=h.tt.tn
 have hlast:q.last≤9223372036854775807:=by
  rw[h.tt.last]
  split
  · omega
  · rename_i he
    have hlen:0<q.s.begins.length:=by rw[h.ok.wf.bg];exact List.length_pos_iff.2 he
    have hm:q.s.begins.getLastD 0∈q.s.begins:=by
     rw[List.getLastD_eq_getLast?,List.getLast?_eq_getElem?,Ya (by omega)];exact List.getElem_mem _
    have hb2:=h.tt.bs _ hm;rw[Int.tdiv_eq_ediv_of_nonneg hb2.1];exact Int.le_trans (Int.ediv_le_self _ hb2.1) (by omega)
 refine⟨by rw[h.tt.tp];exact hn,h.pt,h.tt.bl,fun z=>?_,⟨h.tt.lo,hlast⟩,fun z hz=>⟨(h.tt.top z hz).1,Int.le_trans (h.tt.top z hz).2 hlast⟩⟩;rw[h.tt.wt];unfold ZhY;rw[List.length_map];exact Yi (List.length_filter_le _ _) (by simp)
end
section
open Go.RowKit Go.Lib
section
variable {W w':World} {b mb tb mp base B:Nat} {g:Gr} {vn vr:Value} {hs:List (Value×Value)} {lim blk:Int}
def RB (b mb base B:Nat) (g:Gr) (vn vr:Value) (hs:List (Value×Value)) (lim:Int) (W:World) (q:QSt):Prop:=RdG W B g vn vr hs∧ ∃V,Qp W b mb base vn vr lim g.nd.length V q.s.met q
theorem Zng (h:RdG W B g vn vr hs) (hB:B≤base) (hb:base≤W.heap.size) (o:Only (geB base) W w'):RdG w' B g vn vr hs:=h.below (o.below (Yi hB hb) fun _ hk=>Yi hB hk)
theorem Stp.ge {V V':Int→Value} {M:List Int} {q:QSt} {n:Nat} (s:Stp b mb V V' W w') (h:Qp W b mb base vn vr lim n V M q):Only (geB base) W w':=s.only.mono fun k _ hk=>h.ge hk
theorem Zl4 (hB:B≤base) (hN:g.nd.length≤1000000):RunC b base B g vn vr 117 ⟨b,0,none⟩ (nxB g lim) (GB g) (RB b mb base B g vn vr hs lim) where
 enters:=enters_of Tryz.func117 (by kernel_rfl) rfl
 next:=fun W q hb ⟨hr,V,h⟩ hG=>by
  refine(ZsT W b mb base B g vn vr hs lim V q h hr hB hb hG.ok hN hG.lk.le).mono ?_;rintro e w' ⟨V',rfl,h',s'⟩;have o:=s'.ge h;refine⟨?_,⟨Zng hr hB hb o,V',?_⟩,o⟩
  · unfold nxB
    cases hf:ZaF g lim q with
    |mk o q'=>cases o <;> rfl
  · unfold nxB
    revert h'
    cases hf:ZaF g lim q with
    |mk o q'=>
     intro h'
     cases o with
     |none=>exact h'
     |some i=>exact h'.says rfl rfl
 off:=fun W q hb ⟨hr,V,h⟩=>by
  refine(ZmY W b mb base _ vn vr lim V q h).mono ?_;rintro e w' ⟨V',rfl,h',s'⟩;have o:=s'.ge h;exact⟨rfl,⟨Zng hr hB hb o,V',h'⟩,o⟩
 fol:=fun W q A c l hb ⟨hr,V,h⟩ hl hn=>by
  refine(Zo0 W b mb base _ vn vr lim V _ q A c B l h hl hB hb hn).mono ?_;rintro e w' ⟨V',rfl,h',s'⟩;have o:=s'.ge h;exact⟨rfl,⟨Zng hr hB hb o,V',h'⟩,o⟩
 cn:=fun W q ⟨_,V,h⟩=>⟨h.box.cell 0,h.box.cell 1⟩
end
def Zei (g:Gr) (lim order block:Int):Int:=if ZA g=true then(if lim<1∨block<1∨(order≠0∧order≠1∧order≠2) then 1 else 0) else 4
def Zcz (g:Gr) (lim order block:Int):List Int:=if Zei g lim order block=0 then(Zb8 g lim order block).small else[]
def ZdE (g:Gr) (lim order block:Int):List Int:=if Zei g lim order block=0 then(Zb8 g lim order block).large else[]
structure GrBd (g:Gr):Prop where
 nd:g.nd.length≤1000
 rt:g.rt.length≤1000
theorem ZsM:Zn q0=fun _=>[]:=by
 funext i
 unfold Zn q0 PSt.none;simp
theorem Zpd {W0 W1:World} {b mb base:Nat} {vn vr:Value} {lim:Int} {n:Nat} (hb:Blk W1 b 174 #[vn,vr,.int .i64 lim,.slice (some ⟨mb,0,none⟩) n n,.slice none 0 0,.slice none 0 0,.int .i64 0,.slice none 0 0,.slice none 0 0]) (hm:Blk W1 mb 4 (flQ n [])) (h1:base≤b) (h2:base≤mb):
 Qp W1 b mb base vn vr lim n (fun _=>Zuy) [] q0:=
 ⟨hb,hm,by rw[ZsM];exact⟨fun _=>OwR.nil_,fun i j k _ h=>by cases h⟩,h1,h2⟩
end
section
open Go.RowKit Go.Lib
theorem ZkP:(Tryz.prog.info? 4).map (fun i=>(i.zero,i.size,i.bytes))=some (some (.bool false),1,1):=by kernel_rfl
theorem ZpD (n:Nat) (hn:n≤1000000) (w:World):(Instr.makeSlice 172 (.int .i64 (n:Int)) (.int .i64 (n:Int))).run Tryz.prog w=.ok (.slice (some ⟨w.heap.size,0,none⟩) n n) (w.alloc (.cells (flQ n []) 4)):=by
 obtain⟨i0,hi0,hz0,hz1,hz2⟩:=info_parts ZkP;have h:=run_make (P:=Tryz.prog) w 172 4 i0 _ Tryz.underlying172 hi0 hz0 .i64 .i64 n n (by omega) (Int.le_refl _) (by rw[hz2];omega) (by omega);rw[h];simp only[Int.toNat_natCast,hz1,Nat.mul_one]
 have e:madeCells (Value.bool false).cells n=flQ n []:=by
  apply Array.ext';show(madeCells #[.bool false] n).toList=_;rw[toList_madeCells_one];apply List.ext_getElem?;intro j;simp[flQ,List.getElem?_replicate]
  split <;> simp_all
 rw[e]
theorem ZqK {g:Gr} {lim order block:Int} {n:Int} (h:Zei g lim order block=n) (hn:n≠0):Zcz g lim order block=[]∧ZdE g lim order block=[]:=by
 unfold Zcz ZdE;rw[if_neg (by rw[h];exact hn),if_neg (by rw[h];exact hn)];exact⟨rfl,rfl⟩
def Zso (f:FuncId):Prop:= ∀(g:Gr) (vn vr:Value) (hs:List (Value×Value)) (B:Nat) (W:World) (lim block:Int),RdG W B g vn vr hs→B≤W.heap.size→GrFit g→GrBd g→block≤9223372036854775807→
 Calls Tryz.prog f #[.agg #[vn,vr],.int .i64 lim,.int .i64 0,.int .i64 block] W fun e w'=> ∃v1 v2,e=.returned (.tuple #[v1,v2,.int .i64 (Zei g lim 0 block)])∧
  OwR w' W.heap.size 3 v1 (Zcz g lim 0 block).length (i64s (Zcz g lim 0 block))∧OwR w' W.heap.size 3 v2 (ZdE g lim 0 block).length (i64s (ZdE g lim 0 block))∧Only nob W w'
theorem Zhm:Zso 76:=by
 intro g vn vr hs B W lim block hr hB hfit hbd hblkm;obtain⟨An,cn,rfl,hacn,hcmn⟩:=hr.nodes.form;obtain⟨Ar,cr,rfl,hacr,hcmr⟩:=hr.roots.form
 obtain⟨W1,hW1,o1,b1⟩: ∃X,W.alloc (.cells #[.slice An g.nd.length cn,.slice Ar g.rt.length cr] 27)=X∧Only nob W X∧Blk X W.heap.size 27 #[.slice An g.nd.length cn,.slice Ar g.rt.length cr]:=⟨_,rfl,(Only.refl nob W).alloc _,Blk.new _ _ _⟩
 have HW1:=ZZ hW1;have O1:=ZZ o1;have B1:=ZZ b1;have HG:=ZZ hr;have HBW:=ZZ hB;have HBD:=ZZ hbd;have HRT:=ZZ (fun (W':World) (o:Only nob W W')=>ZcG g _ _ hs B W' (hr.only o hB) (Yi hB o.size) hfit);have c0:W1.cell? ⟨W.heap.size,0,none⟩=some (.slice An g.nd.length cn):=b1.cell 0;have c1:W1.cell? ⟨W.heap.size,1,none⟩=some (.slice Ar g.rt.length cr):=b1.cell 1
 obtain⟨E,hE⟩: ∃E,E=Zei g lim 0 block:=⟨_,rfl⟩
 have HE:=ZZ hE;rw[← hE]
 obtain⟨gk,hgk⟩: ∃k,k=ZA g:=⟨_,rfl⟩
 have HGK:=ZZ hgk;rw[← hgk] at HRT;unfold maxLen at hcmn;clear hW1 o1 b1 hr hB hfit hbd hE hgk
 have go: ∀(E':Int),E=E'→E'≠0→ ∀w',Only nob W w'→ ∃v1 v2,Ending.returned (.tuple #[.slice none 0 0,.slice none 0 0,.int .i64 E'])=.returned (.tuple #[v1,v2,.int .i64 E])∧
  OwR w' W.heap.size 3 v1 (Zcz g lim 0 block).length (i64s (Zcz g lim 0 block))∧OwR w' W.heap.size 3 v2 (ZdE g lim 0 block).length (i64s (ZdE g lim 0 block))∧Only nob W w':=fun E' h1 h2 w' o=>by
  obtain⟨p1,p2⟩:=ZqK (HE.out.symm.trans h1) h2;refine⟨_,_,by rw[h1],?_,?_,o⟩
  · rw[p1];exact OwR.nil_
  · rw[p2];exact OwR.nil_
 have GO:=ZZ go;clear go
 go_enter Tryz.func76,Tryz.ntmps76
 go_upto_region 1 with fail
 rw[HW1.out]
 go_wp2_with fail
 go_at_call 78;refine(HRT.out W1 O1.out).mono ?_;rintro e w2 ⟨rfl,o2⟩;have O2:=ZZ (O1.out.trans o2);have B2:=ZZ (B1.out.keep o2 id);have d0:=o2.keeps c0;have d1:=o2.keeps c1;clear c0 c1 o2
 cases gk with
 |false=>
  have HF:=ZZ (show E=4 by rw[HE.out];unfold Zei;rw[if_neg (by rw[← HGK.out];simp)]);clear d0 d1;go_wp2
  go_ret3
  exact GO.out 4 HF.out (by decide) _ O2.out
 |true=>
  by_cases hlb:lim<1∨block<1
  · have HF:=ZZ (show E=1 by
     rw[HE.out];unfold Zei;rw[if_pos HGK.out.symm,if_pos (by rcases hlb with h|h;exact .inl h;exact .inr (.inl h))])
    clear d0 d1;by_cases hl1:lim<1
    · clear hlb
      go_wp2
      go_ret3
      exact GO.out 1 HF.out (by decide) _ O2.out
    · have hb1:block<1:=hlb.resolve_left hl1
      clear hlb;go_wp2
      go_ret3
      exact GO.out 1 HF.out (by decide) _ O2.out
  · have hl1: ¬lim<1:=fun h=>hlb (.inl h)
    have hb1: ¬block<1:=fun h=>hlb (.inr h);have HLB:=ZZ hlb;clear hlb
    go_upto_region 5 with fail
    refine Zdy (stop:=8) (S:=fun w':World=>w'.cell? ⟨W.heap.size,0,none⟩=some (.slice An g.nd.length cn)∧w'.cell? ⟨W.heap.size,1,none⟩=some (.slice Ar g.rt.length cr)) (by kernel_rfl) ⟨d0,d1⟩ (fun hHeld=>?_);clear d0 d1
    obtain⟨WD,hWD,oD⟩: ∃X,w2.drew=X∧Only nob w2 X:=⟨_,rfl,(Only.refl nob w2).drewN 1⟩
    rw[hWD] at hHeld ⊢;have OD:=ZZ (O2.out.trans oD);clear hWD oD;refine Zs (i:=0) (v:=?_) rfl (by kernel_rfl) (by kernel_rfl) (by kernel_rfl) (by kernel_rfl) (fun _ _ _ h=>h) (Or.inl ⟨by rfl,?_⟩) hHeld ?_;rotate_left
    · intro w hSw;(try dsimp only at hSw);go_simp;first|done|with_reducible rfl
    try simp only[Act.put,Yb,Yd,Yc,Yh,Yf,Yg]
    refine Zs (i:=1) (v:=?_) rfl (by kernel_rfl) (by kernel_rfl) (by kernel_rfl) (by kernel_rfl) (fun _ _ _ h=>h) (Or.inl ⟨by rfl,?_⟩) hHeld ?_;rotate_left
    · intro w hSw;(try dsimp only at hSw);go_simp;first|done|with_reducible rfl
    try simp only[Act.put,Yb,Yd,Yc,Yh,Yf,Yg]
    refine Zs (i:=2) (v:=?_) rfl (by kernel_rfl) (by kernel_rfl) (by kernel_rfl) (by kernel_rfl) (fun _ _ _ h=>h) (Or.inl ⟨by rfl,?_⟩) hHeld ?_;rotate_left
    · intro w hSw;(try dsimp only at hSw);go_simp;first|done|with_reducible rfl
    try simp only[Act.put,Yb,Yd,Yc,Yh,Yf,Yg]
    refine Zs (i:=3) (v:=?_) rfl (by kernel_rfl) (by kernel_rfl) (by kernel_rfl) (by kernel_rfl) (fun _ _ _ h=>h) (Or.inl ⟨by rfl,?_⟩) hHeld ?_;rotate_left
    · intro w hSw;(try dsimp only at hSw);go_simp;first|done|with_reducible rfl
    try simp only[Act.put,Yb,Yd,Yc,Yh,Yf,Yg]
    refine Zs (i:=4) (v:=?_) rfl (by kernel_rfl) (by kernel_rfl) (by kernel_rfl) (by kernel_rfl) (fun _ _ _ h=>h) (Or.inl ⟨by rfl,?_⟩) hHeld ?_;rotate_left
    · intro w hSw;(try dsimp only at hSw);go_simp;first|done|with_reducible rfl
    try simp only[Act.put,Yb,Yd,Yc,Yh,Yf,Yg]
    obtain⟨X2,hX2,oX2,bX2,sX2⟩: ∃X,WD.alloc (.cells (flQ g.nd.length []) 4)=X∧Only nob WD X∧Blk X WD.heap.size 4 (flQ g.nd.length [])∧X.heap.size=WD.heap.size+1:=⟨_,rfl,(Only.refl nob WD).alloc _,Blk.new _ _ _,by simp⟩
    have hmk:=ZpD g.nd.length (by have:=HBD.out.nd;omega) WD;rw[hX2] at hmk;have HOX2:=ZZ oX2;have OX2:=ZZ (OD.out.trans oX2);have BX2:=ZZ bX2;clear hX2 oX2 bX2 sX2;refine ZD (rs:=[5]) (by kernel_rfl) (by simp) ?_;refine(ZcN.cons rfl (fun K hK=>?_) ZcN.nil);go_simp;refine hK.out _ _ (fun _=>⟨HOX2.out.keeps hHeld.1,HOX2.out.keeps hHeld.2⟩) (fun hHeld2=>?_);clear hK K hHeld;have hHeld:=hHeld2 (by decide);clear hHeld2
    try simp only[Act.put,Yb,Yd,Yc,Yh,Yf,Yg]
    refine Zs (i:=6) (v:=?_) rfl (by kernel_rfl) (by kernel_rfl) (by kernel_rfl) (by kernel_rfl) (fun _ _ _ h=>h) (Or.inl ⟨by rfl,?_⟩) hHeld ?_;rotate_left
    · intro w hSw;(try dsimp only at hSw);go_simp;first|done|with_reducible rfl
    try simp only[Act.put,Yb,Yd,Yc,Yh,Yf,Yg]
    obtain⟨X3,hX3,oX3,bX3⟩: ∃X,X2.alloc (.cells #[.slice An g.nd.length cn,.slice Ar g.rt.length cr,.int .i64 lim,.slice (some ⟨WD.heap.size,0,none⟩) g.nd.length g.nd.length,.slice none 0 0,.slice none 0 0,.int .i64 0,.slice none 0 0,.slice none 0 0] 174)=X∧Only nob X2 X∧Blk X X2.heap.size 174 #[.slice An g.nd.length cn,.slice Ar g.rt.length cr,.int .i64 lim,.slice (some ⟨WD.heap.size,0,none⟩) g.nd.length g.nd.length,.slice none 0 0,.slice none 0 0,.int .i64 0,.slice none 0 0,.slice none 0 0]:=⟨_,rfl,(Only.refl nob X2).alloc _,Blk.new _ _ _⟩
    have HX3:=ZZ hX3;have HOX3:=ZZ oX3;have OX3:=ZZ (OX2.out.trans oX3);have HQ:=ZZ (Zpd (W0:=W) (base:=W.heap.size) bX3 (BX2.out.keep oX3 id) OX2.out.size OD.out.size);have HG3:=ZZ (HG.out.only OX3.out HBW.out);clear hX3 oX3 bX3 hmk;refine ZD (rs:=[7]) (by kernel_rfl) (by simp) ?_;refine(ZcN.cons rfl (fun K hK=>?_) ZcN.nil);go_simp
    with_reducible rw[HX3.out]
    refine hK.out _ _ (fun _=>⟨HOX3.out.keeps hHeld.1,HOX3.out.keeps hHeld.2⟩) (fun hHeld2=>?_);clear hK K hHeld;have hHeld:=hHeld2 (by decide);clear hHeld2
    try simp only[Act.put,Yb,Yd,Yc,Yh,Yf,Yg]
    refine ZD (rs:=[8]) (by kernel_rfl) (by simp) ?_;refine(ZcN.cons rfl (fun K hK=>?_) ZcN.nil);go_simp;refine hK.out _ _ (fun h=>absurd rfl h) (fun hHeld2=>?_);clear hK K hHeld hHeld2
    try simp only[Act.put,Yb,Yd,Yc,Yh,Yf,Yg]
    refine ZeJ (by kernel_rfl) ?_ _
    obtain⟨bp,hbp⟩: ∃b,b=X2.heap.size:=⟨_,rfl⟩
    obtain⟨mb,hmb⟩: ∃b,b=WD.heap.size:=⟨_,rfl⟩
    rw[← hbp, ← hmb] at HQ;rw[← hbp, ← hmb];clear hbp hmb BX2 HX3 HOX3 HOX2 OX2 OD;have HRB:=ZZ (show RB bp mb W.heap.size B g _ _ hs lim X3 q0 from⟨HG3.out,_,HQ.out⟩);have hgk:ZA g=true:=HGK.out.symm;have HGO:=ZZ hgk;have hN1:=HBD.out.nd;have hR1:=HBD.out.rt
    have HF:=ZZ (show E=0 by
     rw[HE.out];unfold Zei;rw[if_pos HGO.out,if_neg (by rintro(h|h|h);omega;omega;exact h.1 rfl)])
    obtain⟨m,ee,hrun,hee⟩:=Zjb (g:=g) lim block hgk;have HEE:=ZZ hee;have HC:=ZZ (Zux bp W.heap.size B g _ _ hs 117 ⟨bp,0,none⟩ _ _ _ (Zl4 (mb:=mb) (hs:=hs) HBW.out (by omega)) HBW.out X3 q0 ee m HRB.out HG3.out OX3.out.size hrun (by show g.rt.length+0≤_;omega));clear hrun hee hN1 hR1 hgk
    go_wp2_with fail
    go_at_call 116;refine HC.out.mono ?_;rintro e w5 ⟨rfl,hRE,oE⟩;obtain⟨-,V,HQE0⟩:=hRE;have HQE:=ZZ HQE0;have HO:=ZZ (show Only nob W w5 from OX3.out.andThen oE fun i hi e=>by unfold geB at e;omega);obtain⟨A4,k4,hv4, -, -⟩:=(HQE0.rows.own (-1)).form;obtain⟨A5,k5,hv5, -, -⟩:=(HQE0.rows.own (-2)).form;have c4:w5.cell? ⟨bp,4,none⟩=some (V (-1)):=HQE0.cell Zik;have c5:w5.cell? ⟨bp,5,none⟩=some (V (-2)):=HQE0.cell ZrL;have h4:=HQE0.rows.own (-1);have h5:=HQE0.rows.own (-2);rw[hv4] at c4 h4;rw[hv5] at c5 h5
    have hr4:Zn ee (-1)=Zcz g lim 0 block:=by unfold Zcz;rw[if_pos (HE.out.symm.trans HF.out)];show ee.s.small=_;rw[HEE.out]
    have hr5:Zn ee (-2)=ZdE g lim 0 block:=by unfold ZdE;rw[if_pos (HE.out.symm.trans HF.out)];show ee.s.large=_;rw[HEE.out]
    rw[hr4] at h4 c4;rw[hr5] at h5 c5;have H4:=ZZ h4;have H5:=ZZ h5;clear hv4 hv5 hr4 hr5 h4 h5 HQE0 oE;go_wp2
    go_quiet (fail)
    go_wp2
    go_ret3
    refine⟨_,_,by rw[HF.out];rfl,H4.out.only ((Only.refl nob w5).drewN _) fun _ _ h=>h,H5.out.only ((Only.refl nob w5).drewN _) fun _ _ h=>h,HO.out.trans ((Only.refl nob w5).drewN _)⟩
end
end Go.Proofs.YtknoncenblehkaaGreatDoor
