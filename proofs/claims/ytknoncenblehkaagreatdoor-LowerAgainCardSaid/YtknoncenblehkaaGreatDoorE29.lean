/- Graphs that are alike: nodes paired; what is met of two of t -/
import Derived.Test.YtknoncenblehkaaGreatDoorE28
set_option maxRecDepth 100000
set_option maxHeartbeats 32000000
set_option linter.unusedSimpArgs false
set_option linter.unusedVariables false
namespace Go.Proofs.YtknoncenblehkaaGreatDoor
open Go.RowKit Go.Lib
def ZcX {α β:Type} (R:α→β→Prop):List α→List β→Prop
 |[],[]=>True
 |x::l,y::m=>R x y∧ZcX R l m
 |_,_=>False
section
variable {α β γ δ:Type} {R:α→β→Prop}
theorem ZcX.len: ∀{l:List α} {m:List β},ZcX R l m→l.length=m.length
 |[],[],_=>rfl
 |_::_,_::_,h=>by simpa using h.2.len
 |[],_::_,h=>h.elim
 |_::_,[],h=>h.elim
theorem ZcX.at_: ∀{l:List α} {m:List β},ZcX R l m→ ∀{j:Nat} {x:α} {y:β},l[j]? =some x→m[j]? =some y→R x y
 |[],[],_,j,x,y,hx,_=>by simp at hx
 |_::_,_::_,h,0,x,y,hx,hy=>by
  obtain rfl:=Yp hx;obtain rfl:=Yp hy;exact h.1
 |_::_,_::_,h,j+1,x,y,hx,hy=>h.2.at_ (j:=j) (by simpa using hx) (by simpa using hy)
 |[],_::_,h,_,_,_,_,_=>h.elim
 |_::_,[],h,_,_,_,_,_=>h.elim
theorem ZcX.snoc: ∀{l:List α} {m:List β} {x:α} {y:β},ZcX R l m→R x y→ZcX R (l++[x]) (m++[y])
 |[],[],_,_,_,h=>⟨h,trivial⟩
 |_::_,_::_,_,_,h,k=>⟨h.1,h.2.snoc k⟩
 |[],_::_,_,_,h,_=>h.elim
 |_::_,[],_,_,h,_=>h.elim
theorem ZcX.flip: ∀{l:List α} {m:List β},ZcX R l m→ZcX (fun y x=>R x y) m l
 |[],[],_=>trivial
 |_::_,_::_,h=>⟨h.1,h.2.flip⟩
 |[],_::_,h=>h.elim
 |_::_,[],h=>h.elim
theorem ZcX.left: ∀{l:List α} {m:List β},ZcX R l m→ ∀{x:α},x∈l→ ∃y,y∈m∧R x y
 |[],[],_,x,hx=>by cases hx
 |a::l,b::m,h,x,hx=>by
  rcases List.mem_cons.1 hx with rfl|hx
  · exact⟨b,List.mem_cons_self,h.1⟩
  · obtain⟨y,hy,hr⟩:=h.2.left hx
    exact⟨y,List.mem_cons_of_mem _ hy,hr⟩
 |[],_::_,h,_,_=>h.elim
 |_::_,[],h,_,_=>h.elim
theorem ZcX.map_eq {f:α→γ} {g:β→γ}: ∀{l:List α} {m:List β},ZcX R l m→(∀x y,x∈l→y∈m→R x y→f x=g y)→l.map f=m.map g
 |[],[],_,_=>rfl
 |x::l,y::m,h,k=>by
  rw[List.map_cons,List.map_cons,k x y List.mem_cons_self List.mem_cons_self h.1,h.2.map_eq fun x y hx hy=>k x y (List.mem_cons_of_mem _ hx) (List.mem_cons_of_mem _ hy)]
 |[],_::_,h,_=>h.elim
 |_::_,[],h,_=>h.elim
end
def Zpr (f:Int→Int→Prop) (x y:Sp):Prop:=x.1=y.1∧(x.1=2→f x.2 y.2)∧(x.1≠2→x.2=y.2)
def Zq8 (f:Int→Int→Prop) (d e:Nd):Prop:=d.kd=e.kd∧d.rs=e.rs∧ZcX (Zpr f) d.fs e.fs
structure Iso (a b:Gr) (f:Int→Int→Prop):Prop where
 rt:ZcX (Zpr f) a.rt b.rt
 nd: ∀i k,f i k→Zq8 f (ZcK a i) (ZcK b k)
 rng: ∀i k,f i k→(0≤i∧i<(a.nd.length:Int))∧0≤k∧k<(b.nd.length:Int)
 fn: ∀i k k',f i k→f i k'→k=k'
 inj: ∀i i' k,f i k→f i' k→i=i'
theorem Zor {f:Int→Int→Prop} {d e:Nd} (h:Zq8 f d e):ndSz d=ndSz e:=by
 unfold ndSz ZiX;rw[h.2.1,h.2.2.len]
structure SimP (f:Int→Int→Prop) (s t:PSt):Prop where
 sm:ZcX f s.small t.small
 bg:s.begins=t.begins
 lk:s.looked=t.looked
 l1:s.large=[]
 l2:t.large=[]
 p1:s.pile=[]
 p2:t.pile=[]
 tp:s.top=t.top
theorem SimP.mark {f:Int→Int→Prop} {s t:PSt} (h:SimP f s t) (i:Nat):SimP f (s.mark i) (t.mark i):=⟨h.sm,h.bg,by unfold PSt.mark;rw[h.lk],h.l1,h.l2,h.p1,h.p2,h.tp⟩
section
variable {a b:Gr} {f:Int→Int→Prop} {lim:Int}
theorem Zj1 (I:Iso a b f) {l m:List Int} (h:ZcX f l m) {x y:Int} (hf:f x y):x∈l↔y∈m:=by
 constructor
 · intro hx
   obtain⟨y',hy,hr⟩:=h.left hx;rw[I.fn x y y' hf hr];exact hy
 · intro hy
   obtain⟨x',hx,hr⟩:=h.flip.left hy;rw[I.inj x x' y hf hr];exact hx
theorem Zl6 (ha:ZP a=true) (hb:ZP b=true) (I:Iso a b f) (hl:8193≤lim) {v u:Sp} (hv:Zpr f v u) {s t:PSt} (h:SimP f s t):SimP f (Zah a lim v s) (Zah b lim u t):=by
 have n1: ¬lim<ndSz (ZcK a v.2):=by have:=Zg6 ha v.2;omega
 have n2: ¬lim<ndSz (ZcK b u.2):=by have:=Zg6 hb u.2;omega
 unfold Zah;rw[if_neg n1,if_neg n2];by_cases h2:v.1=2
 · have hf:=hv.2.1 h2
   have e1:decide (v.2∈s.small)=decide (u.2∈t.small):=decide_eq_decide.2 (Zj1 I h.sm hf);have e2:decide (v.1=2)=decide (u.1=2):=decide_eq_decide.2 (by rw[hv.1])
   have e:Zac v s=Zac u t:=by
    unfold Zac;rw[h.l1,h.l2,e1,e2];simp
   rw[e];by_cases hn:Zac u t=true
   · rw[if_pos hn,if_pos hn]
     refine⟨h.sm.snoc hf,?_,?_,h.l1,h.l2,h.p1,h.p2,?_⟩
     · show s.begins++[s.top]=t.begins++[t.top]
       rw[h.bg,h.tp]
     · show s.looked++[false]=t.looked++[false]
       rw[h.lk]
     · show wrap64 (s.top+ndSz (ZcK a v.2))=wrap64 (t.top+ndSz (ZcK b u.2))
       rw[h.tp,Zor (I.nd _ _ hf)]
   · rw[if_neg hn,if_neg hn];exact h
 · have e1:Zac v s=false:=by unfold Zac;rw[Yl h2];rfl
   have e2:Zac u t=false:=by unfold Zac;rw[Yl (fun e=>h2 (hv.1.trans e))];rfl
   rw[e1,e2,if_neg (by decide),if_neg (by decide)];exact h
theorem ZeT (ha:ZP a=true) (hb:ZP b=true) (I:Iso a b f) (hl:8193≤lim): ∀(l m:List Sp) (s t:PSt),ZcX (Zpr f) l m→SimP f s t→SimP f (Zdx a lim l s) (Zdx b lim m t)
 |[],[],s,t,_,h=>h
 |v::l,u::m,s,t,hv,h=>ZeT ha hb I hl l m _ _ hv.2 (Zl6 ha hb I hl hv.1 h)
 |[],_::_,_,_,hv,_=>hv.elim
 |_::_,[],_,_,hv,_=>hv.elim
theorem Znc {block:Int} {s t:PSt} (h:SimP f s t):ZdH 0 block s=ZdH 0 block t:=by
 unfold ZdH;rw[if_neg (by rintro⟨e, -⟩;cases e),if_neg (by rintro⟨e, -⟩;cases e)];unfold Zdy;rw[h.sm.len,h.lk,h.bg]
theorem Zod {block:Int} {s:PSt} {i:Nat} (h:ZdH 0 block s=some i):i<s.small.length:=by
 unfold ZdH at h;rw[if_neg (by rintro⟨e, -⟩;cases e)] at h;unfold Zdy at h
 have:=List.mem_of_find?_eq_some h
 exact List.mem_range.1 this
theorem Zl9 (ha:ZP a=true) (hb:ZP b=true) (I:Iso a b f) (hl:8193≤lim) (block:Int) {s t:PSt} (h:SimP f s t):
 (ZbR a lim 0 block s=none∧ZbR b lim 0 block t=none)∨ ∃s' t',ZbR a lim 0 block s=some s'∧ZbR b lim 0 block t=some t'∧SimP f s' t':=by
 unfold ZbR;rw[← Znc h]
 cases hn:ZdH 0 block s with
 |none=>
  rw[h.p1,h.p2];exact .inl ⟨rfl,rfl⟩
 |some i=>
  refine .inr ⟨_,_,rfl,rfl,?_⟩;have hi:=Zod hn
  have hi2:i<t.small.length:=by rw[← h.sm.len];exact hi
  have hf:f (s.small.getD i 0) (t.small.getD i 0):=h.sm.at_ (j:=i) (by rw[Yn,Ya hi];rfl) (by rw[Yn,Ya hi2];rfl);unfold Zad;rw[if_neg (by decide),if_neg (by decide)];exact ZeT ha hb I hl _ _ _ _ (I.nd _ _ hf).2.2 (h.mark i)
theorem ZhR (ha:ZP a=true) (hb:ZP b=true) (I:Iso a b f) (hl:8193≤lim) (block:Int): ∀(n:Nat) (s t:PSt),SimP f s t→SimP f (Zeb a lim 0 block n s) (Zeb b lim 0 block n t)
 |0,s,t,h=>h
 |n+1,s,t,h=>by
  rw[Zeb,Zeb]
  rcases Zl9 ha hb I hl block h with⟨e1,e2⟩|⟨s',t',e1,e2,h'⟩
  · rw[e1,e2];exact h
  · rw[e1,e2];exact ZhR ha hb I hl block n s' t' h'
theorem Ze1 {g:Gr} {lim order block:Int}: ∀(n:Nat) (s:PSt),ZbR g lim order block (Zeb g lim order block n s)=none→ ∀k,Zeb g lim order block (n+k) s=Zeb g lim order block n s
 |0,s,h,k=>by
  rw[Zeb] at h ⊢
  cases k with
  |zero=>rw[Nat.zero_add,Zeb]
  |succ k=>rw[Nat.zero_add,Zeb,h]
 |n+1,s,h,k=>by
  rw[Zeb] at h ⊢;rw[Nat.add_right_comm,Zeb]
  cases e:ZbR g lim order block s with
  |none=>rfl
  |some s'=>
   rw[e] at h;exact Ze1 n s' h k
theorem ZmA:SimP f .none .none:=⟨trivial,rfl,rfl,rfl,rfl,rfl,rfl,rfl⟩
theorem Zja (ha:ZP a=true) (hb:ZP b=true) (I:Iso a b f) (hl:8193≤lim) (block:Int):SimP f (Zed a lim 0 block) (Zed b lim 0 block):=by
 obtain⟨wa,ca⟩:=ZcR lim 0 ha;obtain⟨wb,cb⟩:=ZcR lim 0 hb;have ea:=(ZfV (lim:=lim) (order:=0) (block:=block) ha (a.nd.length+1) _ wa ca (by omega)).2.2;have eb:=(ZfV (lim:=lim) (order:=0) (block:=block) hb (b.nd.length+1) _ wb cb (by omega)).2.2;have q1:=Ze1 _ _ ea b.nd.length;have q2:=Ze1 _ _ eb a.nd.length;unfold Zed;rw[← q1, ← q2,show a.nd.length+1+b.nd.length=b.nd.length+1+a.nd.length by omega];refine ZhR ha hb I hl block _ _ _ ?_;unfold Zad;rw[if_neg (by decide),if_neg (by decide)];exact ZeT ha hb I hl _ _ _ _ I.rt ZmA
theorem Zjx (ha:ZP a=true) (hb:ZP b=true) (I:Iso a b f):ZcX f (ZaG a 0) (ZaG b 0):=by
 unfold ZaG;rw[if_pos ha,if_pos hb];exact(Zja ha hb I (by decide) 1).sm
end
theorem ZeV {g:Gr} (hg:ZP g=true):Zhm g.nd.length (ZaG g 0)=true:=by
 rw[ZG];unfold ZaG;rw[if_pos hg];have w:=Zkn hg 1000000 0 1;exact⟨fun x hx=>w.rng x (Yr.2 (.inl hx)),(List.nodup_append.1 w.nodup).1⟩
theorem ZeQ {g:Gr} (hg:ZP g=true) (x:Int):x∈ZaG g 0↔Rch g x:=by
 have:=(Zl3 (g:=g) 1000000 0 1 hg).2 x
 rw[← this];unfold PSt.met ZaG;rw[Zjb hg,if_pos hg,List.append_nil]
theorem Zoz {g:Gr} (hg:ZP g=true):RnOk g (ZaG g 0):=by
 refine⟨hg,ZeV hg,?_,?_⟩
 · rw[List.all_eq_true]
   intro d hd;obtain⟨x,hx,rfl⟩:=List.mem_map.1 hd;unfold Zno;rw[List.all_eq_true];intro v hv;unfold Zfh;by_cases h2:v.1=2
   · rw[Ym h2,Ym ((ZeQ hg _).2 (Rch.next ((ZeQ hg x).1 hx) hv h2))];rfl
   · rw[Yl h2];rfl
 · unfold Zno
   rw[List.all_eq_true];intro v hv;unfold Zfh;by_cases h2:v.1=2
   · rw[Ym h2,Ym ((ZeQ hg _).2 (Rch.root hv h2))];rfl
   · rw[Yl h2];rfl
def ZkW (g:Gr):Gr:=rnG g (ZaG g 0)
theorem Zlq {g:Gr} (hg:ZP g=true):ZkW g=⟨(ZbB g (ZaG g 0)).map (ndT (ZaG g 0)),Z5 (ZaG g 0) g.rt⟩:=if_pos (ZbV.2 (Zoz hg))
section
variable {a b:Gr} {f:Int→Int→Prop}
theorem Zm3 (I:Iso a b f) {l m:List Int} (h:ZcX f l m) (hl:l.Nodup) (hm:m.Nodup) {x y:Int} (hf:f x y):plc l x=plc m y:=by
 by_cases hx:x∈l
 · obtain⟨j,h1,h2⟩:=plc_at hx
   have hjl:=(Yk.1 h2).1
   obtain⟨y',hy'⟩: ∃y',m[j]? =some y':=⟨_,Ya (by rw[← h.len];exact hjl)⟩
   have hr:=h.at_ h2 hy';rw[h1,I.fn x y y' hf hr,Zll hm hy']
 · have hy:y∉m:=fun hy=>hx ((Zj1 I h hf).2 hy)
   rw[ZgZ hx,ZgZ hy]
theorem Zgo (I:Iso a b f) {l m:List Int} (h:ZcX f l m) (hl:l.Nodup) (hm:m.Nodup) {x y:Sp} (hf:Zpr f x y):Za4 l x=Za4 m y:=by
 unfold Za4;by_cases h2:x.1=2
 · rw[if_pos h2,if_pos (hf.1▸h2),Zm3 I h hl hm (hf.2.1 h2)]
 · rw[if_neg h2,if_neg (fun e=>h2 (hf.1.trans e))]
   exact Prod.ext hf.1 (hf.2.2 h2)
theorem Zjl (ha:ZP a=true) (hb:ZP b=true) (I:Iso a b f):ZkW a=ZkW b:=by
 have h:=Zjx ha hb I;have n1:=(ZG.1 (ZeV ha)).2;have n2:=(ZG.1 (ZeV hb)).2;rw[Zlq ha,Zlq hb]
 have e1:(ZbB a (ZaG a 0)).map (ndT (ZaG a 0))=(ZbB b (ZaG b 0)).map (ndT (ZaG b 0)):=by
  unfold ZbB;rw[List.map_map,List.map_map];refine h.map_eq fun x y hx hy hf=>?_;have hn:=I.nd x y hf;show ndT (ZaG a 0) (ZcK a x)=ndT (ZaG b 0) (ZcK b y);unfold ndT Z5;rw[hn.1,hn.2.1,hn.2.2.map_eq fun v u _ _ hv=>Zgo I h n1 n2 hv]
 have e2:Z5 (ZaG a 0) a.rt=Z5 (ZaG b 0) b.rt:=by
  unfold Z5;exact I.rt.map_eq fun v u _ _ hv=>Zgo I h n1 n2 hv
 rw[e1,e2]
end
noncomputable def Zhz (a b:Gr):Bool:=ZP a&&(ZP b&&Zqf (ZkW a) (ZkW b))
theorem Zkt {a b:Gr}:Zhz a b=true↔ZP a=true∧ZP b=true∧ZkW a=ZkW b:=by
 unfold Zhz Zqf;simp
theorem ZfM {n m:Nat} {o:List Int} {v:Sp} (h:vOk n v=true) (hn:o.length≤1000000) (ht:Zfh o v=true) (hm:o.length=m):vOk m (Za4 o v)=true:=by
 unfold Za4;by_cases h2:v.1=2
 · rw[if_pos h2]
   unfold Zfh at ht;rw[Ym h2] at ht
   have hx:v.2∈o:=by simpa using ht
   obtain⟨j,e1,e2⟩:=plc_at hx;have hj:=(Yk.1 e2).1;rw[e1];unfold vOk Za2;simp[vin];omega
 · rw[if_neg h2]
   unfold vOk at h ⊢;rw[Yl h2] at h ⊢;simpa using h
theorem ZjM {g:Gr} {o:List Int} (h:RnOk g o) (hn:o.length≤1000000):ZP ⟨(ZbB g o).map (ndT o),Z5 o g.rt⟩=true:=by
 obtain⟨h1,h2⟩:=Zt.1 h.may;have ho:=ZG.1 h.ord
 have hlen:((ZbB g o).map (ndT o)).length=o.length:=by unfold ZbB;simp
 refine Zt.2 ⟨fun d hd=>?_,fun v hv=>?_⟩
 · simp only at hd ⊢
   rw[hlen];obtain⟨d0,hd0,rfl⟩:=List.mem_map.1 hd;obtain⟨a1,a2,a3,a4⟩:=ZS.1 (h1 d0 (ZcN ho.1 hd0));have c:=List.all_eq_true.1 h.nds d0 hd0;refine ZS.2 ⟨a1,by unfold ndT Z5;simpa using a2,a3,fun v hv=>?_⟩;unfold ndT Z5 at hv;obtain⟨v0,hv0,rfl⟩:=List.mem_map.1 hv;exact ZfM (a4 v0 hv0) hn (List.all_eq_true.1 c v0 hv0) rfl
 · simp only at hv ⊢
   rw[hlen];unfold Z5 at hv;obtain⟨v0,hv0,rfl⟩:=List.mem_map.1 hv;exact ZfM (h2 v0 hv0) hn (List.all_eq_true.1 h.rts v0 hv0) rfl
theorem ZfN {o:List Int} {v:Sp} (ht:Zfh o v=true):Zpr (fun i k=> ∃j:Nat,o[j]? =some i∧k=j) v (Za4 o v):=by
 unfold Za4;by_cases h2:v.1=2
 · rw[if_pos h2]
   unfold Zfh at ht;rw[Ym h2] at ht
   have hx:v.2∈o:=by simpa using ht
   obtain⟨j,e1,e2⟩:=plc_at hx;exact⟨h2,fun _=>⟨j,e2,e1⟩,fun e=>absurd h2 e⟩
 · rw[if_neg h2]
   exact⟨rfl,fun e=>absurd e h2,fun _=>rfl⟩
theorem ZeX {α β:Type} {R:α→β→Prop} {f:α→β}: ∀{l:List α},(∀x∈l,R x (f x))→ZcX R l (l.map f)
 |[],_=>trivial
 |x::l,h=>⟨h x List.mem_cons_self,ZeX fun y hy=>h y (List.mem_cons_of_mem _ hy)⟩
theorem Zp0 {g:Gr} {o:List Int} (h:RnOk g o):Iso g ⟨(ZbB g o).map (ndT o),Z5 o g.rt⟩ (fun i k=> ∃j:Nat,o[j]? =some i∧k=j):=by
 obtain⟨ro,no⟩:=ZG.1 h.ord;refine⟨?_,?_,?_,?_,?_⟩
 · exact ZeX fun v hv=>ZfN (List.all_eq_true.1 h.rts v hv)
 · rintro i k ⟨j,e1,rfl⟩
   have p1:(ZbB g o)[j]? =some (ZcK g i):=by unfold ZbB;rw[List.getElem?_map,e1];rfl
   have c1:=List.all_eq_true.1 h.nds _ (Yo p1)
   have e2:ZcK ⟨(ZbB g o).map (ndT o),Z5 o g.rt⟩ (j:Int)=ndT o (ZcK g i):=by
    unfold ZcK;rw[show((j:Int)).toNat=j from rfl,Yn];simp only;rw[List.getElem?_map,p1];rfl
   rw[e2];exact⟨rfl,rfl,ZeX fun v hv=>ZfN (List.all_eq_true.1 c1 v hv)⟩
 · rintro i k ⟨j,e1,rfl⟩
   refine⟨ro i (Yo e1),?_⟩
   have:=(Yk.1 e1).1
   simp[ZbB];omega
 · rintro i k k' ⟨j,e1,rfl⟩ ⟨j',e2,rfl⟩
   rw[ZcQ no e1 e2]
 · rintro i i' k ⟨j,e1,rfl⟩ ⟨j',e2,e3⟩
   have:j=j':=by omega
   subst this;exact Yp (e1.symm.trans e2)
theorem ZoY {g:Gr} {o:List Int} (h:rnE g o=0) (hn:o.length≤1000000):ZP (rnG g o)=true∧ZkW (rnG g o)=ZkW g:=by
 have ho:=ZbV.1 h
 have e:rnG g o=⟨(ZbB g o).map (ndT o),Z5 o g.rt⟩:=by unfold rnG;rw[if_pos h]
 have h1:=ZjM ho hn;rw[e];exact⟨h1,(Zjl ho.may h1 (Zp0 ho)).symm⟩
end Go.Proofs.YtknoncenblehkaaGreatDoor
