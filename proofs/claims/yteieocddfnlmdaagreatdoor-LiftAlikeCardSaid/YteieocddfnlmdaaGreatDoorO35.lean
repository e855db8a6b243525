/- Graphs that are alike: nodes paired; what is met of two of t -/
import Derived.Test.YteieocddfnlmdaaGreatDoorO34
set_option maxRecDepth 100000
set_option maxHeartbeats 32000000
set_option linter.unusedSimpArgs false
set_option linter.unusedVariables false
namespace Go.Proofs.YteieocddfnlmdaaGreatDoor
open Go.RowKit Go.Lib
def ZcX {α β:Type} (R:α→β→Prop):List α→List β→Prop
 |[],[]=>True
 |x::l,y::m=>R x y∧ZcX R l m
 |_,_=>False
section
variable {α β γ δ:Type} {R:α→β→Prop}
theorem ZcX.len: ∀{l:List α} {m:List β},ZcX R l m→l.length=m.length
 |[],[],_=>rfl
 |_::_,_::_,h=>by simpa using h.2.len
 |[],_::_,h=>h.elim
 |_::_,[],h=>h.elim
theorem ZcX.mono {S:α→β→Prop}: ∀{l:List α} {m:List β},ZcX R l m→(∀x y,x∈l→y∈m→R x y→S x y)→ZcX S l m
 |[],[],_,_=>trivial
 |x::l,y::m,h,k=>⟨k x y List.mem_cons_self List.mem_cons_self h.1,h.2.mono fun x y hx hy=>k x y (List.mem_cons_of_mem _ hx) (List.mem_cons_of_mem _ hy)⟩
 |[],_::_,h,_=>h.elim
 |_::_,[],h,_=>h.elim
theorem ZcX.at_: ∀{l:List α} {m:List β},ZcX R l m→ ∀{j:Nat} {x:α} {y:β},l[j]? =some x→m[j]? =some y→R x y
 |[],[],_,j,x,y,hx,_=>by simp at hx
 |_::_,_::_,h,0,x,y,hx,hy=>by
  obtain rfl:=Yp hx;obtain rfl:=Yp hy;exact h.1
 |_::_,_::_,h,j+1,x,y,hx,hy=>h.2.at_ (j:=j) (by simpa using hx) (by simpa using hy)
 |[],_::_,h,_,_,_,_,_=>h.elim
 |_::_,[],h,_,_,_,_,_=>h.elim
theorem ZcX.snoc: ∀{l:List α} {m:List β} {x:α} {y:β},ZcX R l m→R x y→ZcX R (l++[x]) (m++[y])
 |[],[],_,_,_,h=>⟨h,trivial⟩
 |_::_,_::_,_,_,h,k=>⟨h.1,h.2.snoc k⟩
 |[],_::_,_,_,h,_=>h.elim
 |_::_,[],_,_,h,_=>h.elim
theorem ZcX.flip: ∀{l:List α} {m:List β},ZcX R l m→ZcX (fun y x=>R x y) m l
 |[],[],_=>trivial
 |_::_,_::_,h=>⟨h.1,h.2.flip⟩
 |[],_::_,h=>h.elim
 |_::_,[],h=>h.elim
theorem ZcX.left: ∀{l:List α} {m:List β},ZcX R l m→ ∀{x:α},x∈l→ ∃y,y∈m∧R x y
 |[],[],_,x,hx=>by cases hx
 |a::l,b::m,h,x,hx=>by
  rcases List.mem_cons.1 hx with rfl|hx
  · exact⟨b,List.mem_cons_self,h.1⟩
  · obtain⟨y,hy,hr⟩:=h.2.left hx
    exact⟨y,List.mem_cons_of_mem _ hy,hr⟩
 |[],_::_,h,_,_=>h.elim
 |_::_,[],h,_,_=>h.elim
theorem ZcX.map_eq {f:α→γ} {g:β→γ}: ∀{l:List α} {m:List β},ZcX R l m→(∀x y,x∈l→y∈m→R x y→f x=g y)→l.map f=m.map g
 |[],[],_,_=>rfl
 |x::l,y::m,h,k=>by
  rw[List.map_cons,List.map_cons,k x y List.mem_cons_self List.mem_cons_self h.1,h.2.map_eq fun x y hx hy=>k x y (List.mem_cons_of_mem _ hx) (List.mem_cons_of_mem _ hy)]
 |[],_::_,h,_=>h.elim
 |_::_,[],h,_=>h.elim
theorem ZcX.of_map {f:α→γ} {g:β→γ}: ∀{l:List α} {m:List β},l.map f=m.map g→ZcX (fun x y=>f x=g y) l m
 |[],[],_=>trivial
 |x::l,y::m,h=>by
  rw[List.map_cons,List.map_cons] at h
  injection h with h1 h2
  exact⟨h1,ZcX.of_map h2⟩
 |[],_::_,h=>by simp at h
 |_::_,[],h=>by simp at h
end
def ZpE (f:Int→Int→Prop) (x y:Sp):Prop:=x.1=y.1∧(x.1=2→f x.2 y.2)∧(x.1≠2→x.2=y.2)
def ZuB (f:Int→Int→Prop) (d e:Nd):Prop:=d.kd=e.kd∧d.rs=e.rs∧ZcX (ZpE f) d.fs e.fs
structure Iso (a b:Gr) (f:Int→Int→Prop):Prop where
 rt:ZcX (ZpE f) a.rt b.rt
 nd: ∀i k,f i k→ZuB f (Zax a i) (Zax b k)
 rng: ∀i k,f i k→(0≤i∧i<(a.nd.length:Int))∧0≤k∧k<(b.nd.length:Int)
 fn: ∀i k k',f i k→f i k'→k=k'
 inj: ∀i i' k,f i k→f i' k→i=i'
theorem Zst {f:Int→Int→Prop} {d e:Nd} (h:ZuB f d e):ZdR d=ZdR e:=by
 unfold ZdR Zjs;rw[h.2.1,h.2.2.len]
structure SimP (f:Int→Int→Prop) (s t:PSt):Prop where
 sm:ZcX f s.small t.small
 bg:s.begins=t.begins
 lk:s.looked=t.looked
 l1:s.large=[]
 l2:t.large=[]
 p1:s.pile=[]
 p2:t.pile=[]
 tp:s.top=t.top
theorem SimP.mark {f:Int→Int→Prop} {s t:PSt} (h:SimP f s t) (i:Nat):SimP f (s.mark i) (t.mark i):=⟨h.sm,h.bg,by unfold PSt.mark;rw[h.lk],h.l1,h.l2,h.p1,h.p2,h.tp⟩
section
variable {a b:Gr} {f:Int→Int→Prop} {lim:Int}
theorem Znl (I:Iso a b f) {l m:List Int} (h:ZcX f l m) {x y:Int} (hf:f x y):x∈l↔y∈m:=by
 constructor
 · intro hx
   obtain⟨y',hy,hr⟩:=h.left hx;rw[I.fn x y y' hf hr];exact hy
 · intro hy
   obtain⟨x',hx,hr⟩:=h.flip.left hy;rw[I.inj x x' y hf hr];exact hx
theorem Zq8 (ha:ZC a=true) (hb:ZC b=true) (I:Iso a b f) (hl:8193≤lim) {v u:Sp} (hv:ZpE f v u) {s t:PSt} (h:SimP f s t):SimP f (ZO a lim v s) (ZO b lim u t):=by
 have n1: ¬lim<ZdR (Zax a v.2):=by have:=ZhK ha v.2;omega
 have n2: ¬lim<ZdR (Zax b u.2):=by have:=ZhK hb u.2;omega
 unfold ZO;rw[if_neg n1,if_neg n2];by_cases h2:v.1=2
 · have hf:=hv.2.1 h2
   have e1:decide (v.2∈s.small)=decide (u.2∈t.small):=decide_eq_decide.2 (Znl I h.sm hf);have e2:decide (v.1=2)=decide (u.1=2):=decide_eq_decide.2 (by rw[hv.1])
   have e:Z7 v s=Z7 u t:=by
    unfold Z7;rw[h.l1,h.l2,e1,e2];simp
   rw[e];by_cases hn:Z7 u t=true
   · rw[if_pos hn,if_pos hn]
     refine⟨h.sm.snoc hf,?_,?_,h.l1,h.l2,h.p1,h.p2,?_⟩
     · show s.begins++[s.top]=t.begins++[t.top]
       rw[h.bg,h.tp]
     · show s.looked++[false]=t.looked++[false]
       rw[h.lk]
     · show wrap64 (s.top+ZdR (Zax a v.2))=wrap64 (t.top+ZdR (Zax b u.2))
       rw[h.tp,Zst (I.nd _ _ hf)]
   · rw[if_neg hn,if_neg hn];exact h
 · have e1:Z7 v s=false:=by unfold Z7;rw[Yl h2];rfl
   have e2:Z7 u t=false:=by unfold Z7;rw[Yl (fun e=>h2 (hv.1.trans e))];rfl
   rw[e1,e2,if_neg (by decide),if_neg (by decide)];exact h
theorem Zhr (ha:ZC a=true) (hb:ZC b=true) (I:Iso a b f) (hl:8193≤lim): ∀(l m:List Sp) (s t:PSt),ZcX (ZpE f) l m→SimP f s t→SimP f (Za3 a lim l s) (Za3 b lim m t)
 |[],[],s,t,_,h=>h
 |v::l,u::m,s,t,hv,h=>Zhr ha hb I hl l m _ _ hv.2 (Zq8 ha hb I hl hv.1 h)
 |[],_::_,_,_,hv,_=>hv.elim
 |_::_,[],_,_,hv,_=>hv.elim
theorem Zrd {block:Int} {s t:PSt} (h:SimP f s t):Zcw 0 block s=Zcw 0 block t:=by
 unfold Zcw;rw[if_neg (by rintro⟨e, -⟩;cases e),if_neg (by rintro⟨e, -⟩;cases e)];unfold Zdd;rw[h.sm.len,h.lk,h.bg]
theorem Zsw {block:Int} {s:PSt} {i:Nat} (h:Zcw 0 block s=some i):i<s.small.length:=by
 unfold Zcw at h;rw[if_neg (by rintro⟨e, -⟩;cases e)] at h;unfold Zdd at h
 have:=List.mem_of_find?_eq_some h
 exact List.mem_range.1 this
theorem Zqu (ha:ZC a=true) (hb:ZC b=true) (I:Iso a b f) (hl:8193≤lim) (block:Int) {s t:PSt} (h:SimP f s t):
 (Zbg a lim 0 block s=none∧Zbg b lim 0 block t=none)∨ ∃s' t',Zbg a lim 0 block s=some s'∧Zbg b lim 0 block t=some t'∧SimP f s' t':=by
 unfold Zbg;rw[← Zrd h]
 cases hn:Zcw 0 block s with
 |none=>
  rw[h.p1,h.p2];exact .inl ⟨rfl,rfl⟩
 |some i=>
  refine .inr ⟨_,_,rfl,rfl,?_⟩;have hi:=Zsw hn
  have hi2:i<t.small.length:=by rw[← h.sm.len];exact hi
  have hf:f (s.small.getD i 0) (t.small.getD i 0):=h.sm.at_ (j:=i) (by rw[Yn,Ya hi];rfl) (by rw[Yn,Ya hi2];rfl);unfold Zaj;rw[if_neg (by decide),if_neg (by decide)];exact Zhr ha hb I hl _ _ _ _ (I.nd _ _ hf).2.2 (h.mark i)
theorem ZkN (ha:ZC a=true) (hb:ZC b=true) (I:Iso a b f) (hl:8193≤lim) (block:Int): ∀(n:Nat) (s t:PSt),SimP f s t→SimP f (ZdQ a lim 0 block n s) (ZdQ b lim 0 block n t)
 |0,s,t,h=>h
 |n+1,s,t,h=>by
  rw[ZdQ,ZdQ]
  rcases Zqu ha hb I hl block h with⟨e1,e2⟩|⟨s',t',e1,e2,h'⟩
  · rw[e1,e2];exact h
  · rw[e1,e2];exact ZkN ha hb I hl block n s' t' h'
theorem ZhD {g:Gr} {lim order block:Int}: ∀(n:Nat) (s:PSt),Zbg g lim order block (ZdQ g lim order block n s)=none→ ∀k,ZdQ g lim order block (n+k) s=ZdQ g lim order block n s
 |0,s,h,k=>by
  rw[ZdQ] at h ⊢
  cases k with
  |zero=>rw[Nat.zero_add,ZdQ]
  |succ k=>rw[Nat.zero_add,ZdQ,h]
 |n+1,s,h,k=>by
  rw[ZdQ] at h ⊢;rw[Nat.add_right_comm,ZdQ]
  cases e:Zbg g lim order block s with
  |none=>rfl
  |some s'=>
   rw[e] at h;exact ZhD n s' h k
theorem Zrg:SimP f .none .none:=⟨trivial,rfl,rfl,rfl,rfl,rfl,rfl,rfl⟩
theorem ZmC (ha:ZC a=true) (hb:ZC b=true) (I:Iso a b f) (hl:8193≤lim) (block:Int):SimP f (ZcM a lim 0 block) (ZcM b lim 0 block):=by
 obtain⟨wa,ca⟩:=ZdN lim 0 ha;obtain⟨wb,cb⟩:=ZdN lim 0 hb;have ea:=(ZgE (lim:=lim) (order:=0) (block:=block) ha (a.nd.length+1) _ wa ca (by omega)).2.2;have eb:=(ZgE (lim:=lim) (order:=0) (block:=block) hb (b.nd.length+1) _ wb cb (by omega)).2.2;have q1:=ZhD _ _ ea b.nd.length;have q2:=ZhD _ _ eb a.nd.length;unfold ZcM;rw[← q1, ← q2,show a.nd.length+1+b.nd.length=b.nd.length+1+a.nd.length by omega];refine ZkN ha hb I hl block _ _ _ ?_;unfold Zaj;rw[if_neg (by decide),if_neg (by decide)];exact Zhr ha hb I hl _ _ _ _ I.rt Zrg
theorem Zmd (ha:ZC a=true) (hb:ZC b=true) (I:Iso a b f):ZcX f (flatL a 0) (flatL b 0):=by
 unfold flatL;rw[if_pos ha,if_pos hb];exact(ZmC ha hb I (by decide) 1).sm
end
theorem Zhd {g:Gr} (hg:ZC g=true):Zcr g.nd.length (flatL g 0)=true:=by
 rw[Zam];unfold flatL;rw[if_pos hg];have w:=ZdE hg 1000000 0 1;exact⟨fun x hx=>w.rng x (Yr.2 (.inl hx)),(List.nodup_append.1 w.nodup).1⟩
theorem Ze5 {g:Gr} (hg:ZC g=true) (x:Int):x∈flatL g 0↔Rch g x:=by
 have:=(Zp9 (g:=g) 1000000 0 1 hg).2 x
 rw[← this];unfold PSt.met flatL;rw[ZlQ hg,if_pos hg,List.append_nil]
theorem Zhb {g:Gr} (hg:ZC g=true):RnOk g (flatL g 0):=by
 refine⟨hg,Zhd hg,?_,?_⟩
 · rw[List.all_eq_true]
   intro d hd;obtain⟨x,hx,rfl⟩:=List.mem_map.1 hd;unfold Zqt;rw[List.all_eq_true];intro v hv;unfold ZbI;by_cases h2:v.1=2
   · rw[Ym h2,Ym ((Ze5 hg _).2 (Rch.next ((Ze5 hg x).1 hx) hv h2))];rfl
   · rw[Yl h2];rfl
 · unfold Zqt
   rw[List.all_eq_true];intro v hv;unfold ZbI;by_cases h2:v.1=2
   · rw[Ym h2,Ym ((Ze5 hg _).2 (Rch.root hv h2))];rfl
   · rw[Yl h2];rfl
def ZhF (g:Gr):Gr:=rnG g (flatL g 0)
theorem ZhE {g:Gr} (hg:ZC g=true):ZhF g=⟨(Zch g (flatL g 0)).map (ndT (flatL g 0)),ZbS (flatL g 0) g.rt⟩:=if_pos (ZjG.2 (Zhb hg))
section
variable {a b:Gr} {f:Int→Int→Prop}
theorem Zp5 (I:Iso a b f) {l m:List Int} (h:ZcX f l m) (hl:l.Nodup) (hm:m.Nodup) {x y:Int} (hf:f x y):plc l x=plc m y:=by
 by_cases hx:x∈l
 · obtain⟨j,h1,h2⟩:=ZeC hx
   have hjl:=(Yk.1 h2).1
   obtain⟨y',hy'⟩: ∃y',m[j]? =some y':=⟨_,Ya (by rw[← h.len];exact hjl)⟩
   have hr:=h.at_ h2 hy';rw[h1,I.fn x y y' hf hr,Znr hm hy']
 · have hy:y∉m:=fun hy=>hx ((Znl I h hf).2 hy)
   rw[ZhN hx,ZhN hy]
theorem ZiH (I:Iso a b f) {l m:List Int} (h:ZcX f l m) (hl:l.Nodup) (hm:m.Nodup) {x y:Sp} (hf:ZpE f x y):ZbZ l x=ZbZ m y:=by
 unfold ZbZ;by_cases h2:x.1=2
 · rw[if_pos h2,if_pos (hf.1▸h2),Zp5 I h hl hm (hf.2.1 h2)]
 · rw[if_neg h2,if_neg (fun e=>h2 (hf.1.trans e))]
   exact Prod.ext hf.1 (hf.2.2 h2)
theorem Zmc (ha:ZC a=true) (hb:ZC b=true) (I:Iso a b f):ZhF a=ZhF b:=by
 have h:=Zmd ha hb I;have n1:=(Zam.1 (Zhd ha)).2;have n2:=(Zam.1 (Zhd hb)).2;rw[ZhE ha,ZhE hb]
 have e1:(Zch a (flatL a 0)).map (ndT (flatL a 0))=(Zch b (flatL b 0)).map (ndT (flatL b 0)):=by
  unfold Zch;rw[List.map_map,List.map_map];refine h.map_eq fun x y hx hy hf=>?_;have hn:=I.nd x y hf;show ndT (flatL a 0) (Zax a x)=ndT (flatL b 0) (Zax b y);unfold ndT ZbS;rw[hn.1,hn.2.1,hn.2.2.map_eq fun v u _ _ hv=>ZiH I h n1 n2 hv]
 have e2:ZbS (flatL a 0) a.rt=ZbS (flatL b 0) b.rt:=by
  unfold ZbS;exact I.rt.map_eq fun v u _ _ hv=>ZiH I h n1 n2 hv
 rw[e1,e2]
end
theorem ZqF {g:Gr} {x:Int} (h:0≤x∧x<(g.nd.length:Int)):Zax g x∈g.nd:=by
 unfold Zax;rw[Yn,Ya (by omega)];exact List.getElem_mem _
def ZsT (l m:List Int) (i k:Int):Prop:= ∃j:Nat,l[j]? =some i∧m[j]? =some k
theorem ZkA {l m:List Int} (hl:l.Nodup) (hm:m.Nodup) (hlen:l.length=m.length) {v u:Sp} (h1:ZbI l v=true) (h2:ZbI m u=true) (h:ZbZ l v=ZbZ m u):ZpE (ZsT l m) v u:=by
 unfold ZbZ at h;unfold ZbI at h1 h2
 by_cases a:v.1=2 <;> by_cases b:u.1=2
 · rw[if_pos a,if_pos b] at h
   rw[Ym a] at h1;rw[Ym b] at h2
   have q1:v.2∈l:=by simpa using h1
   have q2:u.2∈m:=by simpa using h2
   obtain⟨j,e1,e2⟩:=ZeC q1;obtain⟨k,e3,e4⟩:=ZeC q2;have he:plc l v.2=plc m u.2:=congrArg Prod.snd h
   have:j=k:=by omega
   subst this;exact⟨a.trans b.symm,fun _=>⟨j,e2,e4⟩,fun e=>absurd a e⟩
 · rw[if_pos a,if_neg b] at h
   exact absurd (congrArg Prod.fst h).symm b
 · rw[if_neg a,if_pos b] at h
   exact absurd (congrArg Prod.fst h) a
 · rw[if_neg a,if_neg b] at h
   exact⟨by rw[h],fun e=>absurd e a,fun _=>by rw[h]⟩
theorem Zi0 {a b:Gr} (ha:ZC a=true) (hb:ZC b=true) (h:ZhF a=ZhF b):(flatL a 0).length=(flatL b 0).length∧Iso a b (ZsT (flatL a 0) (flatL b 0)):=by
 rw[ZhE ha,ZhE hb] at h
 injection h with h1 h2
 have oa:=Zhb ha;have ob:=Zhb hb;obtain⟨ra,na⟩:=Zam.1 oa.ord;obtain⟨rb,nb⟩:=Zam.1 ob.ord
 have hlen:(flatL a 0).length=(flatL b 0).length:=by
  have:=congrArg List.length h1
  simpa[Zch] using this
 refine⟨hlen,?_,fun i k hf=>?_,fun i k hf=>?_,fun i k k' h1 h2=>?_,fun i i' k h1 h2=>?_⟩
 · have:=ZcX.of_map (show a.rt.map (ZbZ (flatL a 0))=b.rt.map (ZbZ (flatL b 0)) from h2)
   exact this.mono fun v u hv hu e=>ZkA na nb hlen (List.all_eq_true.1 oa.rts v hv) (List.all_eq_true.1 ob.rts u hu) e
 · obtain⟨j,e1,e2⟩:=hf
   have p1:(Zch a (flatL a 0))[j]? =some (Zax a i):=by unfold Zch;rw[List.getElem?_map,e1];rfl
   have p2:(Zch b (flatL b 0))[j]? =some (Zax b k):=by unfold Zch;rw[List.getElem?_map,e2];rfl
   have hn:ndT (flatL a 0) (Zax a i)=ndT (flatL b 0) (Zax b k):=(ZcX.of_map h1).at_ p1 p2;unfold ndT at hn
   injection hn with q1 q2 q3
   refine⟨q1,q3,?_⟩;have c1:=List.all_eq_true.1 oa.nds _ (Yo p1);have c2:=List.all_eq_true.1 ob.nds _ (Yo p2);exact(ZcX.of_map q2).mono fun v u hv hu e=>ZkA na nb hlen (List.all_eq_true.1 c1 v hv) (List.all_eq_true.1 c2 u hu) e
 · obtain⟨j,e1,e2⟩:=hf
   exact⟨ra i (Yo e1),rb k (Yo e2)⟩
 · obtain⟨j,e1,e2⟩:=h1
   obtain⟨j',e3,e4⟩:=h2
   have:=Zdr na e1 e3
   subst this;exact Yp (e2.symm.trans e4)
 · obtain⟨j,e1,e2⟩:=h1
   obtain⟨j',e3,e4⟩:=h2
   have:=Zdr nb e2 e4
   subst this;exact Yp (e1.symm.trans e3)
noncomputable def Zap (a b:Gr):Bool:=ZC a&&(ZC b&&ZeJ (ZhF a) (ZhF b))
theorem ZdL {a b:Gr}:Zap a b=true↔ZC a=true∧ZC b=true∧ZhF a=ZhF b:=by
 unfold Zap ZeJ;simp
theorem Zqk {a b:Gr} {f:Int→Int→Prop} (ha:ZC a=true) (hb:ZC b=true) (I:Iso a b f):Zap a b=true:=ZdL.2 ⟨ha,hb,Zmc ha hb I⟩
theorem ZmQ (a:Gr):Zap a a=ZC a:=by
 unfold Zap ZeJ
 cases ZC a <;> simp
def toL (a b:Gr):List Int:=(List.range a.nd.length).map fun i:Nat=>if(i:Int)∈flatL a 0 then(flatL b 0).getD (plc (flatL a 0) (i:Int)).toNat (-1) else -1
noncomputable def Zey (a b:Gr):List Int:=if Zap a b=true then toL a b else[]
theorem ZuT {a b:Gr} (ha:ZC a=true) (hlen:(flatL a 0).length=(flatL b 0).length) {i:Nat} (hi:i<a.nd.length): ∃k,(toL a b)[i]? =some k∧(((i:Int)∈flatL a 0∧ZsT (flatL a 0) (flatL b 0) i k)∨((i:Int)∉flatL a 0∧k= -1)):=by
 unfold toL;rw[List.getElem?_map,List.getElem?_range hi];refine⟨_,rfl,?_⟩;dsimp only;by_cases h:(i:Int)∈flatL a 0
 · rw[if_pos h]
   obtain⟨j,e1,e2⟩:=ZeC h;have hj:=(Yk.1 e2).1;refine .inl ⟨h,j,e2,?_⟩;rw[e1,show((j:Int)).toNat=j from rfl,Yn,Ya (by omega)];rfl
 · rw[if_neg h];exact .inr ⟨h,rfl⟩
end Go.Proofs.YteieocddfnlmdaaGreatDoor
