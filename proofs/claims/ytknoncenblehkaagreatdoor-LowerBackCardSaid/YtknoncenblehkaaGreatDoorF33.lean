/- Package reach: Breadth, Depth; the document's Flat; plans th slices.Sort at ints of this program: the library's contract Chapter 17's example comes to what the chapter says. (Printe What plans meet, counted. No program in it. Graphs that are alike: nodes paired; what is met of two of t -/
import Derived.Test.YtknoncenblehkaaGreatDoorF32
import Derived.Shelf.Sort.Plain
import Derived.Shelf.Slices.In.SortNone
import Derived.Lib.SortBridge
import Derived.Test.YtknoncenblehkaaGreatDoorF28
set_option maxRecDepth 100000
set_option maxHeartbeats 32000000
set_option linter.unusedSimpArgs false
set_option linter.unusedVariables false
namespace Go.Proofs.YtknoncenblehkaaGreatDoor
section
open Go.RowKit Go.Lib
theorem Zgk {g:Gr} (hg:ZA g=true) (x:Int):ndSz (Za7 g x)≤8193:=by
 by_cases hlt:x.toNat<g.nd.length
 · have hm:Za7 g x∈g.nd:=by
    unfold Za7;rw[Yn,Ya hlt];exact List.getElem_mem hlt
   obtain⟨-,h2,h3, -⟩:=ZV.1 ((Zv.1 hg).1 _ hm);unfold ndSz ZkO;rw[Zhq _ (by omega) (by omega)];omega
 · have:Za7 g x=noNd:=by
    unfold Za7;rw[Yn,List.getElem?_eq_none (by omega)];rfl
   rw[this];unfold ndSz ZkO noNd;rw[Zhq _ (by simp) (by simp)];simp
section
variable {g:Gr} {l1 l2:Int}
theorem Zd1 (hg:ZA g=true) (h1:8193≤l1) (h2:8193≤l2) (v:Sp) (s:PSt):ZJ g l1 v s=ZJ g l2 v s∧ZbN g l1 v s=ZbN g l2 v s:=by
 have hs:=Zgk hg v.2
 have a1: ¬l1<ndSz (Za7 g v.2):=by omega
 have a2: ¬l2<ndSz (Za7 g v.2):=by omega
 unfold ZJ ZbN;rw[if_neg a1,if_neg a2,Yl a1,Yl a2];exact⟨rfl,rfl⟩
theorem Zhn (hg:ZA g=true) (h1:8193≤l1) (h2:8193≤l2): ∀(l:List Sp) (s:PSt),ZaA g l1 l s=ZaA g l2 l s
 |[],s=>rfl
 |v::l,s=>by
  show ZaA g l1 l (ZJ g l1 v s)=ZaA g l2 l (ZJ g l2 v s);rw[(Zd1 hg h1 h2 v s).1];exact Zhn hg h1 h2 l _
theorem ZmQ (hg:ZA g=true) (h1:8193≤l1) (h2:8193≤l2): ∀(n:Nat) (l:List Sp) (s:PSt),lookD g l1 n l s=lookD g l2 n l s:=by
 intro n
 induction n with
 |zero=>
  intro l
  induction l with
  |nil=>intro s;rw[lookD,lookD]
  |cons v l ih=>intro s;rw[lookD,lookD,(Zd1 hg h1 h2 v s).1];exact ih _
 |succ n ihn=>
  intro l
  induction l with
  |nil=>intro s;rw[lookD,lookD]
  |cons v l ih=>
   intro s;rw[lookD,lookD,(Zd1 hg h1 h2 v s).1,(Zd1 hg h1 h2 v s).2,ihn];exact ih _
theorem ZhN (hg:ZA g=true) (h1:8193≤l1) (h2:8193≤l2) (o:Int) (l:List Sp) (s:PSt):Z8 g l1 o l s=Z8 g l2 o l s:=by
 unfold Z8;rw[ZmQ hg h1 h2,Zhn hg h1 h2]
theorem ZnZ (hg:ZA g=true) (h1:8193≤l1) (h2:8193≤l2) (o b:Int): ∀(n:Nat) (s:PSt),Zdb g l1 o b n s=Zdb g l2 o b n s
 |0,s=>rfl
 |n+1,s=>by
  have hs:ZaI g l1 o b s=ZaI g l2 o b s:=by
   unfold ZaI;simp only[ZhN hg h1 h2]
  rw[Zdb,Zdb,hs]
  cases ZaI g l2 o b s with
  |none=>rfl
  |some s'=>exact ZnZ hg h1 h2 o b n s'
theorem Zps (hg:ZA g=true) (h1:8193≤l1) (h2:8193≤l2) (o b:Int):Zb8 g l1 o b=Zb8 g l2 o b:=by
 unfold Zb8;rw[ZhN hg h1 h2,ZnZ hg h1 h2]
end
def Za3 (g:Gr):Int:=if ZA g=true then 0 else 4
def flatL (g:Gr) (order:Int):List Int:=if ZA g=true then(Zb8 g 1000000 order 1).small else[]
theorem ZrF {g:Gr} {lim order:Int} (hl:8193≤lim) (ho:order=0∨order=1):Zei g lim order 1=Za3 g∧Zcz g lim order 1=flatL g order:=by
 have he:Zei g lim order 1=Za3 g:=by
  unfold Zei Za3;by_cases h:ZA g=true
  · rw[if_pos h,if_pos h,if_neg (by omega)]
  · rw[if_neg h,if_neg h]
 refine⟨he,?_⟩;unfold Zcz flatL;rw[he];unfold Za3;by_cases h:ZA g=true
 · rw[if_pos h,if_pos rfl,if_pos h]
   exact congrArg PSt.small (Zps h hl (by decide) order 1)
 · rw[if_neg h,if_neg (by decide),if_neg h]
def Ztm (f:FuncId) (order:Int):Prop:= ∀(g:Gr) (vn vr:Value) (hs:List (Value×Value)) (B:Nat) (W:World),RdG W B g vn vr hs→B≤W.heap.size→GrFit g→GrBd g→
 Calls Tryz.prog f #[.agg #[vn,vr]] W fun e w'=> ∃v1,e=.returned (.tuple #[v1,.int .i64 (Za3 g)])∧OwR w' W.heap.size 3 v1 (flatL g order).length (i64s (flatL g order))∧Only nob W w'
theorem ZpS (W:World) (A Ar:Option Addr) (n c m cr:Nat): ∃X,W.alloc (.cells #[.slice A n c,.slice Ar m cr] 27)=X∧Only nob W X∧Blk X W.heap.size 27 #[.slice A n c,.slice Ar m cr]:=⟨_,rfl,(Only.refl nob W).alloc _,Blk.new _ _ _⟩
theorem OwR.more {w:World} {base base':Nat} {E:TypeId} {v:Value} {n:Nat} {xs:List Value} (h:OwR w base E v n xs) (hk:base'≤base):OwR w base' E v n xs:=by
 refine⟨h.1,?_⟩
 rcases h.2 with h0|⟨g,o,cap,cur,rfl,hb,rest⟩
 · exact .inl h0
 · exact .inr ⟨g,o,cap,cur,rfl,Yi hk hb,rest⟩
theorem Zeq:Ztm 46 0:=by
 intro g vn vr hs B W hr hB hfit hbd;obtain⟨An,cn,rfl,hacn,hcmn⟩:=hr.nodes.form;obtain⟨Ar,cr,rfl,hacr,hcmr⟩:=hr.roots.form;obtain⟨W1,hW1,o1,b1⟩:=ZpS W An Ar g.nd.length cn g.rt.length cr;have HW1:=ZZ hW1;have O1:=ZZ o1;have HC:=ZZ (Zhm g _ _ hs B W1 9223372036854775807 1 (hr.only o1 hB) (Yi hB o1.size) hfit hbd (by decide));obtain⟨f1,f2⟩:=ZrF (g:=g) (lim:=9223372036854775807) (order:=0) (by decide) (by decide);rw[f1,f2] at HC;have c0:W1.cell? ⟨W.heap.size,0,none⟩=some (.slice An g.nd.length cn):=b1.cell 0;have c1:W1.cell? ⟨W.heap.size,1,none⟩=some (.slice Ar g.rt.length cr):=b1.cell 1;clear hW1 o1 b1 hr hB hfit hbd f1 f2
 go_enter Tryz.func46,Tryz.ntmps46
 go_upto_region 1 with fail
 rw[HW1.out]
 go_wp2_with fail
 go_at_call 76;refine HC.out.mono ?_;rintro e w2 ⟨v1,v2,rfl,h1,h2,o2⟩;have H1:=ZZ (h1.more O1.out.size);have O2:=ZZ (O1.out.trans o2);obtain⟨A2,k2,rfl, -, -⟩:=h1.form;obtain⟨A3,k3,rfl, -, -⟩:=h2.form;clear h1 h2 o2 c0 c1;go_wp2;go_ret2;exact⟨_,rfl,H1.out,O2.out⟩
end
section
open Go.RowKit Go.Lib
theorem Zer {g:Gr} (hg:ZA g=true) (lim order block:Int):Wf g (Zb8 g lim order block):=by
 obtain⟨h1,h2⟩:=ZcV lim order hg;exact(ZfY (block:=block) hg (g.nd.length+1) _ h1 h2 (by omega)).1
def Zpt (l:List Int) (n:Nat):List Int:=((List.range n).map fun k:Nat=>(k:Int)).filter fun x=>decide (x∈l)
def ZjH (g:Gr):List Int:=Zpt (flatL g 0) g.nd.length
theorem Zpw (l:List Int) (n:Nat):(Zpt l n).length≤n:=by
 unfold Zpt;exact Yi (List.length_filter_le _ _) (by simp)
end
section
open Go.Shelf
end
section
open Go.RowKit Go.Lib Go.Sort Go.Shelf
theorem ZkM (l:List Int):(l.mergeSort fun x y=>decide (x≤y)).length=l.length:=List.length_mergeSort ..
theorem ZjX {l:List Int} {n:Nat} {x:Int}:x∈Zpt l n↔x∈l∧0≤x∧x<n:=by
 unfold Zpt;rw[List.mem_filter,List.mem_map];constructor
 · rintro⟨⟨k,hk,rfl⟩,h⟩
   have:=List.mem_range.1 hk
   exact⟨by simpa using h,by omega,by omega⟩
 · rintro⟨h1,h2,h3⟩
   exact⟨⟨x.toNat,List.mem_range.2 (by omega),by omega⟩,by simpa using h1⟩
theorem Zn3 (l:List Int) (n:Nat):(Zpt l n).Pairwise (· < ·):=by
 unfold Zpt;refine List.Pairwise.filter _ ?_;rw[List.pairwise_map];exact List.Pairwise.imp (fun h=>by omega) List.pairwise_lt_range
theorem Zof {l:List Int} {n:Nat} (hn:l.Nodup) (hr: ∀x∈l,0≤x∧x<(n:Int)):(l.mergeSort fun x y=>decide (x≤y))=Zpt l n:=by
 have p1:(l.mergeSort fun x y=>decide (x≤y)).Perm (Zpt l n):=by
  refine(List.mergeSort_perm l _).trans ((List.perm_ext_iff_of_nodup hn ((Zn3 l n).imp fun h=>by omega)).2 fun x=>?_);rw[ZjX];exact⟨fun h=>⟨h,hr x h⟩,fun h=>h.1⟩
 have s1:=List.pairwise_mergeSort (le:=fun x y:Int=>decide (x≤y)) (fun a b c h1 h2=>by simp at h1 h2 ⊢;omega) (fun a b=>by simp;omega) l;refine List.Perm.eq_of_pairwise (le:=fun x y:Int=>decide (x≤y)=true) (fun a b _ _ h1 h2=>by simp at h1 h2;omega) s1 ((Zn3 l n).imp fun h=>by simp;omega) p1
theorem Zew (g:Gr):((flatL g 0).mergeSort fun x y=>decide (x≤y))=ZjH g:=by
 unfold ZjH;refine Zof ?_ fun x hx=>?_
 · unfold flatL
   by_cases h:ZA g=true
   · rw[if_pos h]
     exact(List.nodup_append.1 (Zer h 1000000 0 1).nodup).1
   · rw[if_neg h];exact List.nodup_nil
 · unfold flatL at hx
   by_cases h:ZA g=true
   · rw[if_pos h] at hx
     exact(Zer h 1000000 0 1).rng x (Yr.2 (.inl hx))
   · rw[if_neg h] at hx;cases hx
theorem Zoa (g:Gr):(ZjH g).length=(flatL g 0).length:=by rw[← Zew g];exact ZkM _
end
section
open Go.RowKit Go.Lib
def gV:Gr:=⟨[],[(2,0)]⟩
abbrev lv (b n:Nat):Value:=.slice (some ⟨b,0,none⟩) n n
theorem Zce {g:Gr} (hg:ZA g=true) {lim:Int} (hl:8193≤lim): ∀(l:List Sp) (s:PSt),s.large=[]→(ZaA g lim l s).large=[]
 |[],s,h=>h
 |v::l,s,h=>by
  show(ZaA g lim l (ZJ g lim v s)).large=[];refine Zce hg hl l _ ?_;have hs:=Zgk hg v.2;unfold ZJ;rw[if_neg (show ¬lim<ndSz (Za7 g v.2) by omega)];by_cases hn:Z1 v s=true
  · rw[if_pos hn];exact h
  · rw[if_neg hn];exact h
theorem ZkI {g:Gr} (hg:ZA g=true) {lim:Int} (hl:8193≤lim) (b:Int): ∀(n:Nat) (s:PSt),s.large=[]→(Zdb g lim 0 b n s).large=[]
 |0,s,h=>h
 |n+1,s,h=>by
  rw[Zdb]
  cases hs:ZaI g lim 0 b s with
  |none=>exact h
  |some s'=>
   refine ZkI hg hl b n s' ?_;unfold ZaI at hs
   split at hs
   · obtain rfl:=Yp hs
     unfold Z8;rw[if_neg (by decide)];exact Zce hg hl _ _ h
   · split at hs
     · cases hs
     · obtain rfl:=Yp hs
       unfold Z8;rw[if_neg (by decide)];exact Zce hg hl _ _ h
theorem ZlS {g:Gr} (hg:ZA g=true):(Zb8 g 1000000 0 1).large=[]:=by
 unfold Zb8;refine ZkI hg (by decide) 1 _ _ ?_;unfold Z8;rw[if_neg (by decide)];exact Zce hg (by decide) _ _ rfl
def Zcs {α β:Type} (R:α→β→Prop):List α→List β→Prop
 |[],[]=>True
 |x::l,y::m=>R x y∧Zcs R l m
 |_,_=>False
section
variable {α β γ δ:Type} {R:α→β→Prop}
theorem Zcs.len: ∀{l:List α} {m:List β},Zcs R l m→l.length=m.length
 |[],[],_=>rfl
 |_::_,_::_,h=>by simpa using h.2.len
 |[],_::_,h=>h.elim
 |_::_,[],h=>h.elim
theorem Zcs.mono {S:α→β→Prop}: ∀{l:List α} {m:List β},Zcs R l m→(∀x y,x∈l→y∈m→R x y→S x y)→Zcs S l m
 |[],[],_,_=>trivial
 |x::l,y::m,h,k=>⟨k x y List.mem_cons_self List.mem_cons_self h.1,h.2.mono fun x y hx hy=>k x y (List.mem_cons_of_mem _ hx) (List.mem_cons_of_mem _ hy)⟩
 |[],_::_,h,_=>h.elim
 |_::_,[],h,_=>h.elim
theorem Zcs.at_: ∀{l:List α} {m:List β},Zcs R l m→ ∀{j:Nat} {x:α} {y:β},l[j]? =some x→m[j]? =some y→R x y
 |[],[],_,j,x,y,hx,_=>by simp at hx
 |_::_,_::_,h,0,x,y,hx,hy=>by
  obtain rfl:=Yp hx;obtain rfl:=Yp hy;exact h.1
 |_::_,_::_,h,j+1,x,y,hx,hy=>h.2.at_ (j:=j) (by simpa using hx) (by simpa using hy)
 |[],_::_,h,_,_,_,_,_=>h.elim
 |_::_,[],h,_,_,_,_,_=>h.elim
theorem Zcs.snoc: ∀{l:List α} {m:List β} {x:α} {y:β},Zcs R l m→R x y→Zcs R (l++[x]) (m++[y])
 |[],[],_,_,_,h=>⟨h,trivial⟩
 |_::_,_::_,_,_,h,k=>⟨h.1,h.2.snoc k⟩
 |[],_::_,_,_,h,_=>h.elim
 |_::_,[],_,_,h,_=>h.elim
theorem Zcs.flip: ∀{l:List α} {m:List β},Zcs R l m→Zcs (fun y x=>R x y) m l
 |[],[],_=>trivial
 |_::_,_::_,h=>⟨h.1,h.2.flip⟩
 |[],_::_,h=>h.elim
 |_::_,[],h=>h.elim
theorem Zcs.left: ∀{l:List α} {m:List β},Zcs R l m→ ∀{x:α},x∈l→ ∃y,y∈m∧R x y
 |[],[],_,x,hx=>by cases hx
 |a::l,b::m,h,x,hx=>by
  rcases List.mem_cons.1 hx with rfl|hx
  · exact⟨b,List.mem_cons_self,h.1⟩
  · obtain⟨y,hy,hr⟩:=h.2.left hx
    exact⟨y,List.mem_cons_of_mem _ hy,hr⟩
 |[],_::_,h,_,_=>h.elim
 |_::_,[],h,_,_=>h.elim
theorem Zcs.map_eq {f:α→γ} {g:β→γ}: ∀{l:List α} {m:List β},Zcs R l m→(∀x y,x∈l→y∈m→R x y→f x=g y)→l.map f=m.map g
 |[],[],_,_=>rfl
 |x::l,y::m,h,k=>by
  rw[List.map_cons,List.map_cons,k x y List.mem_cons_self List.mem_cons_self h.1,h.2.map_eq fun x y hx hy=>k x y (List.mem_cons_of_mem _ hx) (List.mem_cons_of_mem _ hy)]
 |[],_::_,h,_=>h.elim
 |_::_,[],h,_=>h.elim
theorem Zcs.of_map {f:α→γ} {g:β→γ}: ∀{l:List α} {m:List β},l.map f=m.map g→Zcs (fun x y=>f x=g y) l m
 |[],[],_=>trivial
 |x::l,y::m,h=>by
  rw[List.map_cons,List.map_cons] at h
  injection h with h1 h2
  exact⟨h1,Zcs.of_map h2⟩
 |[],_::_,h=>by simp at h
 |_::_,[],h=>by simp at h
end
def ZoV (f:Int→Int→Prop) (x y:Sp):Prop:=x.1=y.1∧(x.1=2→f x.2 y.2)∧(x.1≠2→x.2=y.2)
def Ztl (f:Int→Int→Prop) (d e:Nd):Prop:=d.kd=e.kd∧d.rs=e.rs∧Zcs (ZoV f) d.fs e.fs
structure Iso (a b:Gr) (f:Int→Int→Prop):Prop where
 rt:Zcs (ZoV f) a.rt b.rt
 nd: ∀i k,f i k→Ztl f (Za7 a i) (Za7 b k)
 rng: ∀i k,f i k→(0≤i∧i<(a.nd.length:Int))∧0≤k∧k<(b.nd.length:Int)
 fn: ∀i k k',f i k→f i k'→k=k'
 inj: ∀i i' k,f i k→f i' k→i=i'
theorem Zr9 {f:Int→Int→Prop} {d e:Nd} (h:Ztl f d e):ndSz d=ndSz e:=by
 unfold ndSz ZkO;rw[h.2.1,h.2.2.len]
structure SimP (f:Int→Int→Prop) (s t:PSt):Prop where
 sm:Zcs f s.small t.small
 bg:s.begins=t.begins
 lk:s.looked=t.looked
 l1:s.large=[]
 l2:t.large=[]
 p1:s.pile=[]
 p2:t.pile=[]
 tp:s.top=t.top
theorem SimP.mark {f:Int→Int→Prop} {s t:PSt} (h:SimP f s t) (i:Nat):SimP f (s.mark i) (t.mark i):=⟨h.sm,h.bg,by unfold PSt.mark;rw[h.lk],h.l1,h.l2,h.p1,h.p2,h.tp⟩
section
variable {a b:Gr} {f:Int→Int→Prop} {lim:Int}
theorem ZmM (I:Iso a b f) {l m:List Int} (h:Zcs f l m) {x y:Int} (hf:f x y):x∈l↔y∈m:=by
 constructor
 · intro hx
   obtain⟨y',hy,hr⟩:=h.left hx;rw[I.fn x y y' hf hr];exact hy
 · intro hy
   obtain⟨x',hx,hr⟩:=h.flip.left hy;rw[I.inj x x' y hf hr];exact hx
theorem Zpu (ha:ZA a=true) (hb:ZA b=true) (I:Iso a b f) (hl:8193≤lim) {v u:Sp} (hv:ZoV f v u) {s t:PSt} (h:SimP f s t):SimP f (ZJ a lim v s) (ZJ b lim u t):=by
 have n1: ¬lim<ndSz (Za7 a v.2):=by have:=Zgk ha v.2;omega
 have n2: ¬lim<ndSz (Za7 b u.2):=by have:=Zgk hb u.2;omega
 unfold ZJ;rw[if_neg n1,if_neg n2];by_cases h2:v.1=2
 · have hf:=hv.2.1 h2
   have e1:decide (v.2∈s.small)=decide (u.2∈t.small):=decide_eq_decide.2 (ZmM I h.sm hf);have e2:decide (v.1=2)=decide (u.1=2):=decide_eq_decide.2 (by rw[hv.1])
   have e:Z1 v s=Z1 u t:=by
    unfold Z1;rw[h.l1,h.l2,e1,e2];simp
   rw[e];by_cases hn:Z1 u t=true
   · rw[if_pos hn,if_pos hn]
     refine⟨h.sm.snoc hf,?_,?_,h.l1,h.l2,h.p1,h.p2,?_⟩
     · show s.begins++[s.top]=t.begins++[t.top]
       rw[h.bg,h.tp]
     · show s.looked++[false]=t.looked++[false]
       rw[h.lk]
     · show wrap64 (s.top+ndSz (Za7 a v.2))=wrap64 (t.top+ndSz (Za7 b u.2))
       rw[h.tp,Zr9 (I.nd _ _ hf)]
   · rw[if_neg hn,if_neg hn];exact h
 · have e1:Z1 v s=false:=by unfold Z1;rw[Yl h2];rfl
   have e2:Z1 u t=false:=by unfold Z1;rw[Yl (fun e=>h2 (hv.1.trans e))];rfl
   rw[e1,e2,if_neg (by decide),if_neg (by decide)];exact h
theorem ZgK (ha:ZA a=true) (hb:ZA b=true) (I:Iso a b f) (hl:8193≤lim): ∀(l m:List Sp) (s t:PSt),Zcs (ZoV f) l m→SimP f s t→SimP f (ZaA a lim l s) (ZaA b lim m t)
 |[],[],s,t,_,h=>h
 |v::l,u::m,s,t,hv,h=>ZgK ha hb I hl l m _ _ hv.2 (Zpu ha hb I hl hv.1 h)
 |[],_::_,_,_,hv,_=>hv.elim
 |_::_,[],_,_,hv,_=>hv.elim
theorem Zp9 {block:Int} {s t:PSt} (h:SimP f s t):Zb2 0 block s=Zb2 0 block t:=by
 unfold Zb2;rw[if_neg (by rintro⟨e, -⟩;cases e),if_neg (by rintro⟨e, -⟩;cases e)];unfold Zct;rw[h.sm.len,h.lk,h.bg]
theorem Zsk {block:Int} {s:PSt} {i:Nat} (h:Zb2 0 block s=some i):i<s.small.length:=by
 unfold Zb2 at h;rw[if_neg (by rintro⟨e, -⟩;cases e)] at h;unfold Zct at h
 have:=List.mem_of_find?_eq_some h
 exact List.mem_range.1 this
theorem Zpa (ha:ZA a=true) (hb:ZA b=true) (I:Iso a b f) (hl:8193≤lim) (block:Int) {s t:PSt} (h:SimP f s t):
 (ZaI a lim 0 block s=none∧ZaI b lim 0 block t=none)∨ ∃s' t',ZaI a lim 0 block s=some s'∧ZaI b lim 0 block t=some t'∧SimP f s' t':=by
 unfold ZaI;rw[← Zp9 h]
 cases hn:Zb2 0 block s with
 |none=>
  rw[h.p1,h.p2];exact .inl ⟨rfl,rfl⟩
 |some i=>
  refine .inr ⟨_,_,rfl,rfl,?_⟩;have hi:=Zsk hn
  have hi2:i<t.small.length:=by rw[← h.sm.len];exact hi
  have hf:f (s.small.getD i 0) (t.small.getD i 0):=h.sm.at_ (j:=i) (by rw[Yn,Ya hi];rfl) (by rw[Yn,Ya hi2];rfl);unfold Z8;rw[if_neg (by decide),if_neg (by decide)];exact ZgK ha hb I hl _ _ _ _ (I.nd _ _ hf).2.2 (h.mark i)
theorem Zki (ha:ZA a=true) (hb:ZA b=true) (I:Iso a b f) (hl:8193≤lim) (block:Int): ∀(n:Nat) (s t:PSt),SimP f s t→SimP f (Zdb a lim 0 block n s) (Zdb b lim 0 block n t)
 |0,s,t,h=>h
 |n+1,s,t,h=>by
  rw[Zdb,Zdb]
  rcases Zpa ha hb I hl block h with⟨e1,e2⟩|⟨s',t',e1,e2,h'⟩
  · rw[e1,e2];exact h
  · rw[e1,e2];exact Zki ha hb I hl block n s' t' h'
theorem Zg1 {g:Gr} {lim order block:Int}: ∀(n:Nat) (s:PSt),ZaI g lim order block (Zdb g lim order block n s)=none→ ∀k,Zdb g lim order block (n+k) s=Zdb g lim order block n s
 |0,s,h,k=>by
  rw[Zdb] at h ⊢
  cases k with
  |zero=>rw[Nat.zero_add,Zdb]
  |succ k=>rw[Nat.zero_add,Zdb,h]
 |n+1,s,h,k=>by
  rw[Zdb] at h ⊢;rw[Nat.add_right_comm,Zdb]
  cases e:ZaI g lim order block s with
  |none=>rfl
  |some s'=>
   rw[e] at h;exact Zg1 n s' h k
theorem ZpG:SimP f .none .none:=⟨trivial,rfl,rfl,rfl,rfl,rfl,rfl,rfl⟩
theorem Zlb (ha:ZA a=true) (hb:ZA b=true) (I:Iso a b f) (hl:8193≤lim) (block:Int):SimP f (Zb8 a lim 0 block) (Zb8 b lim 0 block):=by
 obtain⟨wa,ca⟩:=ZcV lim 0 ha;obtain⟨wb,cb⟩:=ZcV lim 0 hb;have ea:=(ZfY (lim:=lim) (order:=0) (block:=block) ha (a.nd.length+1) _ wa ca (by omega)).2.2;have eb:=(ZfY (lim:=lim) (order:=0) (block:=block) hb (b.nd.length+1) _ wb cb (by omega)).2.2;have q1:=Zg1 _ _ ea b.nd.length;have q2:=Zg1 _ _ eb a.nd.length;unfold Zb8;rw[← q1, ← q2,show a.nd.length+1+b.nd.length=b.nd.length+1+a.nd.length by omega];refine Zki ha hb I hl block _ _ _ ?_;unfold Z8;rw[if_neg (by decide),if_neg (by decide)];exact ZgK ha hb I hl _ _ _ _ I.rt ZpG
theorem Zf6 (ha:ZA a=true) (hb:ZA b=true) (I:Iso a b f):Zcs f (flatL a 0) (flatL b 0):=by
 unfold flatL;rw[if_pos ha,if_pos hb];exact(Zlb ha hb I (by decide) 1).sm
end
theorem Zd3 {g:Gr} (hg:ZA g=true):ZbF g.nd.length (flatL g 0)=true:=by
 rw[Zr];unfold flatL;rw[if_pos hg];have w:=Zer hg 1000000 0 1;exact⟨fun x hx=>w.rng x (Yr.2 (.inl hx)),(List.nodup_append.1 w.nodup).1⟩
theorem Zgl {g:Gr} (hg:ZA g=true) (x:Int):x∈flatL g 0↔Rch g x:=by
 have:=(Zo2 (g:=g) 1000000 0 1 hg).2 x
 rw[← this];unfold PSt.met flatL;rw[ZlS hg,if_pos hg,List.append_nil]
theorem ZgV {g:Gr} (hg:ZA g=true):RnOk g (flatL g 0):=by
 refine⟨hg,Zd3 hg,?_,?_⟩
 · rw[List.all_eq_true]
   intro d hd;obtain⟨x,hx,rfl⟩:=List.mem_map.1 hd;unfold ZmB;rw[List.all_eq_true];intro v hv;unfold Zat;by_cases h2:v.1=2
   · rw[Ym h2,Ym ((Zgl hg _).2 (Rch.next ((Zgl hg x).1 hx) hv h2))];rfl
   · rw[Yl h2];rfl
 · unfold ZmB
   rw[List.all_eq_true];intro v hv;unfold Zat;by_cases h2:v.1=2
   · rw[Ym h2,Ym ((Zgl hg _).2 (Rch.root hv h2))];rfl
   · rw[Yl h2];rfl
def ZeO (g:Gr):Gr:=rnG g (flatL g 0)
theorem Zge {g:Gr} (hg:ZA g=true):ZeO g=⟨(Zai g (flatL g 0)).map (ndT (flatL g 0)),ZO (flatL g 0) g.rt⟩:=if_pos (Zbr.2 (ZgV hg))
section
variable {a b:Gr} {f:Int→Int→Prop}
theorem Zqe (I:Iso a b f) {l m:List Int} (h:Zcs f l m) (hl:l.Nodup) (hm:m.Nodup) {x y:Int} (hf:f x y):plc l x=plc m y:=by
 by_cases hx:x∈l
 · obtain⟨j,h1,h2⟩:=plc_at hx
   have hjl:=(Yk.1 h2).1
   obtain⟨y',hy'⟩: ∃y',m[j]? =some y':=⟨_,Ya (by rw[← h.len];exact hjl)⟩
   have hr:=h.at_ h2 hy';rw[h1,I.fn x y y' hf hr,Zhl hm hy']
 · have hy:y∉m:=fun hy=>hx ((ZmM I h hf).2 hy)
   rw[Zg3 hx,Zg3 hy]
theorem Zh0 (I:Iso a b f) {l m:List Int} (h:Zcs f l m) (hl:l.Nodup) (hm:m.Nodup) {x y:Sp} (hf:ZoV f x y):Z9 l x=Z9 m y:=by
 unfold Z9;by_cases h2:x.1=2
 · rw[if_pos h2,if_pos (hf.1▸h2),Zqe I h hl hm (hf.2.1 h2)]
 · rw[if_neg h2,if_neg (fun e=>h2 (hf.1.trans e))]
   exact Prod.ext hf.1 (hf.2.2 h2)
theorem Zlx (ha:ZA a=true) (hb:ZA b=true) (I:Iso a b f):ZeO a=ZeO b:=by
 have h:=Zf6 ha hb I;have n1:=(Zr.1 (Zd3 ha)).2;have n2:=(Zr.1 (Zd3 hb)).2;rw[Zge ha,Zge hb]
 have e1:(Zai a (flatL a 0)).map (ndT (flatL a 0))=(Zai b (flatL b 0)).map (ndT (flatL b 0)):=by
  unfold Zai;rw[List.map_map,List.map_map];refine h.map_eq fun x y hx hy hf=>?_;have hn:=I.nd x y hf;show ndT (flatL a 0) (Za7 a x)=ndT (flatL b 0) (Za7 b y);unfold ndT ZO;rw[hn.1,hn.2.1,hn.2.2.map_eq fun v u _ _ hv=>Zh0 I h n1 n2 hv]
 have e2:ZO (flatL a 0) a.rt=ZO (flatL b 0) b.rt:=by
  unfold ZO;exact I.rt.map_eq fun v u _ _ hv=>Zh0 I h n1 n2 hv
 rw[e1,e2]
end
def Zsz (l m:List Int) (i k:Int):Prop:= ∃j:Nat,l[j]? =some i∧m[j]? =some k
theorem Zj1 {l m:List Int} (hl:l.Nodup) (hm:m.Nodup) (hlen:l.length=m.length) {v u:Sp} (h1:Zat l v=true) (h2:Zat m u=true) (h:Z9 l v=Z9 m u):ZoV (Zsz l m) v u:=by
 unfold Z9 at h;unfold Zat at h1 h2
 by_cases a:v.1=2 <;> by_cases b:u.1=2
 · rw[if_pos a,if_pos b] at h
   rw[Ym a] at h1;rw[Ym b] at h2
   have q1:v.2∈l:=by simpa using h1
   have q2:u.2∈m:=by simpa using h2
   obtain⟨j,e1,e2⟩:=plc_at q1;obtain⟨k,e3,e4⟩:=plc_at q2;have he:plc l v.2=plc m u.2:=congrArg Prod.snd h
   have:j=k:=by omega
   subst this;exact⟨a.trans b.symm,fun _=>⟨j,e2,e4⟩,fun e=>absurd a e⟩
 · rw[if_pos a,if_neg b] at h
   exact absurd (congrArg Prod.fst h).symm b
 · rw[if_neg a,if_pos b] at h
   exact absurd (congrArg Prod.fst h) a
 · rw[if_neg a,if_neg b] at h
   exact⟨by rw[h],fun e=>absurd e a,fun _=>by rw[h]⟩
theorem ZnO {a b:Gr} (ha:ZA a=true) (hb:ZA b=true) (h:ZeO a=ZeO b):(flatL a 0).length=(flatL b 0).length∧Iso a b (Zsz (flatL a 0) (flatL b 0)):=by
 rw[Zge ha,Zge hb] at h
 injection h with h1 h2
 have oa:=ZgV ha;have ob:=ZgV hb;obtain⟨ra,na⟩:=Zr.1 oa.ord;obtain⟨rb,nb⟩:=Zr.1 ob.ord
 have hlen:(flatL a 0).length=(flatL b 0).length:=by
  have:=congrArg List.length h1
  simpa[Zai] using this
 refine⟨hlen,?_,fun i k hf=>?_,fun i k hf=>?_,fun i k k' h1 h2=>?_,fun i i' k h1 h2=>?_⟩
 · have:=Zcs.of_map (show a.rt.map (Z9 (flatL a 0))=b.rt.map (Z9 (flatL b 0)) from h2)
   exact this.mono fun v u hv hu e=>Zj1 na nb hlen (List.all_eq_true.1 oa.rts v hv) (List.all_eq_true.1 ob.rts u hu) e
 · obtain⟨j,e1,e2⟩:=hf
   have p1:(Zai a (flatL a 0))[j]? =some (Za7 a i):=by unfold Zai;rw[List.getElem?_map,e1];rfl
   have p2:(Zai b (flatL b 0))[j]? =some (Za7 b k):=by unfold Zai;rw[List.getElem?_map,e2];rfl
   have hn:ndT (flatL a 0) (Za7 a i)=ndT (flatL b 0) (Za7 b k):=(Zcs.of_map h1).at_ p1 p2;unfold ndT at hn
   injection hn with q1 q2 q3
   refine⟨q1,q3,?_⟩;have c1:=List.all_eq_true.1 oa.nds _ (Yo p1);have c2:=List.all_eq_true.1 ob.nds _ (Yo p2);exact(Zcs.of_map q2).mono fun v u hv hu e=>Zj1 na nb hlen (List.all_eq_true.1 c1 v hv) (List.all_eq_true.1 c2 u hu) e
 · obtain⟨j,e1,e2⟩:=hf
   exact⟨ra i (Yo e1),rb k (Yo e2)⟩
 · obtain⟨j,e1,e2⟩:=h1
   obtain⟨j',e3,e4⟩:=h2
   have:=ZbB na e1 e3
   subst this;exact Yp (e2.symm.trans e4)
 · obtain⟨j,e1,e2⟩:=h1
   obtain⟨j',e3,e4⟩:=h2
   have:=ZbB nb e2 e4
   subst this;exact Yp (e1.symm.trans e3)
noncomputable def Za6 (a b:Gr):Bool:=ZA a&&(ZA b&&Zeg (ZeO a) (ZeO b))
theorem Zee {a b:Gr}:Za6 a b=true↔ZA a=true∧ZA b=true∧ZeO a=ZeO b:=by
 unfold Za6 Zeg;simp
def toL (a b:Gr):List Int:=(List.range a.nd.length).map fun i:Nat=>if(i:Int)∈flatL a 0 then(flatL b 0).getD (plc (flatL a 0) (i:Int)).toNat (-1) else -1
noncomputable def ZhD (a b:Gr):List Int:=if Za6 a b=true then toL a b else[]
theorem ZuR {a b:Gr} (ha:ZA a=true) (hlen:(flatL a 0).length=(flatL b 0).length) {i:Nat} (hi:i<a.nd.length): ∃k,(toL a b)[i]? =some k∧(((i:Int)∈flatL a 0∧Zsz (flatL a 0) (flatL b 0) i k)∨((i:Int)∉flatL a 0∧k= -1)):=by
 unfold toL;rw[List.getElem?_map,List.getElem?_range hi];refine⟨_,rfl,?_⟩;dsimp only;by_cases h:(i:Int)∈flatL a 0
 · rw[if_pos h]
   obtain⟨j,e1,e2⟩:=plc_at h;have hj:=(Yk.1 e2).1;refine .inl ⟨h,j,e2,?_⟩;rw[e1,show((j:Int)).toNat=j from rfl,Yn,Ya (by omega)];rfl
 · rw[if_neg h];exact .inr ⟨h,rfl⟩
theorem Zhw {n m:Nat} {o:List Int} {v:Sp} (h:vOk n v=true) (hn:o.length≤1000000) (ht:Zat o v=true) (hm:o.length=m):vOk m (Z9 o v)=true:=by
 unfold Z9;by_cases h2:v.1=2
 · rw[if_pos h2]
   unfold Zat at ht;rw[Ym h2] at ht
   have hx:v.2∈o:=by simpa using ht
   obtain⟨j,e1,e2⟩:=plc_at hx;have hj:=(Yk.1 e2).1;rw[e1];unfold vOk ZbK;simp[vin];omega
 · rw[if_neg h2]
   unfold vOk at h ⊢;rw[Yl h2] at h ⊢;simpa using h
theorem Zjp {g:Gr} {o:List Int} (h:RnOk g o) (hn:o.length≤1000000):ZA ⟨(Zai g o).map (ndT o),ZO o g.rt⟩=true:=by
 obtain⟨h1,h2⟩:=Zv.1 h.may;have ho:=Zr.1 h.ord
 have hlen:((Zai g o).map (ndT o)).length=o.length:=by unfold Zai;simp
 refine Zv.2 ⟨fun d hd=>?_,fun v hv=>?_⟩
 · simp only at hd ⊢
   rw[hlen];obtain⟨d0,hd0,rfl⟩:=List.mem_map.1 hd;obtain⟨a1,a2,a3,a4⟩:=ZV.1 (h1 d0 (ZcS ho.1 hd0));have c:=List.all_eq_true.1 h.nds d0 hd0;refine ZV.2 ⟨a1,by unfold ndT ZO;simpa using a2,a3,fun v hv=>?_⟩;unfold ndT ZO at hv;obtain⟨v0,hv0,rfl⟩:=List.mem_map.1 hv;exact Zhw (a4 v0 hv0) hn (List.all_eq_true.1 c v0 hv0) rfl
 · simp only at hv ⊢
   rw[hlen];unfold ZO at hv;obtain⟨v0,hv0,rfl⟩:=List.mem_map.1 hv;exact Zhw (h2 v0 hv0) hn (List.all_eq_true.1 h.rts v0 hv0) rfl
theorem Zh7 {o:List Int} {v:Sp} (ht:Zat o v=true):ZoV (fun i k=> ∃j:Nat,o[j]? =some i∧k=j) v (Z9 o v):=by
 unfold Z9;by_cases h2:v.1=2
 · rw[if_pos h2]
   unfold Zat at ht;rw[Ym h2] at ht
   have hx:v.2∈o:=by simpa using ht
   obtain⟨j,e1,e2⟩:=plc_at hx;exact⟨h2,fun _=>⟨j,e2,e1⟩,fun e=>absurd h2 e⟩
 · rw[if_neg h2]
   exact⟨rfl,fun e=>absurd e h2,fun _=>rfl⟩
theorem ZgZ {α β:Type} {R:α→β→Prop} {f:α→β}: ∀{l:List α},(∀x∈l,R x (f x))→Zcs R l (l.map f)
 |[],_=>trivial
 |x::l,h=>⟨h x List.mem_cons_self,ZgZ fun y hy=>h y (List.mem_cons_of_mem _ hy)⟩
theorem Zq2 {g:Gr} {o:List Int} (h:RnOk g o):Iso g ⟨(Zai g o).map (ndT o),ZO o g.rt⟩ (fun i k=> ∃j:Nat,o[j]? =some i∧k=j):=by
 obtain⟨ro,no⟩:=Zr.1 h.ord;refine⟨?_,?_,?_,?_,?_⟩
 · exact ZgZ fun v hv=>Zh7 (List.all_eq_true.1 h.rts v hv)
 · rintro i k ⟨j,e1,rfl⟩
   have p1:(Zai g o)[j]? =some (Za7 g i):=by unfold Zai;rw[List.getElem?_map,e1];rfl
   have c1:=List.all_eq_true.1 h.nds _ (Yo p1)
   have e2:Za7 ⟨(Zai g o).map (ndT o),ZO o g.rt⟩ (j:Int)=ndT o (Za7 g i):=by
    unfold Za7;rw[show((j:Int)).toNat=j from rfl,Yn];simp only;rw[List.getElem?_map,p1];rfl
   rw[e2];exact⟨rfl,rfl,ZgZ fun v hv=>Zh7 (List.all_eq_true.1 c1 v hv)⟩
 · rintro i k ⟨j,e1,rfl⟩
   refine⟨ro i (Yo e1),?_⟩
   have:=(Yk.1 e1).1
   simp[Zai];omega
 · rintro i k k' ⟨j,e1,rfl⟩ ⟨j',e2,rfl⟩
   rw[ZbB no e1 e2]
 · rintro i i' k ⟨j,e1,rfl⟩ ⟨j',e2,e3⟩
   have:j=j':=by omega
   subst this;exact Yp (e1.symm.trans e2)
theorem ZsV {g:Gr} {o:List Int} (h:rnE g o=0) (hn:o.length≤1000000):ZA (rnG g o)=true∧ZeO (rnG g o)=ZeO g:=by
 have ho:=Zbr.1 h
 have e:rnG g o=⟨(Zai g o).map (ndT o),ZO o g.rt⟩:=by unfold rnG;rw[if_pos h]
 have h1:=Zjp ho hn;rw[e];exact⟨h1,(Zlx ho.may h1 (Zq2 ho)).symm⟩
end
end Go.Proofs.YtknoncenblehkaaGreatDoor
