/- Rows of a copy, written; worlds below. No program in it. A heap that came in by value, opened; a config. A graph in plain words: whether it may be, where nodes lead, -/
import Derived.Test.YtknoncenblehkaaGreatDoorG24
import Derived.SizedLaws
set_option maxRecDepth 100000
set_option maxHeartbeats 32000000
set_option linter.unusedSimpArgs false
set_option linter.unusedVariables false
namespace Go.Proofs.YtknoncenblehkaaGreatDoor
section
open Go.RowKit
theorem Zbp {w:World} {b b':Nat} {E E':TypeId} {size size' n n':Nat} {v v':Value} {xs xs':List Value} (h:w.ownsRow b E size v n xs) (h':w.ownsRow b' E' size' v' n' xs') (hne:E≠E'): ∀k,v.ownBlock=some k→v'.ownBlock≠some k:=by
 intro k e e'
 rcases h.2 with⟨h0,_⟩|⟨g,cap,cur,h1,_,hg,_⟩
 · rw[h0] at e;cases e
 · rcases h'.2 with⟨h0,_⟩|⟨g',cap',cur',h1',_,hg',_⟩
   · rw[h0] at e';cases e'
   · rw[h1] at e;rw[h1'] at e'
     have e1:g=k:=by simpa[Value.ownBlock] using e
     have e2:g'=k:=by simpa[Value.ownBlock] using e'
     exact Blk.ne (show Blk w g E cur from hg) (show Blk w g' E' cur' from hg') hne (e1.trans e2.symm)
end
section
open Go.ChangeShapes Go.WideShapes Go.RowKit Go.Deep
section
variable {H:Type} {enc:TypeId×Value→H} {w:World} {base b0:Nat} {r:Reach} {sp:Nat→Bool} {held:Bool}
theorem ZeP {fuel:Nat} {a b c d:Value} {x:DataW H×List MemPlace} (h:DataW.trod enc Tryz.prog w base sp held fuel 23 [a,b,c,d]=some x): ∃cf:Cf,a=.int .i64 cf.semi∧b=.int .i64 cf.large∧c=.int .i64 cf.slots∧d=.int .i64 cf.limit∧CFit cf:=by
 obtain⟨hl,ys,k, -, -,hg⟩:=ZaC Tryz.underlying23 (by kernel_rfl) (by kernel_rfl) h;obtain⟨u0,y0,e0, -,h0⟩:=hg 0 _ rfl;obtain⟨u1,y1,e1, -,h1⟩:=hg 1 _ rfl;obtain⟨u2,y2,e2, -,h2⟩:=hg 2 _ rfl;obtain⟨u3,y3,e3, -,h3⟩:=hg 3 _ rfl;obtain⟨z0,i0, -,w0⟩:=DataW.trod_int (k:=.i64) (by kernel_rfl) h0;obtain⟨z1,i1, -,w1⟩:=DataW.trod_int (k:=.i64) (by kernel_rfl) h1;obtain⟨z2,i2, -,w2⟩:=DataW.trod_int (k:=.i64) (by kernel_rfl) h2;obtain⟨z3,i3, -,w3⟩:=DataW.trod_int (k:=.i64) (by kernel_rfl) h3;simp at e0 e1 e2 e3 i0 i1 i2 i3;exact⟨⟨z0,z1,z2,z3⟩,by simp[e0,i0],by simp[e1,i1],by simp[e2,i2],by simp[e3,i3],bounds_i64 w0,bounds_i64 w1,bounds_i64 w2,bounds_i64 w3⟩
theorem Ze4 {v:Value} {d:DataW H} {p:List MemPlace} (hv:Value.okWide Tryz.prog w r b0 23 v) (h:DataW.Trod enc Tryz.prog w base sp held 23 v d p):
 ∃cf:Cf,v=.agg #[.int .i64 cf.semi,.int .i64 cf.large,.int .i64 cf.slots,.int .i64 cf.limit]∧CFit cf:=by
 obtain⟨⟨cs⟩,rfl,hsz⟩:=okWide_struct Tryz.underlying23 hv;obtain⟨fuel,hf⟩:=h;obtain⟨hl, -⟩:=ZaC Tryz.underlying23 (by kernel_rfl) (by kernel_rfl) hf
 have hl4:cs.length=4:=by simpa[Value.cells] using hl
 match cs,hl4 with
 |[u0,u1,u2,u3],_=>
  obtain⟨cf,rfl,rfl,rfl,rfl,hc⟩:=ZeP hf;exact⟨cf,rfl,hc⟩
end
end
section
open Go.RowKit
structure Nd where
 kd:Int
 fs:List Sp
 rs:List Nat
structure Gr where
 nd:List Nd
 rt:List Sp
def vOk (n:Nat) (v:Sp):Bool:=Zat v.1 v.2&&!(decide (v.1=2)&&decide ((n:Int)≤v.2))
def Zfo (n:Nat) (d:Nd):Bool:=decide (0≤d.kd∧d.kd≤31)&&(decide (d.fs.length≤4096)&&(decide (d.rs.length≤4096)&&d.fs.all (vOk n)))
def Zb6 (g:Gr):Bool:=g.nd.all (Zfo g.nd.length)&&g.rt.all (vOk g.nd.length)
def ZoO (d:Nd):Int:=1+(d.fs.length:Int)+(d.rs.length:Int)
def ndSz (d:Nd):Int:=wrap64 (ZoO d)
theorem Zev (a b:Int):wrap64 (wrap64 a+b)=wrap64 (a+b):=by unfold wrap64;omega
def plc (l:List Int) (x:Int):Int:=if x∈l then(l.idxOf x:Nat) else -1
theorem ZmA {l:List Int} {x:Int} (h:x∈l):plc l x=(l.idxOf x:Nat):=if_pos h
theorem ZjV {l:List Int} {x:Int} {k:Nat} (hx:l[k]? =some x) (hn: ∀(j:Nat) y,j<k→l[j]? =some y→y≠x):plc l x=k:=by
 have hm:x∈l:=Yn hx;rw[ZmA hm];obtain⟨hk,e⟩:=Yj.1 hx;have h1:l.idxOf x<l.length:=List.idxOf_lt_length_iff.2 hm
 have h2:l[l.idxOf x]? =some x:=by rw[Ya h1];simp
 rcases Nat.lt_trichotomy (l.idxOf x) k with h|h|h
 · exact absurd rfl (hn _ _ h h2)
 · rw[h]
 · exfalso
   have h3:=List.not_of_lt_findIdx (p:=(· ==x)) (xs:=l) (i:=k) h;rw[e] at h3;simp at h3
theorem plc_at {l:List Int} {x:Int} (h:x∈l): ∃k:Nat,plc l x=k∧l[k]? =some x:=by
 refine⟨l.idxOf x,ZmA h,?_⟩;have h1:l.idxOf x<l.length:=List.idxOf_lt_length_iff.2 h;rw[Ya h1];simp
def Zno (o:List Int) (v:Sp):Bool:=!decide (v.1=2)||decide (v.2∈o)
def Zkd (o:List Int) (v:Sp):Sp:=if v.1=2 then(2,plc o v.2) else v
def Zon (o:List Int) (l:List Sp):Bool:=l.all (Zno o)
def Zka (o:List Int) (l:List Sp):List Sp:=l.map (Zkd o)
def ZkA (n:Nat) (o:List Int):Bool:=o.all (fun x=>decide (0≤x∧x<(n:Int)))&&decide o.Nodup
def ndT (o:List Int) (d:Nd):Nd:=⟨d.kd,Zka o d.fs,d.rs⟩
def ZpO:Nd:=⟨0,[],[]⟩
def Zoj (g:Gr) (o:List Int):List Nd:=o.map fun i=>g.nd.getD i.toNat ZpO
def rnE (g:Gr) (o:List Int):Int:=
 if Zb6 g=true then(if ZkA g.nd.length o=true then(if(Zoj g o).all (fun d=>Zon o d.fs)&&Zon o g.rt then 0 else 2) else 1) else 4
def rnG (g:Gr) (o:List Int):Gr:=if rnE g o=0 then⟨(Zoj g o).map (ndT o),Zka o g.rt⟩ else⟨[],[]⟩
structure RnOk (g:Gr) (o:List Int):Prop where
 may:Zb6 g=true
 ord:ZkA g.nd.length o=true
 nds:(Zoj g o).all (fun d=>Zon o d.fs)=true
 rts:Zon o g.rt=true
theorem Zoh {g:Gr} {o:List Int}:rnE g o=0↔RnOk g o:=by
 unfold rnE;constructor
 · intro h
   repeat' split at h
   all_goals first|cases h|skip
   rename_i h1 h2 h3
   rw[Bool.and_eq_true] at h3;exact⟨h1,h2,h3.1,h3.2⟩
 · rintro⟨h1,h2,h3,h4⟩
   rw[if_pos h1,if_pos h2,if_pos (by rw[h3,h4];rfl)]
theorem Zco {n:Nat} {o:List Int}:ZkA n o=true↔(∀x∈o,0≤x∧x<(n:Int))∧o.Nodup:=by
 unfold ZkA;simp[List.all_eq_true]
theorem Zlm {l:List Int} (h:l.Nodup) {i j:Nat} {x:Int} (hi:l[i]? =some x) (hj:l[j]? =some x):i=j:=by
 obtain⟨h1,e1⟩:=Yj.1 hi;obtain⟨h2,e2⟩:=Yj.1 hj;exact(List.getElem_inj (h₀:=h1) (h₁:=h2) h).1 (e1.trans e2.symm)
theorem Znb {n:Nat} {v:Sp} (h:vOk n v=true) (h2:v.1=2):0≤v.2∧v.2<(n:Int):=by
 unfold vOk Zat at h;rw[h2] at h;simp[vin] at h;omega
theorem Zbe {n:Nat} {d:Nd}:Zfo n d=true↔(0≤d.kd∧d.kd≤31)∧d.fs.length≤4096∧d.rs.length≤4096∧ ∀v∈d.fs,vOk n v=true:=by
 unfold Zfo;simp[List.all_eq_true]
theorem ZO {g:Gr}:Zb6 g=true↔(∀d∈g.nd,Zfo g.nd.length d=true)∧ ∀v∈g.rt,vOk g.nd.length v=true:=by
 unfold Zb6;simp[List.all_eq_true]
structure NdR (w:World) (B:Nat) (d:Nd) (h:Value×Value):Prop where
 fields:Sl w B 2 h.1 d.fs.length (spc d.fs)
 raws:Sl w B 1 h.2 d.rs.length (u64s d.rs)
def ndc:List Nd→List (Value×Value)→List Value
 |d::l,h::hs=>.int .i64 d.kd::h.1::h.2::ndc l hs
 |_,_=>[]
theorem Zge: ∀(l:List Nd) (hs:List (Value×Value)) (k:Nat) (d:Nd) (h:Value×Value),l[k]? =some d→hs[k]? =some h→(ndc l hs)[k * 3]? =some (.int .i64 d.kd)∧(ndc l hs)[k * 3+1]? =some h.1∧(ndc l hs)[k * 3+2]? =some h.2
 |[],_,_,_,_,hd,_=>by cases hd
 |_::_,[],_,_,_,_,hh=>by cases hh
 |x::l,y::hs,0,d,h,hd,hh=>by
  obtain rfl:x=d:=by simpa using hd
  obtain rfl:y=h:=by simpa using hh
  exact⟨rfl,rfl,rfl⟩
 |x::l,y::hs,k+1,d,h,hd,hh=>by
  have:=Zge l hs k d h (by simpa using hd) (by simpa using hh)
  have e:(k+1) * 3=k * 3+3:=by omega
  rw[e];exact this
structure RdG (w:World) (B:Nat) (g:Gr) (vn vr:Value) (hs:List (Value×Value)):Prop where
 len:hs.length=g.nd.length
 nodes:Sl w B 3 vn g.nd.length (ndc g.nd hs)
 each: ∀(i:Nat) d h,g.nd[i]? =some d→hs[i]? =some h→NdR w B d h
 roots:Sl w B 2 vr g.rt.length (spc g.rt)
section
variable {w w':World} {B B':Nat} {g:Gr} {vn vr:Value} {hs:List (Value×Value)} {d:Nd} {h:Value×Value}
theorem NdR.below (H:NdR w B d h) (b:Below B w w'):NdR w' B d h:=⟨H.fields.below b,H.raws.below b⟩
theorem NdR.more (H:NdR w B d h) (b:B≤B'):NdR w B' d h:=⟨H.fields.more b,H.raws.more b⟩
theorem RdG.below (H:RdG w B g vn vr hs) (b:Below B w w'):RdG w' B g vn vr hs:=⟨H.len,H.nodes.below b,fun i d h h1 h2=>(H.each i d h h1 h2).below b,H.roots.below b⟩
theorem RdG.more (H:RdG w B g vn vr hs) (b:B≤B'):RdG w B' g vn vr hs:=⟨H.len,H.nodes.more b,fun i d h h1 h2=>(H.each i d h h1 h2).more b,H.roots.more b⟩
theorem RdG.only (H:RdG w B g vn vr hs) (o:Only nob w w') (hB:B≤w.heap.size):RdG w' B g vn vr hs:=H.below (o.below hB fun _ h=>h.elim)
theorem RdG.at_ {A:Option Addr} {c k:Nat} (H:RdG w B g (.slice A g.nd.length c) vr hs) (b:Below B w w') (hd:g.nd[k]? =some d):
 ∃bb o fv rv,A=some ⟨bb,o,none⟩∧bb<B∧hs[k]? =some (fv,rv)∧w'.cell? ⟨bb,o+k * 3,none⟩=some (.int .i64 d.kd)∧w'.cell? ⟨bb,o+k * 3+1,none⟩=some fv∧w'.cell? ⟨bb,o+k * 3+2,none⟩=some rv∧NdR w' B d (fv,rv):=by
 have hk:k<g.nd.length:=(Yj.1 hd).1
 obtain⟨⟨fv,rv⟩,hh⟩: ∃h,hs[k]? =some h:=⟨_,Ya (by rw[H.len];exact hk)⟩
 obtain⟨bb,o,c',e,_,_,hlt,hc⟩:=(H.nodes.below b).at_ (by omega)
 obtain⟨rfl,rfl⟩:A=some ⟨bb,o,none⟩∧c=c':=by simpa using e
 obtain⟨g0,g1,g2⟩:=Zge g.nd hs k d (fv,rv) hd hh;exact⟨bb,o,fv,rv,rfl,hlt,hh,hc _ _ g0,by have:=hc _ _ g1;rwa [← Nat.add_assoc] at this,by have:=hc _ _ g2;rwa [← Nat.add_assoc] at this,(H.each k d _ hd hh).below b⟩
end
def Zn3 (l:List Sp):Prop:= ∀v∈l,(-9223372036854775808≤v.1∧v.1≤9223372036854775807)∧ -9223372036854775808≤v.2∧v.2≤9223372036854775807
structure GrFit (g:Gr):Prop where
 kd: ∀d∈g.nd, -9223372036854775808≤d.kd∧d.kd≤9223372036854775807
 fs: ∀d∈g.nd,Zn3 d.fs
 rs: ∀d∈g.nd,Zbt d.rs
 rt:Zn3 g.rt
noncomputable instance (a b:Gr):Decidable (a=b):=Classical.propDecidable _
def ZkJ (f:FuncId):Prop:= ∀(g:Gr) (vn vr:Value) (hs:List (Value×Value)) (B:Nat) (w:World),RdG w B g vn vr hs→B≤w.heap.size→GrFit g→
 Calls Tryz.prog f #[.agg #[vn,vr]] w fun e w'=>e=.returned (.bool (Zb6 g))∧Only nob w w'
def Zmz (f:FuncId):Prop:= ∀(d:Nd) (h:Value×Value) (B:Nat) (w:World),NdR w B d h→
 Calls Tryz.prog f #[.agg #[.int .i64 d.kd,h.1,h.2]] w fun e w'=>e=.returned (.int .i64 (ndSz d))∧Only nob w w'
end
section
open Go.ChangeShapes Go.WideShapes Go.RowKit Go.Deep
theorem Zkm {α:Type} {P:Nat→α→Prop}: ∀(n:Nat),(∀i,i<n→ ∃x,P i x)→ ∃l:List α,l.length=n∧ ∀i x,l[i]? =some x→P i x
 |0,_=>⟨[],rfl,fun _ _ h=>by cases h⟩
 |n+1,h=>by
  obtain⟨l,hl,hp⟩:=Zkm n fun i hi=>h i (by omega);obtain⟨x,hx⟩:=h n (by omega);refine⟨l++[x],by simp[hl],fun i y hy=>?_⟩;rcases Yp i n with hi|hi
  · rw[List.getElem?_append_left (by omega)] at hy
    exact hp i y hy
  · have hi2:i=n:=by
     have:=(Yj.1 hy).1
     simp[hl] at this;omega
    subst hi2;rw[List.getElem?_append_right (by omega),hl] at hy;simp at hy;rw[← hy];exact hx
theorem ZmS: ∀(l:List Nd) (hs:List (Value×Value)) (xs:List Value),hs.length=l.length→xs.length=l.length * 3→
 (∀i d h,l[i]? =some d→hs[i]? =some h→xs[i * 3+0]? =some (.int .i64 d.kd)∧xs[i * 3+1]? =some h.1∧xs[i * 3+2]? =some h.2)→xs=ndc l hs
 |[],[],xs,_,hx,_=>by simpa[ndc] using hx
 |[],_::_,_,h,_,_=>by cases h
 |_::_,[],_,h,_,_=>by cases h
 |_::_,_::_,[],_,hx,_=>by simp at hx
 |_::_,_::_,[_],_,hx,_=>by simp at hx;omega
 |_::_,_::_,[_,_],_,hx,_=>by simp at hx;omega
 |d::l,h::hs,a::b::c::xs,hl,hx,H=>by
  obtain⟨e0,e1,e2⟩:=H 0 d h rfl rfl
  obtain rfl:a=.int .i64 d.kd:=by simpa using e0
  obtain rfl:b=h.1:=by simpa using e1
  obtain rfl:c=h.2:=by simpa using e2
  have ih:=ZmS l hs xs (by simpa using hl) (by simp at hx;omega) fun i d h hd hh=>by
   have:=H (i+1) d h (by simpa using hd) (by simpa using hh)
   simpa[Nat.add_mul] using this
  simp only[ndc];rw[← ih]
theorem ZdE: ∀(n:Nat) (xs:List Value),xs.length=n * 2→(∀j,j<n * 2→ ∃z:Int,xs[j]? =some (.int .i64 z)∧ -9223372036854775808≤z∧z≤9223372036854775807)→ ∃l:List Sp,l.length=n∧xs=spc l∧Zn3 l
 |0,[],_,_=>⟨[],rfl,rfl,fun _ h=>by cases h⟩
 |0,_::_,hl,_=>by simp at hl
 |n+1,[],hl,_=>by simp at hl
 |n+1,[_],hl,_=>by simp at hl;omega
 |n+1,a::b::xs,hl,h=>by
  obtain⟨x,e0,b0⟩:=h 0 (by omega);obtain⟨y,e1,b1⟩:=h 1 (by omega)
  obtain rfl:a=.int .i64 x:=by simpa using e0
  obtain rfl:b=.int .i64 y:=by simpa using e1
  obtain⟨l,hl',rfl,hF⟩:=ZdE n xs (by simp at hl;omega) fun j hj=>by
   have:=h (j+2) (by omega)
   simpa using this
  exact⟨(x,y)::l,by simp[hl'],by simp[spc],fun z hz=>by
   rcases List.mem_cons.1 hz with rfl|hz
   · exact⟨b0,b1⟩
   · exact hF z hz⟩
section
variable {H:Type} {enc:TypeId×Value→H} {w:World} {base b0:Nat} {r:Reach} {sp:Nat→Bool} {held:Bool}
theorem ZcS {fuel:Nat} {u:Value} {x:DataW H×List MemPlace} (h:DataW.trod enc Tryz.prog w base sp held fuel 25 [u]=some x): ∃l:List Sp,Sl w w.heap.size 2 u l.length (spc l)∧Zn3 l:=by
 obtain⟨hv,ht⟩:=Zbj Tryz.underlying25 h;obtain⟨n,xs,hs,hf⟩:=Zbq 2 Tryz.underlying25 Tryz.underlying59 (by kernel_rfl) (by kernel_rfl) (by kernel_rfl) (by decide) hv ht
 have hcell: ∀j,j<n * 2→ ∃z:Int,xs[j]? =some (.int .i64 z)∧ -9223372036854775808≤z∧z≤9223372036854775807:=by
  intro j hj
  have hi:j / 2<n:=by omega
  have h2:j % 2=0∨j % 2=1:=by omega
  have hj2:j / 2 * 2+j % 2=j:=by omega
  rcases h2 with h2|h2
  · obtain⟨u,y,k,hu,hd⟩:=hf (j / 2) 0 _ hi rfl
    obtain⟨z,e0, -,w0⟩:=DataW.trod_int (k:=.i64) (by kernel_rfl) hd
    obtain rfl:u=.int .i64 z:=by simpa using e0
    exact⟨z,by rw[← hj2,h2];exact hu,bounds_i64 w0⟩
  · obtain⟨u,y,k,hu,hd⟩:=hf (j / 2) 1 _ hi rfl
    obtain⟨z,e0, -,w0⟩:=DataW.trod_int (k:=.i64) (by kernel_rfl) hd
    obtain rfl:u=.int .i64 z:=by simpa using e0
    exact⟨z,by rw[← hj2,h2];exact hu,bounds_i64 w0⟩
 obtain⟨A,c,rfl,_,_,hl,_⟩:=id hs;obtain⟨l,rfl,rfl,hF⟩:=ZdE n xs hl hcell;exact⟨l,hs,hF⟩
theorem ZdX {fuel:Nat} {u:Value} {x:DataW H×List MemPlace} (h:DataW.trod enc Tryz.prog w base sp held fuel 30 [u]=some x): ∃l:List Nat,Sl w w.heap.size 1 u l.length (u64s l)∧Zbt l:=by
 obtain⟨hv,ht⟩:=Zbj Tryz.underlying30 h;exact Zfm Tryz.underlying30 Tryz.underlying57 (by kernel_rfl) hv ht
theorem Zfn {fuel:Nat} {u:Value} {x:DataW H×List MemPlace} (h:DataW.trod enc Tryz.prog w base sp held fuel 24 [u]=some x):
 ∃(l:List Nd) (hs:List (Value×Value)),hs.length=l.length∧Sl w w.heap.size 3 u l.length (ndc l hs)∧(∀(i:Nat) d h,l[i]? =some d→hs[i]? =some h→NdR w w.heap.size d h)∧
  (∀d∈l, -9223372036854775808≤d.kd∧d.kd≤9223372036854775807)∧(∀d∈l,Zn3 d.fs)∧ ∀d∈l,Zbt d.rs:=by
 obtain⟨hv,ht⟩:=Zbj Tryz.underlying24 h;obtain⟨n,xs,hS,hf⟩:=Zbq 3 Tryz.underlying24 Tryz.underlying56 (by kernel_rfl) (by kernel_rfl) (by kernel_rfl) (by decide) hv ht;obtain⟨A,c,rfl,_,_,hl,_⟩:=id hS
 have hone: ∀i,i<n→ ∃p:Nd×(Value×Value),xs[i * 3+0]? =some (.int .i64 p.1.kd)∧xs[i * 3+1]? =some p.2.1∧xs[i * 3+2]? =some p.2.2∧NdR w w.heap.size p.1 p.2∧(-9223372036854775808≤p.1.kd∧p.1.kd≤9223372036854775807)∧Zn3 p.1.fs∧Zbt p.1.rs:=by
  intro i hi;obtain⟨u0,y0,k0,e0,d0⟩:=hf i 0 _ hi rfl;obtain⟨z,i0, -,w0⟩:=DataW.trod_int (k:=.i64) (by kernel_rfl) d0
  obtain rfl:u0=.int .i64 z:=by simpa using i0
  obtain⟨u1,y1,k1,e1,d1⟩:=hf i 1 _ hi rfl;obtain⟨fs,s1,f1⟩:=ZcS d1;obtain⟨u2,y2,k2,e2,d2⟩:=hf i 2 _ hi rfl;obtain⟨rs,s2,f2⟩:=ZdX d2;exact⟨(⟨z,fs,rs⟩,(u1,u2)),e0,e1,e2,⟨s1,s2⟩,bounds_i64 w0,f1,f2⟩
 obtain⟨ps,hpl,hp⟩:=Zkm n hone
 have hg: ∀(i:Nat) d h,(ps.map (·.1))[i]? =some d→(ps.map (·.2))[i]? =some h→ps[i]? =some (d,h):=by
  intro i d h hd hh;rw[List.getElem?_map] at hd hh
  cases hq:ps[i]? with
  |none=>rw[hq] at hd;cases hd
  |some q=>
   rw[hq] at hd hh;simp at hd hh;rw[← hd, ← hh]
 have hmem: ∀d∈ps.map (·.1), ∃(i:Nat) (q:Nd×(Value×Value)),ps[i]? =some q∧q.1=d:=by
  intro d hd;obtain⟨q,hq,rfl⟩:=List.mem_map.1 hd;obtain⟨i,hi⟩:=List.getElem?_of_mem hq;exact⟨i,q,hi,rfl⟩
 have hxs:xs=ndc (ps.map (·.1)) (ps.map (·.2)):=ZmS _ _ xs (by simp) (by simp[hpl,hl]) fun i d h hd hh=>by
  obtain⟨a,b,c, -⟩:=hp i _ (hg i d h hd hh);exact⟨a,b,c⟩
 refine⟨ps.map (·.1),ps.map (·.2),by simp,?_,fun i d h hd hh=>(hp i _ (hg i d h hd hh)).2.2.2.1,fun d hd=>?_,fun d hd=>?_,fun d hd=>?_⟩
 · rw[← hxs,List.length_map,hpl];exact hS
 · obtain⟨i,q,hi,rfl⟩:=hmem d hd;exact(hp i q hi).2.2.2.2.1
 · obtain⟨i,q,hi,rfl⟩:=hmem d hd;exact(hp i q hi).2.2.2.2.2.1
 · obtain⟨i,q,hi,rfl⟩:=hmem d hd;exact(hp i q hi).2.2.2.2.2.2
theorem Ziw {v:Value} {d:DataW H} {p:List MemPlace} (hv:Value.okWide Tryz.prog w r b0 27 v) (h:DataW.Trod enc Tryz.prog w base sp held 27 v d p):
 ∃(g:Gr) (vn vr:Value) (hs:List (Value×Value)),v=.agg #[vn,vr]∧RdG w w.heap.size g vn vr hs∧GrFit g:=by
 obtain⟨⟨cs⟩,rfl,hsz⟩:=okWide_struct Tryz.underlying27 hv;obtain⟨fuel,hf⟩:=h;obtain⟨ys,n, -, -,hl,hyl,hg⟩:=DataW.trod_struct Tryz.underlying27 hf
 have hl2:cs.length=2:=by
  have:Tryz.prog.cellsOf 27=2:=by kernel_rfl
  rw[this] at hl;simpa[Value.cells] using hl
 match cs,hl2 with
 |[u0,u1],_=>
  have key: ∀{x:Option (DataW H×List MemPlace)} {j:Nat},j<ys.length→x=ys[j]?→ ∃y,x=some y:=fun hj e=>⟨_,e.trans (Ya hj)⟩
  have hys:ys.length=2:=hyl;obtain⟨y0,h0⟩:=key (by omega) (hg 0 _ rfl);obtain⟨y1,h1⟩:=key (by omega) (hg 1 _ rfl);have g0:DataW.trod enc Tryz.prog w base sp held n 24 [u0]=some y0:=h0;have g1:DataW.trod enc Tryz.prog w base sp held n 25 [u1]=some y1:=h1;obtain⟨l,hs,e0,e1,e2,e3,e4,e5⟩:=Zfn g0;obtain⟨rt,s1,f1⟩:=ZcS g1;exact⟨⟨l,rt⟩,u0,u1,hs,rfl,⟨e0,e1,e2,s1⟩,⟨e3,e4,e5,f1⟩⟩
end
end
section
open Go.ChangeShapes Go.WideShapes Go.RowKit Go.Deep
section
variable {H:Type} {enc:TypeId×Value→H} {P:Program} {w:World} {base:Nat} {sp:Nat→Bool} {held:Bool}
end
section
variable {H:Type} {enc:TypeId×Value→H} {w:World} {base:Nat} {sp:Nat→Bool} {held:Bool}
end
end
end Go.Proofs.YtknoncenblehkaaGreatDoor
