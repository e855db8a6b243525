/- Plain mathematics of free words: the first span that is grea -/
import Derived.Test.YtknoncenblehkaaGreatDoorG13
import Derived.Test.YtknoncenblehkaaGreatDoorG12
import Derived.Lib.AppendZerosOnto
import Derived.Deep.RegionLaw
set_option maxRecDepth 100000
set_option maxHeartbeats 32000000
set_option linter.unusedSimpArgs false
set_option linter.unusedVariables false
namespace Go.Proofs.YtknoncenblehkaaGreatDoor
section
def Sp.fits (n:Int) (x:Sp):Bool:=decide (x.ok∧n≤x.2)
theorem Zcp {n:Int} {x:Sp}:Sp.fits n x=true↔x.ok∧n≤x.2:=by unfold Sp.fits;exact decide_eq_true_iff
def Zd9 (p:Sp→Bool) (l:List Sp):Int:=if l.findIdx p<l.length then(l.findIdx p:Nat) else -1
theorem ZlK {p:Sp→Bool} {l:List Sp} {k:Nat} {x:Sp} (hx:l[k]? =some x) (hp:p x=true) (hb: ∀(j:Nat) y,j<k→l[j]? =some y→p y=false):Zd9 p l=(k:Nat):=by
 obtain⟨hk,rfl⟩:=Yj.1 hx
 have:l.findIdx p=k:=by
  rw[List.findIdx_eq hk];exact⟨hp,fun j hj=>hb j _ hj (Ya (by omega))⟩
 unfold Zd9;rw[this,if_pos hk]
theorem Zkl {p:Sp→Bool} {l:List Sp} (hb: ∀(j:Nat) y,j<l.length→l[j]? =some y→p y=false):Zd9 p l= -1:=by
 unfold Zd9;rw[if_neg];intro h
 have:=hb _ _ h (Ya h)
 have h2:=List.findIdx_getElem (w:=h);rw[h2] at this
 cases this
theorem Zca (p:Sp→Bool) (l:List Sp):decide (0≤Zd9 p l)=l.any p:=by
 unfold Zd9;by_cases h:l.findIdx p<l.length
 · rw[if_pos h,Yl (by omega)]
   have:=List.findIdx_lt_length.1 h
   exact(List.any_eq_true.2 this).symm
 · rw[if_neg h]
   have h0:l.any p=false:=by
    rw[Bool.eq_false_iff];intro hh;exact h (List.findIdx_lt_length.2 (List.any_eq_true.1 hh))
   rw[h0];rfl
def Zah (l:List Sp) (n:Int):List Sp×Int×Int:=
 if n<1 then(l,0,7) else
 if l.length≤l.findIdx (Sp.fits n) then(l,0,9) else
 if(l.getD (l.findIdx (Sp.fits n)) (0,0)).2=n then(l.eraseIdx (l.findIdx (Sp.fits n)),(l.getD (l.findIdx (Sp.fits n)) (0,0)).1,0) else
 (l.set (l.findIdx (Sp.fits n)) ((l.getD (l.findIdx (Sp.fits n)) (0,0)).1+n,(l.getD (l.findIdx (Sp.fits n)) (0,0)).2 - n),(l.getD (l.findIdx (Sp.fits n)) (0,0)).1,0)
theorem Ziq {l:List Sp} {n:Int} (h:n<1):Zah l n=(l,0,7):=by unfold Zah;rw[if_pos h]
theorem ZaT {l:List Sp} {n:Int} (h: ¬n<1) (hi:Zd9 (Sp.fits n) l<0):Zah l n=(l,0,9):=by
 unfold Zah;rw[if_neg h,if_pos];unfold Zd9 at hi
 split at hi <;> omega
theorem ZbN {l:List Sp} {n:Int} (h: ¬n<1) (hi: ¬Zd9 (Sp.fits n) l<0): ∃(k:Nat) (x:Sp),Zd9 (Sp.fits n) l=(k:Nat)∧l[k]? =some x∧x.ok∧n≤x.2∧
 (x.2=n→Zah l n=(l.eraseIdx k,x.1,0))∧(x.2≠n→Zah l n=(l.set k (x.1+n,x.2 - n),x.1,0)):=by
 unfold Zd9 at hi ⊢;by_cases hk:l.findIdx (Sp.fits n)<l.length
 · rw[if_pos hk]
   have hp:=Zcp.1 (List.findIdx_getElem (w:=hk))
   have hg:l.getD (l.findIdx (Sp.fits n)) (0,0)=l[l.findIdx (Sp.fits n)]:=by simp[hk]
   refine⟨_,_,rfl,Ya hk,hp.1,hp.2,fun e=>?_,fun e=>?_⟩
   · unfold Zah
     rw[if_neg h,if_neg (by omega),hg,if_pos e]
   · unfold Zah
     rw[if_neg h,if_neg (by omega),hg,if_neg e]
 · rw[if_neg hk] at hi
   omega
instance (l:List Sp):Decidable (Joined l):=by unfold Joined;infer_instance
theorem ZlR (l:List Sp) (k:Nat):l.eraseIdx k=l.take k++l.drop (k+1):=List.eraseIdx_eq_take_drop_succ l k
end
section
open Go.RowKit Go.Lib
def Zpo (g:FuncId) (lb:Array Value) (p:Sp→Bool) (w:World):Prop:=
 (∀args w,(callFunc g args).run Tryz.prog w=.ok (.enter g args) w)∧ ∀(x:Sp),Fit x→ ∀(W:World),Only nob w W→Calls Tryz.prog g (#[.agg #[.int .i64 x.1,.int .i64 x.2]]++lb) W fun e w'=>e=.returned (.bool (p x))∧Only nob W w'
theorem Zcr (g:FuncId) (lb:Array Value) (p:Sp→Bool) (v:Value) (l:List Sp) (B:Nat) (w:World) (hp:Zpo g lb p w) (h:Sl w B 2 v l.length (spc l)) (hB:B≤w.heap.size) (hf:ZfO l):
 Calls Tryz.prog 157 #[v,.func (.func g) #[] lb] w fun e w'=>e=.returned (.int .i64 (Zd9 p l))∧Only nob w w':=by
 have HA:=ZZ h;have HF:=ZZ hf;have HP:=ZZ hp.2;have eg:=hp.1;obtain⟨A,ca,rfl,hac,ham, -⟩:=h;unfold maxLen at ham;clear hp hf
 go_enter Tryz.func157,Tryz.ntmps157
 go_wp2_with fail
 go_loopw [5,8] (fun _ i wr=> ∃k:Nat,k≤l.length∧i=.int .i64 k∧Hid (∀(j:Nat) y,j<k→l[j]? =some y→p y=false)∧Only nob w wr) (fun _ i _=>l.length - (intOf i).toNat)
 case atStart=>exact⟨0,Yt _,rfl,fun j _ hj _=>absurd hj (Nat.not_lt_zero j),Only.refl _ _⟩
 case round=>
  obtain⟨k,hk,rfl,hno,hO⟩:=hrel;have HX:=ZZ hO;by_cases hlt:k<l.length
  · obtain⟨x,hx⟩: ∃x,l[k]? =some x:=⟨_,Ya hlt⟩
    obtain⟨b,o,rfl,hb,c0,c1⟩:=Zy HA.out (hO.below hB fun _ h=>h.elim) hx;have HXX:=ZZ hx;clear hO hx
    cases hp:p x with
    |true=>
     have HQ:=ZZ hp;have HK:=ZZ (ZlK HXX.out hp hno.out);clear hp
     go_wp2_with fail
     refine(HP.out x (HF.out.get HXX.out) _ HX.out).mono ?_;rw[HQ.out];rintro e w1 ⟨rfl,ho⟩;have HO:=ZZ (HX.out.trans ho);clear ho;go_wp2;go_ret;exact⟨ZbF (by rw[HK.out]),HO.out⟩
    |false=>
     have HQ:=ZZ hp;clear hp
     go_wp2_with fail
     refine(HP.out x (HF.out.get HXX.out) _ HX.out).mono ?_;rw[HQ.out];rintro e w1 ⟨rfl,ho⟩;have HO:=ZZ (HX.out.trans ho);clear ho;go_wp2
     go_roundw
     case rel=>
      refine⟨k+1,by omega,by go_num,fun j y hj hy=>?_,HO.out⟩;rcases Yp j k with h'|h'
      · exact hno.out j y h' hy
      · obtain rfl:j=k:=by omega
        rw[HXX.out] at hy;obtain rfl:=Yo hy;exact HQ.out
     case measure=>simp[intOf];omega
  · obtain rfl:k=l.length:=by omega
    have HK:=ZZ (Zkl hno.out);clear hO;go_wp2;go_ret;exact⟨ZbF (by rw[HK.out]),HX.out⟩
theorem Ziu (p:Sp→Bool) (l:List Sp): -1≤Zd9 p l∧Zd9 p l≤l.length:=by unfold Zd9;split <;> omega
theorem Z1 (g:FuncId) (lb:Array Value) (p:Sp→Bool) (v:Value) (l:List Sp) (B:Nat) (w:World) (hp:Zpo g lb p w) (h:Sl w B 2 v l.length (spc l)) (hB:B≤w.heap.size) (hf:ZfO l):
 Calls Tryz.prog 170 #[v,.func (.func g) #[] lb] w fun e w'=>e=.returned (.bool (l.any p))∧Only nob w w':=by
 have HA:=ZZ h;have HP:=ZZ hp;have HF:=ZZ hf;clear h hp hf;have HI:=ZZ (Zca p l)
 go_enter Tryz.func170,Tryz.ntmps170
 go_wp2_with fail
 go_at_call 157;refine(Zcr g lb p v l B w HP.out HA.out hB HF.out).mono ?_;rintro e w1 ⟨rfl,ho⟩;have HO:=ZZ ho
 obtain⟨i,hi⟩: ∃i,i=Zd9 p l:=⟨_,rfl⟩
 rw[← hi];have HII:=ZZ hi;clear ho hi;go_wp2;go_ret;exact⟨Za (by rw[← HI.out, ← HII.out]),HO.out⟩
theorem ZmP {l m:List Sp} (h:l.length≠m.length):l≠m:=fun e=>h (by rw[e])
theorem Zlf {l m:List Sp} {k:Nat} {x y:Sp} (hx:l[k]? =some x) (hy:m[k]? =some y) (h:x≠y):l≠m:=fun e=>h (by rw[e,hy] at hx;exact(Yo hx).symm)
theorem ZmV {l m:List Sp} (hl:l.length=m.length) (h: ∀(j:Nat) x,j<l.length→l[j]? =some x→m[j]? =some x):l=m:=by
 refine List.ext_getElem? fun j=>?_;rcases Yp j l.length with hj|hj
 · rw[h j _ hj (Ya hj)]
   exact Ya hj
 · rw[List.getElem?_eq_none hj,List.getElem?_eq_none (by omega)]
theorem Zko (va vb:Value) (l m:List Sp) (B B':Nat) (w:World) (ha:Sl w B 2 va l.length (spc l)) (hb:Sl w B' 2 vb m.length (spc m)):
 Calls Tryz.prog 174 #[va,vb] w fun e w'=>e=.returned (.bool (decide (l=m)))∧Only nob w w':=by
 have HA:=ZZ ha;have HB:=ZZ hb;obtain⟨A,ca,rfl,hac,ham, -⟩:=ha;obtain⟨A',cb,rfl,hbc,hbm, -⟩:=hb;unfold maxLen at ham hbm;by_cases hlen:l.length=m.length
 · have HL:=ZZ hlen
   rw[← hlen] at hbc ⊢;clear hlen
   go_enter Tryz.func174,Tryz.ntmps174
   go_wp2
   go_loopw [5,13] (fun _ i wr=> ∃k m':Nat,k≤l.length∧i=.int .i64 k∧Hid (∀(j:Nat) x,j<k→l[j]? =some x→m[j]? =some x)∧wr=w.drewN m') (fun _ i _=>l.length - (intOf i).toNat)
   case atStart=>exact⟨0,0,Yt _,rfl,fun j _ hj _=>absurd hj (Nat.not_lt_zero j),rfl⟩
   case round=>
    obtain⟨k,m',hk,rfl,hno,rfl⟩:=hrel;by_cases hlt:k<l.length
    · obtain⟨x,hx⟩: ∃x,l[k]? =some x:=⟨_,Ya hlt⟩
      obtain⟨y,hy⟩: ∃y,m[k]? =some y:=⟨_,Ya (by rw[← HL.out];exact hlt)⟩
      obtain⟨b1,o1,rfl, -,c0,c1⟩:=Zy HA.out (Below.refl _ _) hx;obtain⟨b2,o2,rfl, -,d0,d1⟩:=Zy HB.out (Below.refl _ _) hy;have HX:=ZZ hx;have HY:=ZZ hy;clear hx hy;by_cases h1:x.1=y.1
      · by_cases h2:x.2=y.2
        · obtain rfl:x=y:=Prod.ext h1 h2
          clear h1 h2;go_wp2
          go_quiet (fail)
          go_wp2
          go_roundw
          case rel=>
           refine⟨k+1,_,by omega,by go_num,fun j z hj hz=>?_,rfl⟩;rcases Yp j k with h'|h'
           · exact hno.out j z h' hz
           · obtain rfl:j=k:=by omega
             rw[HX.out] at hz;rw[HY.out];exact hz
          case measure=>simp[intOf];omega
        · have HN:=ZZ (Yk (Zlf HX.out HY.out fun e=>h2 (by rw[e])))
          rw[h1] at c0;go_wp2
          go_quiet (fail)
          go_wp2;go_ret;exact⟨Za (by rw[HN.out]),((Only.refl _ _).drewN _).drewN _⟩
      · have HN:=ZZ (Yk (Zlf HX.out HY.out fun e=>h1 (by rw[e])))
        go_wp2
        go_quiet (fail)
        go_wp2;go_ret;exact⟨Za (by rw[HN.out]),((Only.refl _ _).drewN _).drewN _⟩
    · obtain rfl:k=l.length:=by omega
      have HN:=ZZ (Yl (ZmV HL.out hno.out));go_wp2;go_ret;exact⟨Za (by rw[HN.out]),(Only.refl _ _).drewN _⟩
 · have HN:=ZZ (Yk (ZmP hlen))
   have hn1: ¬((l.length:Int)=(m.length:Int)):=by omega
   go_enter Tryz.func174,Tryz.ntmps174
   go_wp2;go_ret;exact⟨Za (by rw[HN.out]),Only.refl _ _⟩
end
section
open Go.RowKit Go.Lib Go.Shelf
theorem Zax (g:Nat): ∀(vs:List Value) (o:Nat) (w:World),Only (isb g) w (w.setCells g o vs)
 |[],_,w=>Only.refl _ w
 |v::vs,o,w=>(Zc w g o v).trans (Zax g vs (o+1) (w.setCell ⟨g,o,none⟩ v))
theorem ZgV {α:Type} (L vs:List α) (o:Nat) (v:α) (h:o+(vs.length+1)≤L.length):splice (L.set o v) (o+1) vs=splice L o (v::vs):=by
 have h1:(L.set o v).take (o+1)=L.take o++[v]:=by
  rw[List.take_add_one,List.take_set_of_le (Yi _),List.getElem?_set,if_pos rfl,if_pos (by omega)];rfl
 have h2: ∀k,o<k→(L.set o v).drop k=L.drop k:=fun k hk=>by rw[List.drop_set_of_lt hk]
 unfold splice;rw[h1,h2 _ (by omega)];simp[Nat.add_assoc,Nat.add_comm 1 vs.length]
theorem Blk.setCells {g:Nat} {t:TypeId}: ∀(vs:List Value) (o:Nat) {w:World} {cs:Array Value},Blk w g t cs→o+vs.length≤cs.size→Blk (w.setCells g o vs) g t (splice cs.toList o vs).toArray
 |[],o,w,cs,h,_=>by
  show Blk w g t _;simpa[splice] using h
 |v::vs,o,w,cs,h,hl=>by
  have h1:=Blk.setCells vs (o+1) (h.put o v) (by simp at hl ⊢;omega);have h2:=ZgV cs.toList vs o v (by simp at hl ⊢;omega);rw[Array.toList_setIfInBounds,h2] at h1;exact h1
theorem ZfI (l:List Sp) (k:Nat) (cur:List Value) (hk:k<l.length) (hc:cur.take (l.length * 2)=spc l) (z:List Value):
 (splice (splice cur (k * 2) (spc (l.drop (k+1)))) ((l.length - 1) * 2) z).take ((l.length - 1) * 2)=spc (l.eraseIdx k):=by
 have hlen:l.length * 2≤cur.length:=by
  have h1:=congrArg List.length hc;rw[List.length_take,Zar] at h1;omega
 have hd:(spc (l.drop (k+1))).length=(l.length - (k+1)) * 2:=by rw[Zar,List.length_drop]
 have h1: ∀(L:List Value) (o:Nat),o≤L.length→(splice L o z).take o=L.take o:=fun L o ho=>by
  unfold splice;rw[List.take_append_of_le_length (by rw[List.length_take];omega),List.take_take,Nat.min_self]
 have hls:=ZaB cur (k * 2) (spc (l.drop (k+1))) (by rw[hd];omega);rw[h1 _ _ (by rw[hls];omega)];unfold splice
 have h2:cur.take (k * 2)=spc (l.take k):=by
  have:=congrArg (List.take (k * 2)) hc
  rw[List.take_take,Nat.min_eq_left (by omega),Zhs] at this;exact this
 rw[h2,hd,List.take_append,List.take_of_length_le (by rw[Zar,List.length_take];omega),Zar,List.length_take,Nat.min_eq_left (by omega),show(l.length - 1) * 2 - k * 2=(spc (l.drop (k+1))).length by rw[hd];omega,List.take_append_of_le_length (Yi _),List.take_length, ← Z9,ZlR]
theorem ZeS {P:Program} (w:World) (t e ty:TypeId) (z:Value) (ht:P.underlying t=some (.slice e)) (hv: ∀w,(zeroValue e).run P w=.ok z w) (x y:Value) (hz:z.cells=#[x,y]) (hx:x.oneCell'=true) (hy:y.oneCell'=true) (b o c:Nat)
 (hc: ∀j,j<2→(w.cell? ⟨b,o+j,none⟩).isSome=true) (hf: ∀j,j<2→w.frozen? ⟨b,o+j,none⟩=false):
 (Builtin.clear_ #[t] ty #[.slice (some ⟨b,o,none⟩) 1 c]).run P w=.ok (.tuple #[]) (w.setCells b o [x,y]):=by
 have hzc:(Builtin.zeroCells z.cells 1).toList=[x,y]:=by
  rw[hz];simp[Builtin.zeroCells,Array.range,Array.ofFn];rfl
 have hst:=run_storeCells_cells (P:=P) b o [x,y] 0 w (by simpa using hc) (by simpa using hf) (by intro v hv';simp at hv';rcases hv' with rfl|rfl <;> assumption);rw[Nat.add_zero] at hst;simp[Builtin.clear_,run_underlying ht,hv,hzc,hst]
theorem Zid (g cap n k j:Nat) (cur:Array Value) (l:List Sp) (w:World) (hb:Blk w g 61 cur) (hs:cur.size=cap * 2) (hn:l.length=n) (hnc:n≤cap) (hcm:cap≤maxLen) (hc:cur.toList.take (n * 2)=spc l) (hk:k<n) (hj:j=k+1):
 Calls Tryz.prog 159 #[.slice (some ⟨g,0,none⟩) n cap,.int .i64 k,.int .i64 j] w fun e w'=>e=.returned (.slice (some ⟨g,0,none⟩) (n - 1) cap)∧Only (isb g) w w'∧
  ∃cur':Array Value,Blk w' g 61 cur'∧cur'.size=cap * 2∧cur'.toList.take ((n - 1) * 2)=spc (l.eraseIdx k):=by
 obtain⟨i0,hi0,hz0,hz1,hz2⟩:=info_parts Zae
 have hcm':cap≤9223372036854775807:=by unfold maxLen at hcm;omega
 have hcl:cur.toList.length=cap * 2:=by simpa using hs
 obtain⟨news,hnews⟩: ∃news,news=spc (l.drop (k+1)):=⟨_,rfl⟩
 have hlen:news.length=(n - j) * 2:=by rw[hnews,Zar,List.length_drop];omega
 have hsrc: ∀t u,news[t]? =some u→w.cell? ⟨g,j * 2+t,none⟩=some u:=by
  intro t u hu;rw[hb.cell, ← Array.getElem?_toList];rw[hnews, ← Zfd,List.getElem?_drop, ← hc,List.getElem?_take] at hu
  split at hu
  · rw[hj];exact hu
  · cases hu
 obtain⟨A,hA,hAs⟩: ∃A:Addr,ZbU (some ⟨g,0,none⟩) j n cap 2=.slice (some A) (n - j) (cap - j)∧Hid (∀t u,news[t]? =some u→w.drew.cell? (A.add t)=some u):=by
  by_cases h:cap=j
  · refine⟨⟨g,0,none⟩,by unfold ZbU;rw[if_pos h],fun t u hu=>?_⟩
    have h0:news.length=0:=by rw[hlen];omega
    rw[List.length_eq_zero_iff.1 h0] at hu;simp at hu
  · refine⟨⟨g,j * 2,none⟩,by unfold ZbU;rw[if_neg h];show Value.slice (some (Addr.add _ _)) _ _=_;rw[Addr.add_lit,Nat.zero_add],fun t u hu=>?_⟩
    rw[Addr.add_lit];exact hsrc t u hu
 have s3:Hid (∀t,t<news.length→(w.drew.cell? ⟨g,0+k * 2+t,none⟩).isSome=true∧w.drew.frozen? ⟨g,0+k * 2+t,none⟩=false):=by
  intro t ht;rw[hlen] at ht;have h1:Blk w.drew g 61 cur:=hb;rw[h1.cell,h1.free,Array.getElem?_eq_getElem (by omega)];exact⟨rfl,rfl⟩
 have s1:Hid (news.length=(n - j) * i0.size):=by rw[hz1];exact hlen
 have s2:Hid (∀u∈news,u.oneCell'=true):=by rw[hnews];exact ZY _
 obtain⟨W1,hW1⟩: ∃W1,W1=w.drew.setCells g (0+k * 2) news:=⟨_,rfl⟩
 have B1:Blk W1 g 61 (splice cur.toList (k * 2) news).toArray:=by
  rw[hW1,Nat.zero_add];exact Blk.setCells news (k * 2) (show Blk w.drew g _ cur from hb) (by rw[hlen];omega)
 have hsz1:(splice cur.toList (k * 2) news).toArray.size=cap * 2:=by
  rw[List.size_toArray,ZaB _ _ _ (by rw[hlen];omega),hcl]
 have O1:Only (isb g) w W1:=by rw[hW1];exact(((Only.refl (isb g) w).drewN 1)).trans (Zax g news _ w.drew)
 obtain⟨W2,hW2⟩: ∃W2,W2=W1.setCells g ((n - 1) * 2) [.int .i64 0,.int .i64 0]:=⟨_,rfl⟩
 have B2:Hid (Blk W2 g 61 (splice (splice cur.toList (k * 2) news) ((n - 1) * 2) [.int .i64 0,.int .i64 0]).toArray):=by
  rw[hW2]
  have:=Blk.setCells [.int .i64 0,.int .i64 0] ((n - 1) * 2) B1 (by rw[hsz1];simp;omega)
  refine ZZ ?_;simpa using this
 have O2:Hid (Only (isb g) w W2):=by rw[hW2];exact O1.trans (Zax g _ _ _)
 have E2:Hid ((splice (splice cur.toList (k * 2) news) ((n - 1) * 2) [.int .i64 0,.int .i64 0]).toArray.toList.take ((n - 1) * 2)=spc (l.eraseIdx k)):=by
  have:=ZfI l k cur.toList (by omega) (by rw[hn];exact hc) [.int .i64 0,.int .i64 0]
  rw[hn, ← hnews] at this;refine ZZ ?_;simpa using this
 have Z2:Hid ((splice (splice cur.toList (k * 2) news) ((n - 1) * 2) [.int .i64 0,.int .i64 0]).toArray.size=cap * 2):=by
  have h1:(splice cur.toList (k * 2) news).length=cap * 2:=by simpa using hsz1
  refine ZZ ?_;rw[List.size_toArray,ZaB _ _ _ (by rw[h1];simp;omega),h1]
 have hclr: ∀ty,(Builtin.clear_ #[31] ty #[.slice (some ⟨g,(n - 1) * 2,none⟩) 1 (cap - (n - 1))]).run Tryz.prog W1=.ok (.tuple #[]) W2:=fun ty=>by
  rw[hW2];refine ZeS W1 _ 61 ty (.agg #[.int .i64 0,.int .i64 0]) Tryz.underlying31 (fun w=>by simp[zeroValue,typeInfo,hi0,hz0]) _ _ rfl rfl rfl g _ _ (fun q hq=>?_) (fun q _=>B1.free _);rw[B1.cell,Array.getElem?_eq_getElem (by rw[hsz1];omega)];rfl
 have hcut1:=Zb7 Tryz.underlying31 hi0 (some ⟨g,0,none⟩) n cap k (by omega);have hcut2:=Zap Tryz.underlying31 hi0 (some ⟨g,0,none⟩) n cap j (by omega);have hcut3:=Zep Tryz.underlying31 hi0 (some ⟨g,0,none⟩) (n - 1) cap (n - 1) n (by omega) hnc;rw[hz1] at hcut1 hcut2 hcut3;rw[hA] at hcut2;rw[show ZbU (some ⟨g,0,none⟩) 0 k cap 2=.slice (some ⟨g,0,none⟩) k cap by unfold ZbU;split <;> simp[Addr.add]] at hcut1;rw[show ZbU (some ⟨g,0,none⟩) (n - 1) n cap 2=.slice (some ⟨g,(n - 1) * 2,none⟩) 1 (cap - (n - 1)) by unfold ZbU;rw[if_neg (by omega),show n - (n - 1)=1 by omega];show Value.slice (some (Addr.add _ _)) _ _=_;rw[Addr.add_lit,Nat.zero_add]] at hcut3;have HW1:=ZZ hW1;clear hW1 hW2 B1 hsz1 O1 hsrc hlen hnews hc hcl hs hA hb hn
 have hjc:j≤cap:=by omega
 have hjn:j≤n:=by omega
 have hkj:k≤j:=by omega
 have hne: ¬((k:Int)=(j:Int)):=by omega
 have hm:k+(n - j)=n - 1:=by omega
 clear hj
 have mixed:Tryz.prog.follows .mixedOrders=true:=by kernel_rfl
 go_enter Tryz.func159,Tryz.ntmps159
 go_wp2_with fail
 go_region_law_o (refine step_append_room rfl (.tmp 22) (.tmp 25) 31 rfl 61 i0 2 Tryz.underlying31 hi0 hz1 g 0 k cap (by simp[Act.eval,Act.put]) A (n - j) (cap - j) news (by simp[Act.eval,Act.put]) (by rw[← hz1];exact s1.out) hAs.out s2.out (by omega) s3.out ?_;rw[← HW1.out])
 go_wp2;go_ret;exact⟨rfl,O2.out,_,B2.out,Z2.out,E2.out⟩
end
section
open Go.RowKit Go.Lib
theorem Zi5 {n:Int} {x:Sp} (h:x.ok):Sp.fits n x=decide (n≤x.2):=by
 unfold Sp.fits;rw[Bool.eq_iff_iff,decide_eq_true_iff,decide_eq_true_iff];exact⟨fun e=>e.2,fun e=>⟨h,e⟩⟩
theorem Znv {n:Int} {x:Sp} (h: ¬x.ok):Sp.fits n x=false:=by unfold Sp.fits;exact Yk fun e=>h e.1
theorem Zln (n:Int) (gp:Nat) (x:Sp) (hx:Fit x) (w:World) (hb:Blk w gp 3 #[.int .i64 n]):
 Calls Tryz.prog 180 #[.agg #[.int .i64 x.1,.int .i64 x.2],.pointer (some ⟨gp,0,none⟩)] w fun e w'=>e=.returned (.bool (Sp.fits n x))∧Only nob w w':=by
 have HB:=ZZ hb;have hbx:=Blk.new w 61 #[.int .i64 x.1,.int .i64 x.2];have HBX:=ZZ hbx;clear hb hbx;by_cases ho:x.ok
 · have HM:=ZZ (Yl ho)
   by_cases hn:n≤x.2
   case' pos=>have HK:=ZZ ((Zi5 ho).trans (Yl hn))
   case' neg=>have HK:=ZZ ((Zi5 ho).trans (Yk hn))
   all_goals
    clear ho
    go_enter Tryz.func180,Tryz.ntmps180
    go_wp2_with fail
    go_at_call 87;refine(Zpi x hx _).mono ?_;rw[HM.out];rintro e w1 ⟨rfl,o⟩;have c1:=o.keeps (HBX.out.cell 1);have c2:=((((Only.refl nob w).alloc (.cells #[.int .i64 x.1,.int .i64 x.2] 61)).trans o)).keeps (HB.out.cell 0);simp at c1 c2;have O:=ZZ (((Only.refl nob w).alloc (.cells #[.int .i64 x.1,.int .i64 x.2] 61)).trans o);clear o;go_wp2;go_ret;exact⟨Za (by first|(rw[HK.out];done)|(rw[HK.out];exact Yk (by omega))),O.out⟩
 · have HM:=ZZ (Yk ho)
   have HK:=ZZ (Znv (n:=n) ho);clear ho
   go_enter Tryz.func180,Tryz.ntmps180
   go_wp2_with fail
   go_at_call 87;refine(Zpi x hx _).mono ?_;rw[HM.out];rintro e w1 ⟨rfl,o⟩;have O:=ZZ (((Only.refl nob w).alloc (.cells #[.int .i64 x.1,.int .i64 x.2] 61)).trans o);clear o;go_wp2;go_ret;exact⟨Za (by rw[HK.out]),O.out⟩
theorem ZkH {n:Int} {gp:Nat} {w:World} (hb:Blk w gp 3 #[.int .i64 n]):Zpo 180 #[.pointer (some ⟨gp,0,none⟩)] (Sp.fits n) w:=
 ⟨enters_of Tryz.func180 (by kernel_rfl) rfl,fun x hx W hW=>Zln n gp x hx W (hb.keep hW id)⟩
theorem Zme (n:Int) (w:World):
 Calls Tryz.prog 158 #[.int .i64 n] w fun e w'=>e=.returned (.func (.func 180) #[] #[.pointer (some ⟨w.heap.size,0,none⟩)])∧Blk w' w.heap.size 3 #[.int .i64 n]∧Only nob w w':=by
 go_enter Tryz.func158,Tryz.ntmps158
 go_wp2;go_ret;exact⟨rfl,Blk.new w _ _,(Only.refl nob w).alloc _⟩
theorem ZkC {w:World} {base n:Nat} {v:Value} {l:List Sp} (h:w.ownsRow base 61 2 v l.length (spc l)) (hn:n<l.length): ∃g cap, ∃cur:Array Value,v=.slice (some ⟨g,0,none⟩) l.length cap∧base≤g∧Blk w g 61 cur∧l.length≤cap∧cap≤maxLen∧cur.size=cap * 2∧cur.toList.take (l.length * 2)=spc l:=by
 rcases h.2 with⟨_,h0⟩|⟨g,cap,cur,h1,h2,h3,h4,h5,h6,h7⟩
 · exact absurd hn (by omega)
 · exact⟨g,cap,cur,h1,h2,h3,h4,h5,h6,h7⟩
theorem ZeK {w:World} {base g cap n:Nat} {cur:Array Value} {l:List Sp} (h:Blk w g 61 cur) (hg:base≤g) (hn:l.length=n) (h1:n≤cap) (h2:cap≤maxLen) (hs:cur.size=cap * 2) (h3:cur.toList.take (n * 2)=spc l):w.ownsRow base 61 2 (.slice (some ⟨g,0,none⟩) n cap) n (spc l):=
 ⟨by rw[Zar,hn],.inr ⟨g,cap,cur,rfl,hg,h,h1,h2,hs,h3⟩⟩
theorem Zn5 {cur:Array Value} {l:List Sp} {k n:Nat} {y:Sp} (hn:l.length=n) (h:cur.toList.take (n * 2)=spc l) (hk:k<n):((cur.setIfInBounds (k * 2) (.int .i64 y.1)).setIfInBounds (k * 2+1) (.int .i64 y.2)).toList.take (n * 2)=spc (l.set k y):=by
 rw[Array.toList_setIfInBounds,Array.toList_setIfInBounds,List.take_set,List.take_set,h];clear h;subst hn
 induction l generalizing k with
 |nil=>simp at hk
 |cons x l ih=>
  rcases k with _|k
  · simp[spc]
  · have:=ih (k:=k) (by simpa using hk)
    rw[show(k+1) * 2=k * 2+1+1 by omega];simpa[spc] using this
def SpTakeO:Prop:= ∀(v:Value) (l:List Sp) (n:Int) (B:Nat) (w:World),Sl w B 2 v l.length (spc l)→B≤w.heap.size→l.length≤10000→ZfO l→ -9223372036854775808≤n→n≤9223372036854775807→
 Calls Tryz.prog 126 #[v,.int .i64 n] w fun e w'=> ∃v',e=.returned (.tuple #[v',.int .i64 (Zah l n).2.1,.int .i64 (Zah l n).2.2])∧w'.ownsRow w.heap.size 61 2 v' (Zah l n).1.length (spc (Zah l n).1)∧Only nob w w'
theorem ZhI {w w1 w2:World} {g:Nat} (h:Only nob w w1) (hg:w.heap.size≤g) (k:Only (isb g) w1 w2):Only nob w w2:=h.andThen k fun i hi e=>by unfold isb at e;omega
theorem ZfE {l:List Sp} {x:Sp} {k:Nat} {n:Int} (_:l[k]? =some x) (hx:x.ok) (h1: ¬n<1) (_:n≤x.2):0≤x.1∧x.1+x.2≤1099511627776∧1≤n:=by unfold Sp.ok Za6 at hx;omega
theorem Zm1:SpTakeO:=by
 intro v l n B w h hB hl hf hn1 hn2;have HA:=ZZ h;have HF:=ZZ hf;clear h hf
 go_enter Tryz.func126,Tryz.ntmps126
 go_wp2_with fail
 go_at_call 156;refine(ZdQ v l B w HA.out hB (by omega)).mono ?_;rintro e w1 ⟨v1,rfl,own1,o⟩;have HO1:=ZZ own1;have O1:=ZZ o;have S1:=ZZ (Sl.of_own own1 own1.1);clear own1 o;by_cases h1:n<1
 · have HT:=ZZ (Ziq (l:=l) h1)
   go_wp2
   go_ret3
   exact⟨v1,by rw[HT.out];rfl,by rw[HT.out];exact HO1.out,O1.out⟩
 · have H1:=ZZ h1
   go_wp2_with fail
   go_at_call 158;refine(Zme n w1).mono ?_;rintro e w2 ⟨rfl,hb2,o⟩;have HP:=ZZ (ZkH hb2);have O2:=ZZ (O1.out.trans o);have S2:=ZZ ((S1.out.below o.whole).more o.size);have HO2:=ZZ (Zb HO1.out o fun _ _=>id);clear hb2 o
   go_wp2_with fail
   go_at_call 157;refine(Zcr _ _ _ _ l w2.heap.size w2 HP.out S2.out (Yi _) HF.out).mono ?_;rintro e w3 ⟨rfl,o⟩;have O3:=ZZ (O2.out.trans o);have S3:=ZZ ((S2.out.below o.whole).more o.size);have HO3:=ZZ (Zb HO2.out o fun _ _=>id)
   obtain⟨i,hi⟩: ∃i,i=Zd9 (Sp.fits n) l:=⟨_,rfl⟩
   rw[← hi];have HI:=ZZ hi;have hr:=Ziu (Sp.fits n) l;rw[← hi] at hr;clear o hi;by_cases h2:i<0
   · have HT:=ZZ (ZaT (l:=l) (n:=n) (by have:=H1.out;omega) (by rw[← HI.out];exact h2))
     go_wp2
     go_ret3
     exact⟨v1,by rw[HT.out];rfl,by rw[HT.out];exact HO3.out,O3.out⟩
   · obtain⟨k,x,hk,hx,hok,hnx,he,hne⟩:=ZbN (l:=l) (n:=n) (by have:=H1.out;omega) (by rw[← HI.out];exact h2)
     rw[← HI.out] at hk;obtain rfl:=hk;obtain⟨hb1,hb2,hb3⟩:=ZfE (n:=n) hx hok (by have:=H1.out;omega) hnx;have hkl:k<l.length:=(Yj.1 hx).1
     have hnx2:x.2≤1099511627776:=by omega
     obtain⟨g,cap,cur,rfl,hg,hblk,hc1,hc2,hc3,hc4⟩:=ZkC HO3.out hkl;obtain⟨q0,q1⟩:=ZmD hx;have HB:=ZZ hblk;have HZ:=ZZ hc3;have HC:=ZZ hc4
     have hcm:cap≤9223372036854775807:=by unfold maxLen at hc2;omega
     have d0:w3.cell? ⟨g,k * 2,none⟩=some (.int .i64 x.1):=by
      rw[hblk.cell, ← Array.getElem?_toList];rw[← hc4,List.getElem?_take,if_pos (by omega)] at q0;exact q0
     have d1:w3.cell? ⟨g,k * 2+1,none⟩=some (.int .i64 x.2):=by
      rw[hblk.cell, ← Array.getElem?_toList];rw[← hc4,List.getElem?_take,if_pos (by omega)] at q1;exact q1
     have HE:=ZZ he;have HN:=ZZ hne;clear he hne q0 q1 hblk hc3 hc4 hx hok
     go_wp2_with fail
     go_quiet (fail)
     by_cases h3:x.2=n
     · have HT:=ZZ (HE.out h3)
       have HB4:=ZZ (show Blk (w3.drewN nq) g 61 cur from HB.out);have O4:=ZZ (O3.out.drewN nq);clear d0 d1
       go_wp2_with fail
       go_at_call 159;refine(Zid g cap l.length k (k+1) cur l _ HB4.out HZ.out rfl hc1 hc2 HC.out hkl rfl).mono ?_;rintro e w5 ⟨rfl,o,cur',hb5,hz5,hc5⟩;have O5:=ZZ (ZhI O4.out hg o);have S5:=ZZ (ZeK (base:=w.heap.size) (n:=l.length - 1) hb5 hg (by rw[List.length_eraseIdx,if_pos hkl]) (by omega) hc2 hz5 hc5);clear o hb5 hz5 hc5;go_wp2
       go_ret3
       exact⟨_,by rw[HT.out];rfl,by rw[HT.out];simpa[List.length_eraseIdx,hkl] using S5.out,O5.out⟩
     · have HT:=ZZ (HN.out h3)
       have hbeq:(x.2==n)=false:=by simpa using h3
       have f0:=HB.out.free (k * 2);have f1:=HB.out.free (k * 2+1)
       go_wp2_with fail
       go_ret3
       have B5:=((HB.out.drewN nq).put (k * 2) (.int .i64 (x.1+n))).put (k * 2+1) (.int .i64 (x.2 - n));have hc5:=Zn5 (y:=(x.1+n,x.2 - n)) rfl HC.out hkl;refine⟨_,by rw[HT.out];rfl,?_,ZhI (O3.out.drewN nq) hg ((Zc _ g _ _).trans (Zc _ g _ _))⟩;rw[HT.out]
       have:=(ZeK (base:=w.heap.size) (n:=l.length) B5 hg (l:=l.set k (x.1+n,x.2 - n)) (by simp) hc1 hc2 (by simpa using HZ.out) hc5)
       simpa using this
theorem Zex {all:Sp} {l:List Sp}:l.any (fun x=>!decide (Sp.within x all))=false↔ ∀x∈l,Sp.within x all:=by
 rw[List.any_eq_false];constructor
 · intro h x hx
   by_cases hw:Sp.within x all
   · exact hw
   · exact absurd (by simpa using hw) (h x hx)
 · intro h x hx
   simpa using h x hx
end
end Go.Proofs.YtknoncenblehkaaGreatDoor
