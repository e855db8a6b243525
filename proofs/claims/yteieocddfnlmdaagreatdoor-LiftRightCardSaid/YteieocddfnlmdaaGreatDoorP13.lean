/- Plain mathematics of free words: the first span that is grea -/
import Derived.Deep.RegionWith
import Derived.Deep.DrawnRows
import Derived.Test.YteieocddfnlmdaaGreatDoorP11
import Derived.Lib.AppendZerosOnto
import Derived.Deep.RegionLaw
namespace Go.Proofs.YteieocddfnlmdaaGreatDoor
def Zpl (p:Sp→Bool) (l:List Sp):Int:=if l.findIdx p<l.length then(l.findIdx p:Nat) else -1
theorem Zn2 {p:Sp→Bool} {l:List Sp} {k:Nat} {x:Sp} (hx:l[k]? =some x) (hp:p x=true) (hb: ∀(j:Nat) y,j<k→l[j]? =some y→p y=false):Zpl p l=(k:Nat):=by
 obtain⟨hk,rfl⟩:=List.getElem?_eq_some_iff.1 hx
 have:l.findIdx p=k:=by
  rw[List.findIdx_eq hk];exact⟨hp,fun j hj=>hb j _ hj (List.getElem?_eq_getElem (by omega))⟩
 unfold Zpl;rw[this,if_pos hk]
theorem Zma {p:Sp→Bool} {l:List Sp} (hb: ∀(j:Nat) y,j<l.length→l[j]? =some y→p y=false):Zpl p l= -1:=by
 unfold Zpl;rw[if_neg];intro h
 have:=hb _ _ h (List.getElem?_eq_getElem h)
 have h2:=List.findIdx_getElem (w:=h);rw[h2] at this
 cases this
theorem Zoi (p:Sp→Bool) (l:List Sp):decide (0≤Zpl p l)=l.any p:=by
 unfold Zpl;by_cases h:l.findIdx p<l.length
 · rw[if_pos h,decide_eq_true (by omega)]
   have:=List.findIdx_lt_length.1 h
   exact(List.any_eq_true.2 this).symm
 · rw[if_neg h]
   have h0:l.any p=false:=by
    rw[Bool.eq_false_iff];intro hh;exact h (List.findIdx_lt_length.2 (List.any_eq_true.1 hh))
   rw[h0];rfl
instance (l:List Sp):Decidable (Joined l):=by unfold Joined;infer_instance
def Zpk (all:Sp) (l:List Sp):Prop:=(∀x∈l,Sp.within x all)∧Joined l
instance (all:Sp) (l:List Sp):Decidable (Zpk all l):=by unfold Zpk;infer_instance
end Go.Proofs.YteieocddfnlmdaaGreatDoor
namespace Go.Proofs.YteieocddfnlmdaaGreatDoor
set_option maxRecDepth 100000
open Go.RowKit Go.Lib
def Ztc (g:FuncId) (lb:Array Value) (p:Sp→Bool) (w:World):Prop:=
 (∀args w,(callFunc g args).run Tryz.prog w=.ok (.enter g args) w)∧ ∀(x:Sp),Fit x→ ∀(W:World),Only nob w W→Calls Tryz.prog g (#[.agg #[.int .i64 x.1,.int .i64 x.2]]++lb) W fun e w'=>e=.returned (.bool (p x))∧Only nob W w'
set_option maxHeartbeats 1000000 in
theorem Zgk (g:FuncId) (lb:Array Value) (p:Sp→Bool) (v:Value) (l:List Sp) (B:Nat) (w:World) (hp:Ztc g lb p w) (h:Sl w B 2 v l.length (spc l)) (hB:B≤w.heap.size) (hf:Zii l):
 Calls Tryz.prog 232 #[v,.func (.func g) #[] lb] w fun e w'=>e=.returned (.int .i64 (Zpl p l))∧Only nob w w':=by
 have HA:=ZZ h;have HF:=ZZ hf;have HP:=ZZ hp.2;have eg:=hp.1;obtain⟨A,ca,rfl,hac,ham, -⟩:=h;unfold maxLen at ham;clear hp hf
 go_enter Tryz.func232,Tryz.ntmps232
 go_wp2_with fail
 go_loopw [5,8] (fun _ i wr=> ∃k:Nat,k≤l.length∧i=.int .i64 k∧Hid (∀(j:Nat) y,j<k→l[j]? =some y→p y=false)∧Only nob w wr) (fun _ i _=>l.length - (intOf i).toNat)
 case atStart=>exact⟨0,Nat.zero_le _,rfl,fun j _ hj _=>absurd hj (Nat.not_lt_zero j),Only.refl _ _⟩
 case round=>
  obtain⟨k,hk,rfl,hno,hO⟩:=hrel;have HX:=ZZ hO;by_cases hlt:k<l.length
  · obtain⟨x,hx⟩: ∃x,l[k]? =some x:=⟨_,List.getElem?_eq_getElem hlt⟩
    obtain⟨b,o,rfl,hb,c0,c1⟩:=ZG HA.out (hO.below hB fun _ h=>h.elim) hx;have HXX:=ZZ hx;clear hO hx
    cases hp:p x with
    |true=>
     have HQ:=ZZ hp;have HK:=ZZ (Zn2 HXX.out hp hno.out);clear hp
     go_wp2_with fail
     refine(HP.out x (HF.out.get HXX.out) _ HX.out).mono ?_;rw[HQ.out];rintro e w1 ⟨rfl,ho⟩;have HO:=ZZ (HX.out.trans ho);clear ho;go_wp2;go_ret;exact⟨Zdc (by rw[HK.out]),HO.out⟩
    |false=>
     have HQ:=ZZ hp;clear hp
     go_wp2_with fail
     refine(HP.out x (HF.out.get HXX.out) _ HX.out).mono ?_;rw[HQ.out];rintro e w1 ⟨rfl,ho⟩;have HO:=ZZ (HX.out.trans ho);clear ho;go_wp2
     go_roundw
     case rel=>
      refine⟨k+1,by omega,by go_num,fun j y hj hy=>?_,HO.out⟩;rcases Nat.lt_or_ge j k with h'|h'
      · exact hno.out j y h' hy
      · obtain rfl:j=k:=by omega
        rw[HXX.out] at hy;obtain rfl:=Option.some.inj hy;exact HQ.out
     case measure=>simp[intOf];omega
  · obtain rfl:k=l.length:=by omega
    have HK:=ZZ (Zma hno.out);clear hO;go_wp2;go_ret;exact⟨Zdc (by rw[HK.out]),HX.out⟩
set_option maxHeartbeats 1000000 in
theorem Z7 (g:FuncId) (lb:Array Value) (p:Sp→Bool) (v:Value) (l:List Sp) (B:Nat) (w:World) (hp:Ztc g lb p w) (h:Sl w B 2 v l.length (spc l)) (hB:B≤w.heap.size) (hf:Zii l):
 Calls Tryz.prog 211 #[v,.func (.func g) #[] lb] w fun e w'=>e=.returned (.bool (l.any p))∧Only nob w w':=by
 have HA:=ZZ h;have HP:=ZZ hp;have HF:=ZZ hf;clear h hp hf;have HI:=ZZ (Zoi p l)
 go_enter Tryz.func211,Tryz.ntmps211
 go_wp2_with fail
 go_at_call 232;refine(Zgk g lb p v l B w HP.out HA.out hB HF.out).mono ?_;rintro e w1 ⟨rfl,ho⟩;have HO:=ZZ ho
 obtain⟨i,hi⟩: ∃i,i=Zpl p l:=⟨_,rfl⟩
 rw[← hi];have HII:=ZZ hi;clear ho hi;go_wp2;go_ret;exact⟨Za (by rw[← HI.out, ← HII.out]),HO.out⟩
theorem Zr0 {l m:List Sp} (h:l.length≠m.length):l≠m:=fun e=>h (by rw[e])
theorem Zsh {l m:List Sp} {k:Nat} {x y:Sp} (hx:l[k]? =some x) (hy:m[k]? =some y) (h:x≠y):l≠m:=fun e=>h (by rw[e,hy] at hx;exact(Option.some.inj hx).symm)
theorem ZrD {l m:List Sp} (hl:l.length=m.length) (h: ∀(j:Nat) x,j<l.length→l[j]? =some x→m[j]? =some x):l=m:=by
 refine List.ext_getElem? fun j=>?_;rcases Nat.lt_or_ge j l.length with hj|hj
 · rw[h j _ hj (List.getElem?_eq_getElem hj)]
   exact List.getElem?_eq_getElem hj
 · rw[List.getElem?_eq_none hj,List.getElem?_eq_none (by omega)]
set_option maxHeartbeats 2000000 in
theorem Zm9 (va vb:Value) (l m:List Sp) (B B':Nat) (w:World) (ha:Sl w B 2 va l.length (spc l)) (hb:Sl w B' 2 vb m.length (spc m)):
 Calls Tryz.prog 215 #[va,vb] w fun e w'=>e=.returned (.bool (decide (l=m)))∧Only nob w w':=by
 have HA:=ZZ ha;have HB:=ZZ hb;obtain⟨A,ca,rfl,hac,ham, -⟩:=ha;obtain⟨A',cb,rfl,hbc,hbm, -⟩:=hb;unfold maxLen at ham hbm;by_cases hlen:l.length=m.length
 · have HL:=ZZ hlen
   rw[← hlen] at hbc ⊢;clear hlen
   go_enter Tryz.func215,Tryz.ntmps215
   go_wp2
   go_loopw [5,13] (fun _ i wr=> ∃k m':Nat,k≤l.length∧i=.int .i64 k∧Hid (∀(j:Nat) x,j<k→l[j]? =some x→m[j]? =some x)∧wr=w.drewN m') (fun _ i _=>l.length - (intOf i).toNat)
   case atStart=>exact⟨0,0,Nat.zero_le _,rfl,fun j _ hj _=>absurd hj (Nat.not_lt_zero j),rfl⟩
   case round=>
    obtain⟨k,m',hk,rfl,hno,rfl⟩:=hrel;by_cases hlt:k<l.length
    · obtain⟨x,hx⟩: ∃x,l[k]? =some x:=⟨_,List.getElem?_eq_getElem hlt⟩
      obtain⟨y,hy⟩: ∃y,m[k]? =some y:=⟨_,List.getElem?_eq_getElem (by rw[← HL.out];exact hlt)⟩
      obtain⟨b1,o1,rfl, -,c0,c1⟩:=ZG HA.out (Below.refl _ _) hx;obtain⟨b2,o2,rfl, -,d0,d1⟩:=ZG HB.out (Below.refl _ _) hy;have HX:=ZZ hx;have HY:=ZZ hy;clear hx hy;by_cases h1:x.1=y.1
      · by_cases h2:x.2=y.2
        · obtain rfl:x=y:=Prod.ext h1 h2
          clear h1 h2;go_wp2
          go_quiet (fail)
          go_wp2
          go_roundw
          case rel=>
           refine⟨k+1,_,by omega,by go_num,fun j z hj hz=>?_,rfl⟩;rcases Nat.lt_or_ge j k with h'|h'
           · exact hno.out j z h' hz
           · obtain rfl:j=k:=by omega
             rw[HX.out] at hz;rw[HY.out];exact hz
          case measure=>simp[intOf];omega
        · have HN:=ZZ (decide_eq_false (Zsh HX.out HY.out fun e=>h2 (by rw[e])))
          rw[h1] at c0;go_wp2
          go_quiet (fail)
          go_wp2;go_ret;exact⟨Za (by rw[HN.out]),((Only.refl _ _).drewN _).drewN _⟩
      · have HN:=ZZ (decide_eq_false (Zsh HX.out HY.out fun e=>h1 (by rw[e])))
        go_wp2
        go_quiet (fail)
        go_wp2;go_ret;exact⟨Za (by rw[HN.out]),((Only.refl _ _).drewN _).drewN _⟩
    · obtain rfl:k=l.length:=by omega
      have HN:=ZZ (decide_eq_true (ZrD HL.out hno.out));go_wp2;go_ret;exact⟨Za (by rw[HN.out]),(Only.refl _ _).drewN _⟩
 · have HN:=ZZ (decide_eq_false (Zr0 hlen))
   have hn1: ¬((l.length:Int)=(m.length:Int)):=by omega
   go_enter Tryz.func215,Tryz.ntmps215
   go_wp2;go_ret;exact⟨Za (by rw[HN.out]),Only.refl _ _⟩
end Go.Proofs.YteieocddfnlmdaaGreatDoor
namespace Go.Proofs.YteieocddfnlmdaaGreatDoor
set_option maxRecDepth 100000
open Go.RowKit Go.Lib Go.Shelf
end Go.Proofs.YteieocddfnlmdaaGreatDoor
namespace Go.Proofs.YteieocddfnlmdaaGreatDoor
set_option maxRecDepth 100000
open Go.RowKit Go.Lib Go.Shelf
end Go.Proofs.YteieocddfnlmdaaGreatDoor
namespace Go.Proofs.YteieocddfnlmdaaGreatDoor
set_option maxRecDepth 100000
open Go.RowKit Go.Lib
end Go.Proofs.YteieocddfnlmdaaGreatDoor
namespace Go.Proofs.YteieocddfnlmdaaGreatDoor
set_option maxRecDepth 100000
open Go.RowKit Go.Lib
theorem ZfG {all:Sp} {l:List Sp}:l.any (fun x=>!decide (Sp.within x all))=false↔ ∀x∈l,Sp.within x all:=by
 rw[List.any_eq_false];constructor
 · intro h x hx
   by_cases hw:Sp.within x all
   · exact hw
   · exact absurd (by simpa using hw) (h x hx)
 · intro h x hx
   simpa using h x hx
end Go.Proofs.YteieocddfnlmdaaGreatDoor
