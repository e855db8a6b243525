/- Plain mathematics of free words: the first span that is grea Plain mathematics of tables of spans: where one belongs, wha -/
import Derived.Test.YteieocddfnlmdaaGreatDoorO11
import Derived.Test.YteieocddfnlmdaaGreatDoorO10
import Derived.Lib.AppendZerosOnto
import Derived.Deep.RegionLaw
import Derived.Lib.Overlaps
import Derived.Lib.SlBuf
set_option maxRecDepth 100000
set_option maxHeartbeats 32000000
set_option linter.unusedSimpArgs false
set_option linter.unusedVariables false
namespace Go.Proofs.YteieocddfnlmdaaGreatDoor
section
def ZrY (p:Sp→Bool) (l:List Sp):Int:=if l.findIdx p<l.length then(l.findIdx p:Nat) else -1
theorem Zrt {p:Sp→Bool} {l:List Sp} {k:Nat} {x:Sp} (hx:l[k]? =some x) (hp:p x=true) (hb: ∀(j:Nat) y,j<k→l[j]? =some y→p y=false):ZrY p l=(k:Nat):=by
 obtain⟨hk,rfl⟩:=Yk.1 hx
 have:l.findIdx p=k:=by
  rw[List.findIdx_eq hk];exact⟨hp,fun j hj=>hb j _ hj (Ya (by omega))⟩
 unfold ZrY;rw[this,if_pos hk]
theorem Zph {p:Sp→Bool} {l:List Sp} (hb: ∀(j:Nat) y,j<l.length→l[j]? =some y→p y=false):ZrY p l= -1:=by
 unfold ZrY;rw[if_neg];intro h
 have:=hb _ _ h (Ya h)
 have h2:=List.findIdx_getElem (w:=h);rw[h2] at this
 cases this
theorem Zq4 (p:Sp→Bool) (l:List Sp):decide (0≤ZrY p l)=l.any p:=by
 unfold ZrY;by_cases h:l.findIdx p<l.length
 · rw[if_pos h,Ym (by omega)]
   have:=List.findIdx_lt_length.1 h
   exact(List.any_eq_true.2 this).symm
 · rw[if_neg h]
   have h0:l.any p=false:=by
    rw[Bool.eq_false_iff];intro hh;exact h (List.findIdx_lt_length.2 (List.any_eq_true.1 hh))
   rw[h0];rfl
instance (l:List Sp):Decidable (Joined l):=by unfold Joined;infer_instance
end
section
open Go.RowKit Go.Lib
def ZuN (g:FuncId) (lb:Array Value) (p:Sp→Bool) (w:World):Prop:=
 (∀args w,(callFunc g args).run Tryz.prog w=.ok (.enter g args) w)∧ ∀(x:Sp),Fit x→ ∀(W:World),Only nob w W→Calls Tryz.prog g (#[.agg #[.int .i64 x.1,.int .i64 x.2]]++lb) W fun e w'=>e=.returned (.bool (p x))∧Only nob W w'
theorem ZhB (g:FuncId) (lb:Array Value) (p:Sp→Bool) (v:Value) (l:List Sp) (B:Nat) (w:World) (hp:ZuN g lb p w) (h:Sl w B 2 v l.length (spc l)) (hB:B≤w.heap.size) (hf:ZjQ l):
 Calls Tryz.prog 232 #[v,.func (.func g) #[] lb] w fun e w'=>e=.returned (.int .i64 (ZrY p l))∧Only nob w w':=by
 have HA:=ZZ h;have HF:=ZZ hf;have HP:=ZZ hp.2;have eg:=hp.1;obtain⟨A,ca,rfl,hac,ham, -⟩:=h;unfold maxLen at ham;clear hp hf
 go_enter Tryz.func232,Tryz.ntmps232
 go_wp2_with fail
 go_loopw [5,8] (fun _ i wr=> ∃k:Nat,k≤l.length∧i=.int .i64 k∧Hid (∀(j:Nat) y,j<k→l[j]? =some y→p y=false)∧Only nob w wr) (fun _ i _=>l.length - (intOf i).toNat)
 case atStart=>exact⟨0,Yu _,rfl,fun j _ hj _=>absurd hj (Nat.not_lt_zero j),Only.refl _ _⟩
 case round=>
  obtain⟨k,hk,rfl,hno,hO⟩:=hrel;have HX:=ZZ hO;by_cases hlt:k<l.length
  · obtain⟨x,hx⟩: ∃x,l[k]? =some x:=⟨_,Ya hlt⟩
    obtain⟨b,o,rfl,hb,c0,c1⟩:=sl_span HA.out (hO.below hB fun _ h=>h.elim) hx;have HXX:=ZZ hx;clear hO hx
    cases hp:p x with
    |true=>
     have HQ:=ZZ hp;have HK:=ZZ (Zrt HXX.out hp hno.out);clear hp
     go_wp2_with fail
     refine(HP.out x (HF.out.get HXX.out) _ HX.out).mono ?_;rw[HQ.out];rintro e w1 ⟨rfl,ho⟩;have HO:=ZZ (HX.out.trans ho);clear ho;go_wp2;go_ret;exact⟨Zcl (by rw[HK.out]),HO.out⟩
    |false=>
     have HQ:=ZZ hp;clear hp
     go_wp2_with fail
     refine(HP.out x (HF.out.get HXX.out) _ HX.out).mono ?_;rw[HQ.out];rintro e w1 ⟨rfl,ho⟩;have HO:=ZZ (HX.out.trans ho);clear ho;go_wp2
     go_roundw
     case rel=>
      refine⟨k+1,by omega,by go_num,fun j y hj hy=>?_,HO.out⟩;rcases Yq j k with h'|h'
      · exact hno.out j y h' hy
      · obtain rfl:j=k:=by omega
        rw[HXX.out] at hy;obtain rfl:=Yp hy;exact HQ.out
     case measure=>simp[intOf];omega
  · obtain rfl:k=l.length:=by omega
    have HK:=ZZ (Zph hno.out);clear hO;go_wp2;go_ret;exact⟨Zcl (by rw[HK.out]),HX.out⟩
theorem Zaw (g:FuncId) (lb:Array Value) (p:Sp→Bool) (v:Value) (l:List Sp) (B:Nat) (w:World) (hp:ZuN g lb p w) (h:Sl w B 2 v l.length (spc l)) (hB:B≤w.heap.size) (hf:ZjQ l):
 Calls Tryz.prog 211 #[v,.func (.func g) #[] lb] w fun e w'=>e=.returned (.bool (l.any p))∧Only nob w w':=by
 have HA:=ZZ h;have HP:=ZZ hp;have HF:=ZZ hf;clear h hp hf;have HI:=ZZ (Zq4 p l)
 go_enter Tryz.func211,Tryz.ntmps211
 go_wp2_with fail
 go_at_call 232;refine(ZhB g lb p v l B w HP.out HA.out hB HF.out).mono ?_;rintro e w1 ⟨rfl,ho⟩;have HO:=ZZ ho
 obtain⟨i,hi⟩: ∃i,i=ZrY p l:=⟨_,rfl⟩
 rw[← hi];have HII:=ZZ hi;clear ho hi;go_wp2;go_ret;exact⟨Za (by rw[← HI.out, ← HII.out]),HO.out⟩
theorem ZrN {l m:List Sp} (h:l.length≠m.length):l≠m:=fun e=>h (by rw[e])
theorem Zqx {l m:List Sp} {k:Nat} {x y:Sp} (hx:l[k]? =some x) (hy:m[k]? =some y) (h:x≠y):l≠m:=fun e=>h (by rw[e,hy] at hx;exact(Yp hx).symm)
theorem ZrC {l m:List Sp} (hl:l.length=m.length) (h: ∀(j:Nat) x,j<l.length→l[j]? =some x→m[j]? =some x):l=m:=by
 refine List.ext_getElem? fun j=>?_;rcases Yq j l.length with hj|hj
 · rw[h j _ hj (Ya hj)]
   exact Ya hj
 · rw[List.getElem?_eq_none hj,List.getElem?_eq_none (by omega)]
theorem Zn6 (va vb:Value) (l m:List Sp) (B B':Nat) (w:World) (ha:Sl w B 2 va l.length (spc l)) (hb:Sl w B' 2 vb m.length (spc m)):
 Calls Tryz.prog 215 #[va,vb] w fun e w'=>e=.returned (.bool (decide (l=m)))∧Only nob w w':=by
 have HA:=ZZ ha;have HB:=ZZ hb;obtain⟨A,ca,rfl,hac,ham, -⟩:=ha;obtain⟨A',cb,rfl,hbc,hbm, -⟩:=hb;unfold maxLen at ham hbm;by_cases hlen:l.length=m.length
 · have HL:=ZZ hlen
   rw[← hlen] at hbc ⊢;clear hlen
   go_enter Tryz.func215,Tryz.ntmps215
   go_wp2
   go_loopw [5,13] (fun _ i wr=> ∃k m':Nat,k≤l.length∧i=.int .i64 k∧Hid (∀(j:Nat) x,j<k→l[j]? =some x→m[j]? =some x)∧wr=w.drewN m') (fun _ i _=>l.length - (intOf i).toNat)
   case atStart=>exact⟨0,0,Yu _,rfl,fun j _ hj _=>absurd hj (Nat.not_lt_zero j),rfl⟩
   case round=>
    obtain⟨k,m',hk,rfl,hno,rfl⟩:=hrel;by_cases hlt:k<l.length
    · obtain⟨x,hx⟩: ∃x,l[k]? =some x:=⟨_,Ya hlt⟩
      obtain⟨y,hy⟩: ∃y,m[k]? =some y:=⟨_,Ya (by rw[← HL.out];exact hlt)⟩
      obtain⟨b1,o1,rfl, -,c0,c1⟩:=sl_span HA.out (Below.refl _ _) hx;obtain⟨b2,o2,rfl, -,d0,d1⟩:=sl_span HB.out (Below.refl _ _) hy;have HX:=ZZ hx;have HY:=ZZ hy;clear hx hy;by_cases h1:x.1=y.1
      · by_cases h2:x.2=y.2
        · obtain rfl:x=y:=Prod.ext h1 h2
          clear h1 h2;go_wp2
          go_quiet (fail)
          go_wp2
          go_roundw
          case rel=>
           refine⟨k+1,_,by omega,by go_num,fun j z hj hz=>?_,rfl⟩;rcases Yq j k with h'|h'
           · exact hno.out j z h' hz
           · obtain rfl:j=k:=by omega
             rw[HX.out] at hz;rw[HY.out];exact hz
          case measure=>simp[intOf];omega
        · have HN:=ZZ (Yl (Zqx HX.out HY.out fun e=>h2 (by rw[e])))
          rw[h1] at c0;go_wp2
          go_quiet (fail)
          go_wp2;go_ret;exact⟨Za (by rw[HN.out]),((Only.refl _ _).drewN _).drewN _⟩
      · have HN:=ZZ (Yl (Zqx HX.out HY.out fun e=>h1 (by rw[e])))
        go_wp2
        go_quiet (fail)
        go_wp2;go_ret;exact⟨Za (by rw[HN.out]),((Only.refl _ _).drewN _).drewN _⟩
    · obtain rfl:k=l.length:=by omega
      have HN:=ZZ (Ym (ZrC HL.out hno.out));go_wp2;go_ret;exact⟨Za (by rw[HN.out]),(Only.refl _ _).drewN _⟩
 · have HN:=ZZ (Yl (ZrN hlen))
   have hn1: ¬((l.length:Int)=(m.length:Int)):=by omega
   go_enter Tryz.func215,Tryz.ntmps215
   go_wp2;go_ret;exact⟨Za (by rw[HN.out]),Only.refl _ _⟩
end
section
open Go.RowKit Go.Lib Go.Shelf
end
section
open Go.RowKit Go.Lib
theorem ZgQ {all:Sp} {l:List Sp}:l.any (fun x=>!decide (Sp.within x all))=false↔ ∀x∈l,Sp.within x all:=by
 rw[List.any_eq_false];constructor
 · intro h x hx
   by_cases hw:Sp.within x all
   · exact hw
   · exact absurd (by simpa using hw) (h x hx)
 · intro h x hx
   simpa using h x hx
end
section
def Zah (all:Sp) (l m:List Sp):Prop:=(∀x∈l,Sp.within x all)∧l.Pairwise (fun x y=>x.1≤y.1)∧Z9 l∧Joined m∧ ∀p,cov m p↔all.has p∧ ¬cov l p
noncomputable instance (all:Sp) (l m:List Sp):Decidable (Zah all l m):=Classical.propDecidable _
theorem ZhZ {all:Sp} {l m O:List Sp} (h1: ∀x∈l,Sp.within x all) (h2:l.Pairwise (fun x y=>x.1≤y.1)) (h3:Z9 l) (hj:Joined O) (hc: ∀p,cov O p↔all.has p∧ ¬cov l p):decide (Zah all l m)=decide (m=O):=by
 rw[Bool.eq_iff_iff,decide_eq_true_iff,decide_eq_true_iff];constructor
 · rintro⟨-, -, -,hm,hcm⟩
   exact ZbW hm hj fun p=>(hcm p).trans (hc p).symm
 · rintro rfl
   exact⟨h1,h2,h3,hj,hc⟩
theorem ZgP {l:List Sp} (h: ∀(j:Nat) y x,l[j]? =some y→l[j+1]? =some x→y.1≤x.1):l.Pairwise fun x y=>x.1≤y.1:=by
 refine List.pairwise_iff_getElem.2 fun i j hi hj hij=>?_
 have step: ∀(d i:Nat) (hi:i<l.length) (hj:i+d+1<l.length),(l[i]).1≤(l[i+d+1]).1:=by
  intro d
  induction d with
  |zero=>intro i hi hj;exact h i _ _ (Ya hi) (Ya hj)
  |succ d ih=>
   intro i hi hj;have h1:=ih i hi (by omega);have h2:=h (i+d+1) _ _ (Ya (by omega)) (Ya (show i+d+1+1<l.length by omega));have h5:(l[i+(d+1)+1]).1=(l[i+d+1+1]).1:=congrArg Prod.fst (by congr 1);omega
 have:=step (j - i - 1) i hi (by omega)
 have h4:(l[i+(j - i - 1)+1]).1=(l[j]).1:=congrArg Prod.fst (by congr 1;omega);omega
theorem Zmo {l:List Sp} {j:Nat} {y x:Sp} (hy:l[j]? =some y) (hx:l[j+1]? =some x) (h:x.1<y.1): ¬l.Pairwise fun x y=>x.1≤y.1:=by
 intro hp;obtain⟨h1,rfl⟩:=Yk.1 hx;obtain⟨h2,rfl⟩:=Yk.1 hy
 have:=List.pairwise_iff_getElem.1 hp j (j+1) h2 h1 (by omega)
 omega
def ZpN (all:Sp) (l:List Sp) (k:Nat):Prop:= ∀(j:Nat) x,j<k→l[j]? =some x→Sp.within x all∧(0<j→ ∀y,l[j - 1]? =some y→y.1<x.1)
theorem Zgh {all:Sp} {l:List Sp} {k:Nat} {x:Sp} (h:ZpN all l k) (hx:l[k]? =some x) (hw:Sp.within x all) (hy:0<k→ ∀y,l[k - 1]? =some y→y.1<x.1):ZpN all l (k+1):=by
 intro j z hj hz;rcases Yq j k with h'|h'
 · exact h j z h' hz
 · obtain rfl:j=k:=by omega
   rw[hx] at hz;obtain rfl:=Yp hz;exact⟨hw,hy⟩
theorem ZoP {all:Sp} {l:List Sp} (h:ZpN all l l.length):(∀x∈l,Sp.within x all)∧l.Pairwise fun x y=>x.1≤y.1:=by
 refine⟨fun x hx=>?_,ZgP fun j y x hy hx=>?_⟩
 · obtain⟨j,hj,rfl⟩:=List.getElem_of_mem hx
   exact(h j _ hj (Ya hj)).1
 · have:=(h (j+1) x (Yk.1 hx).1 hx).2 (by omega) y (by rw[Nat.add_sub_cancel];exact hy)
   omega
theorem ZlP {all:Sp} {l m:List Sp} {k:Nat} {x:Sp} (hx:l[k]? =some x) (h: ¬Sp.within x all): ¬Zah all l m:=fun hr=>h (hr.1 x (Yo hx))
theorem ZmN {all:Sp} {l m:List Sp} {k:Nat} {x y:Sp} (hy:l[k]? =some y) (hx:l[k+1]? =some x) (h: ¬y.1<x.1): ¬Zah all l m:=by
 rintro⟨hw,hp,ha, -⟩;obtain⟨h1,rfl⟩:=Yk.1 hx;obtain⟨h2,rfl⟩:=Yk.1 hy
 have e:(l[k]).1=(l[k+1]).1:=by
  have:=List.pairwise_iff_getElem.1 hp k (k+1) h2 h1 (by omega)
  omega
 have o1:=ha.1 _ (List.getElem_mem h1);have o2:=ha.1 _ (List.getElem_mem h2);refine List.pairwise_iff_getElem.1 ha.2 k (k+1) h2 h1 (by omega) ⟨o1,o2,.inl ⟨o1,by omega,?_⟩⟩
 have:=o1.2.1
 omega
theorem Zl1 {l:List Sp} (hp:l.Pairwise fun x y=>x.1≤y.1) (ha:Z9 l):l.Pairwise fun x y=>x.1+x.2≤y.1:=by
 refine List.pairwise_iff_getElem.2 fun i j hi hj hij=>?_;have h1:=List.pairwise_iff_getElem.1 hp i j hi hj hij;have h2:=List.pairwise_iff_getElem.1 ha.2 i j hi hj hij;have o1:=ha.1 _ (List.getElem_mem hi);have o2:=ha.1 _ (List.getElem_mem hj);rw[Zg3 o2 o1] at h2
 have:=o2.2.1
 omega
end
section
open Go.RowKit Go.Lib Go.Shelf
end
section
open Go.RowKit Go.Lib Go.Sort
theorem Zlh:Tryz.prog.follows .mixedOrders=true:=by kernel_rfl
theorem Zmf (all:Sp) (gp:Nat) (ha:Fit all) (x:Sp) (hx:Fit x) (w:World) (hb:Blk w gp 51 #[.int .i64 all.1,.int .i64 all.2]):
 Calls Tryz.prog 209 #[.agg #[.int .i64 x.1,.int .i64 x.2],.pointer (some ⟨gp,0,none⟩)] w fun e w'=>e=.returned (.bool (!decide (Sp.within x all)))∧Only nob w w':=by
 have hb2:=hb.alloc (.cells #[.int .i64 x.1,.int .i64 x.2] 51);have hb0:=hb2.cell 0;have hb1:=hb2.cell 1;simp at hb0 hb1;clear hb hb2
 obtain⟨q,hq⟩: ∃q,q=decide (Sp.within x all):=⟨_,rfl⟩
 have HQ:=ZZ hq;rw[← hq];clear hq
 go_enter Tryz.func209,Tryz.ntmps209
 go_wp2_with fail
 go_at_call 210;refine(Zqo x all hx ha _).mono ?_;rw[← HQ.out];rintro e w1 ⟨rfl,o⟩;have O:=ZZ (((Only.refl nob w).alloc (.cells #[.int .i64 x.1,.int .i64 x.2] 51)).trans o);clear o;go_wp2;go_ret;exact⟨rfl,O.out⟩
theorem Zb7 {all:Sp} {gp:Nat} {w:World} (ha:Fit all) (hb:Blk w gp 51 #[.int .i64 all.1,.int .i64 all.2]):ZuN 209 #[.pointer (some ⟨gp,0,none⟩)] (fun x=>!decide (Sp.within x all)) w:=
 ⟨enters_of Tryz.func209 (by kernel_rfl) rfl,fun x hx W hW=>Zmf all gp ha x hx W (hb.keep hW id)⟩
theorem ZqG (x y:Sp) (w:World):Calls Tryz.prog 213 #[.agg #[.int .i64 x.1,.int .i64 x.2],.agg #[.int .i64 y.1,.int .i64 y.2]] w fun e w'=>e=.returned (.int .i64 (ZlE x.1 y.1))∧Only nob w w':=by
 have O:=ZZ (((Only.refl nob w).alloc (.cells #[.int .i64 x.1,.int .i64 x.2] 51)).alloc (.cells #[.int .i64 y.1,.int .i64 y.2] 51))
 go_enter Tryz.func213,Tryz.ntmps213
 go_wp2_with fail
 go_at_call 222;refine(ZfP _ _ _).mono ?_;rintro e w1 ⟨rfl,rfl⟩;go_wp2;go_ret;exact⟨rfl,O.out⟩
theorem Zk3 {a b:Int}:ZlE a b<0↔a<b:=by
 unfold ZlE
 split
 · constructor <;> intro <;> omega
 · split <;> constructor <;> intro <;> omega
abbrev ZuQ:Value:=.func (.func 213) #[] #[]
theorem Zcn (v:Value) (l:List Sp) (B:Nat) (w:World) (h:Sl w B 2 v l.length (spc l)) (hB:B≤w.heap.size):
 Calls Tryz.prog 212 #[v,ZuQ] w fun e w'=>e=.returned (.bool (decide (l.Pairwise fun x y=>x.1≤y.1)))∧Only nob w w':=by
 have HA:=ZZ h;obtain⟨A,ca,rfl,hac,ham, -⟩:=h;unfold maxLen at ham;rcases Nat.eq_zero_or_pos l.length with h0|h0
 · obtain rfl:=List.eq_nil_of_length_eq_zero h0
   clear h0
   go_enter Tryz.func212,Tryz.ntmps212
   go_wp2
   go_loopw [5] (fun i wr=>i=.int .i64 (-1)∧wr=w) (fun _ _=>0)
   case atStart=>exact⟨rfl,rfl⟩
   case round=>
    obtain⟨rfl,rfl⟩:=hrel;go_wp2;go_ret;exact⟨rfl,Only.refl _ _⟩
 · go_enter Tryz.func212,Tryz.ntmps212
   go_wp2
   go_loopw [5] (fun i wr=> ∃k:Nat,k<l.length∧i=.int .i64 k∧Hid (∀(j:Nat) y x,k≤j→l[j]? =some y→l[j+1]? =some x→y.1≤x.1)∧Hid (Only nob w wr)) (fun i _=>(intOf i).toNat)
   case atStart=>
    refine⟨l.length - 1,by omega,?_,fun j y x hj _ hx=>?_,Only.refl _ _⟩
    · show Value.int .i64 _=Value.int .i64 _
      congr 1
      omega
    · have:=(Yk.1 hx).1
      omega
   case round=>
    obtain⟨k,hk,rfl,HS,HX⟩:=hrel;rcases Nat.eq_zero_or_pos k with rfl|hk0
    · have HK:=ZZ (Ym (ZgP fun j y x=>HS.out j y x (Yu _)))
      go_wp2;go_ret;exact⟨Za (by rw[HK.out]),HX.out⟩
    · obtain⟨m,rfl⟩: ∃m,k=m+1:=⟨k - 1,by omega⟩
      obtain⟨x,hx⟩: ∃x,l[m+1]? =some x:=⟨_,Ya hk⟩
      obtain⟨y,hy⟩: ∃y,l[m]? =some y:=⟨_,Ya (by omega)⟩
      obtain⟨b,o,rfl,hb,c0,c1⟩:=sl_span HA.out (HX.out.below hB fun _ h=>h.elim) hx;obtain⟨b3,o3,e3, -,d0,d1⟩:=sl_span HA.out (HX.out.below hB fun _ h=>h.elim) hy
      obtain⟨rfl,rfl⟩:b3=b∧o3=o:=by simpa using e3.symm
      have HXX:=ZZ hx;have HY:=ZZ hy
      obtain⟨c,hc⟩: ∃c,c=ZlE x.1 y.1:=⟨_,rfl⟩
      have HC:=ZZ hc
      have H1:=ZZ (show ∀(n:Nat) (os:Array Obj),Calls Tryz.prog 213 #[.agg #[.int .i64 x.1,.int .i64 x.2],.agg #[.int .i64 y.1,.int .i64 y.2]] (wat wr n os) fun e w'=>e=.returned (.int .i64 c)∧Only nob (wat wr n os) w' from fun n os=>by
       rw[hc];exact ZqG x y _)
      have g0:=Zh c0;have g1:=Zh c1;have g2:=Zh d0;have g3:=Zh d1;clear hx hy hc e3 c0 c1 d0 d1
      have jz:(m:Int)+1<(l.length:Int):=by omega
      have jz1:(m:Int)<(l.length:Int):=by omega
      have p0:(0:Int)≤(m:Int)+1:=by omega
      have e0:((m:Int)+1).toNat=m+1:=by omega
      have hwp:IntKind.i64.wrap (m:Int)=(m:Int):=by rw[IntKind.wrap_i64];omega
      by_cases hlt:c<0
      · have HN:=ZZ (Yl (Zmo HY.out HXX.out (Zk3.1 (by rw[← HC.out];exact hlt))))
        go_wp2_with fail
        refine Ze Zlh (by kernel_rfl) ?_
        repeat (quiet_step ((go_at_call 213;with_reducible refine Zg (H1.out _ _))))
        refine wpQuiet_nil ?_;rintro w' ⟨⟨nq,osq⟩,rfl⟩;obtain⟨W3,hW3,O4⟩:=Zn wr nq osq;rw[hW3];clear hW3 g0 g1 g2 g3;have O5:=ZZ (HX.out.trans O4.out);go_wp2;go_ret;exact⟨Za (by rw[HN.out]),O5.out⟩
      · have HN:=ZZ (show y.1≤x.1 by
         have: ¬x.1<y.1:=fun e=>hlt (by rw[HC.out];exact Zk3.2 e)
         omega)
        go_wp2_with fail
        refine Ze Zlh (by kernel_rfl) ?_
        repeat (quiet_step ((go_at_call 213;with_reducible refine Zg (H1.out _ _))))
        refine wpQuiet_nil ?_;rintro w' ⟨⟨nq,osq⟩,rfl⟩;obtain⟨W3,hW3,O4⟩:=Zn wr nq osq;rw[hW3];clear hW3 g0 g1 g2 g3;have O5:=ZZ (HX.out.trans O4.out);go_wp2
        go_roundw
        case rel=>
         refine⟨m,by omega,by go_num,fun j z u hj hz hu=>?_,O5.out⟩;rcases Yq m j with h'|h'
         · exact HS.out j z u h' hz hu
         · obtain rfl:j=m:=by omega
           rw[HY.out] at hz;rw[HXX.out] at hu;obtain rfl:=Yp hz;obtain rfl:=Yp hu;exact HN.out
        case measure=>simp[intOf]
def SpTable:Prop:= ∀(all:Sp) (v u:Value) (l m:List Sp) (B:Nat) (w:World),Sl w B 2 v l.length (spc l)→Sl w B 2 u m.length (spc m)→B≤w.heap.size→l.length≤10000→ZjQ l→Fit all→
 Calls Tryz.prog 179 #[.agg #[.int .i64 all.1,.int .i64 all.2],v,u] w fun e w'=>e=.returned (.bool (decide (Zah all l m)))∧Only nob w w'
theorem Ztx:SpTable:=by
 intro all v u l m B w h k hB hl hf ha;have HA:=ZZ h;have HU:=ZZ k;have HF:=ZZ hf;obtain⟨A,ca,rfl, -, -⟩:=h.form;obtain⟨A',ca',rfl, -, -⟩:=k.form;have HB:=ZZ (Blk.new w 51 #[.int .i64 all.1,.int .i64 all.2]);have O0:=ZZ ((Only.refl nob w).alloc (.cells #[.int .i64 all.1,.int .i64 all.2] 51));clear h k hf
 obtain⟨q,hq⟩: ∃q,q=l.any (fun x=>!decide (Sp.within x all)):=⟨_,rfl⟩
 have HQ:=ZZ hq;clear hq
 cases q with
 |true=>
  have HK:=ZZ (show decide (Zah all l m)=false from Yl fun h=>by have:=ZgQ.2 h.1;rw[← HQ.out] at this;cases this)
  go_enter Tryz.func179,Tryz.ntmps179
  go_wp2_with fail
  go_at_call 211;refine(Zaw _ _ _ _ l B _ (Zb7 ha HB.out) (HA.out.below (O0.out.below hB fun _ h=>h.elim)) (Yi hB O0.out.size) HF.out).mono ?_;rw[← HQ.out];rintro e w1 ⟨rfl,o⟩;have O1:=ZZ (O0.out.trans o);clear o;go_wp2;go_ret;exact⟨Za (by rw[HK.out]),O1.out⟩
 |false=>
  have HW:=ZZ (ZgQ.1 HQ.out.symm);by_cases h2:l.Pairwise fun x y=>x.1≤y.1
  · have H2:=ZZ h2
    have HD2:=ZZ (Ym h2);clear h2;by_cases h3:Z9 l
    · have H3:=ZZ h3
      have HD3:=ZZ (Ym h3);clear h3
      go_enter Tryz.func179,Tryz.ntmps179
      go_wp2_with fail
      go_at_call 211;refine(Zaw _ _ _ _ l B _ (Zb7 ha HB.out) (HA.out.below (O0.out.below hB fun _ h=>h.elim)) (Yi hB O0.out.size) HF.out).mono ?_;rw[← HQ.out];rintro e w1 ⟨rfl,o⟩;have O1:=ZZ (O0.out.trans o);have HB1:=ZZ (HB.out.keep o id);clear o
      go_wp2_with fail
      go_at_call 212;refine(Zcn _ l B _ (HA.out.below (O1.out.below hB fun _ h=>h.elim)) (Yi hB O1.out.size)).mono ?_;rw[HD2.out];rintro e w2 ⟨rfl,o⟩;have O2:=ZZ (O1.out.trans o);have HB2:=ZZ (HB1.out.keep o id);clear o
      go_wp2_with fail
      go_at_call 214;refine(Znv _ l B _ (HA.out.below (O2.out.below hB fun _ h=>h.elim)) (Yi hB O2.out.size) (by omega) HF.out).mono ?_;rw[HD3.out];rintro e w3 ⟨rfl,o⟩;have O3:=ZZ (O2.out.trans o);have HB3:=ZZ (HB2.out.keep o id);have c0:=HB3.out.cell 0;have c1:=HB3.out.cell 1;simp at c0 c1;clear o
      go_wp2_with fail
      go_at_call 59;refine(ZrG all _ l B _ (HA.out.below (O3.out.below hB fun _ h=>h.elim)) (Yi hB O3.out.size) (by omega) HF.out ha).mono ?_;rintro e w4 ⟨v4,O,rfl,hj,hc,hsl,o⟩;have HE:=ZZ (ZhZ (m:=m) HW.out H2.out H3.out hj hc);have S4:=ZZ hsl;have O4:=ZZ (O3.out.trans o);clear hj hc hsl o c0 c1
      go_wp2_with fail
      go_at_call 215;refine(Zn6 _ _ m O B _ w4 (HU.out.below (O4.out.below hB fun _ h=>h.elim)) S4.out).mono ?_;rw[← HE.out]
      obtain⟨j,hj⟩: ∃j,j=decide (Zah all l m):=⟨_,rfl⟩
      rw[← hj];have HJ:=ZZ hj;clear hj;rintro e w5 ⟨rfl,o⟩;have O5:=ZZ (O4.out.trans o);clear o;go_wp2;go_ret;exact⟨Za (by rw[HJ.out]),O5.out⟩
    · have HK:=ZZ (show decide (Zah all l m)=false from Yl fun h=>h3 h.2.2.1)
      have HD3:=ZZ (Yl h3);clear h3
      go_enter Tryz.func179,Tryz.ntmps179
      go_wp2_with fail
      go_at_call 211;refine(Zaw _ _ _ _ l B _ (Zb7 ha HB.out) (HA.out.below (O0.out.below hB fun _ h=>h.elim)) (Yi hB O0.out.size) HF.out).mono ?_;rw[← HQ.out];rintro e w1 ⟨rfl,o⟩;have O1:=ZZ (O0.out.trans o);clear o
      go_wp2_with fail
      go_at_call 212;refine(Zcn _ l B _ (HA.out.below (O1.out.below hB fun _ h=>h.elim)) (Yi hB O1.out.size)).mono ?_;rw[HD2.out];rintro e w2 ⟨rfl,o⟩;have O2:=ZZ (O1.out.trans o);clear o
      go_wp2_with fail
      go_at_call 214;refine(Znv _ l B _ (HA.out.below (O2.out.below hB fun _ h=>h.elim)) (Yi hB O2.out.size) (by omega) HF.out).mono ?_;rw[HD3.out];rintro e w3 ⟨rfl,o⟩;have O3:=ZZ (O2.out.trans o);clear o;go_wp2;go_ret;exact⟨Za (by rw[HK.out]),O3.out⟩
  · have HK:=ZZ (show decide (Zah all l m)=false from Yl fun h=>h2 h.2.1)
    have HD2:=ZZ (Yl h2);clear h2
    go_enter Tryz.func179,Tryz.ntmps179
    go_wp2_with fail
    go_at_call 211;refine(Zaw _ _ _ _ l B _ (Zb7 ha HB.out) (HA.out.below (O0.out.below hB fun _ h=>h.elim)) (Yi hB O0.out.size) HF.out).mono ?_;rw[← HQ.out];rintro e w1 ⟨rfl,o⟩;have O1:=ZZ (O0.out.trans o);clear o
    go_wp2_with fail
    go_at_call 212;refine(Zcn _ l B _ (HA.out.below (O1.out.below hB fun _ h=>h.elim)) (Yi hB O1.out.size)).mono ?_;rw[HD2.out];rintro e w2 ⟨rfl,o⟩;have O2:=ZZ (O1.out.trans o);clear o;go_wp2;go_ret;exact⟨Za (by rw[HK.out]),O2.out⟩
end
end Go.Proofs.YteieocddfnlmdaaGreatDoor
