/- Values as words: plain words; what package value and the doc -/
import Derived.Test.YteieocddfnlmdaaGreatDoorO00
import Derived.Test.YteieocddfnlmdaaGreatDoorChecked
import Derived.BigQuiet
set_option maxRecDepth 100000
set_option maxHeartbeats 32000000
set_option linter.unusedSimpArgs false
set_option linter.unusedVariables false
namespace Go.Proofs.YteieocddfnlmdaaGreatDoor
open Go.RowKit
def vin (x l m:Int):Bool:=decide (l≤x)&&decide (x≤m)
theorem Zaa {x l m:Int} (h1:l≤x) (h2:x≤m):vin x l m=true:=by unfold vin;rw[Ym h1,Ym h2];rfl
theorem ZkB {x l m:Int} (h: ¬l≤x):vin x l m=false:=by unfold vin;rw[Yl h];rfl
theorem Zli {x l m:Int} (h: ¬x≤m):vin x l m=false:=by unfold vin;rw[Yl h,Bool.and_false]
theorem ZY {x l m:Int}:vin x l m=true↔l≤x∧x≤m:=by unfold vin;rw[Bool.and_eq_true,decide_eq_true_eq,decide_eq_true_eq]
def ZbC (k x:Int):Bool:=if k=0 then decide (x=0) else if k=1 then vin x (-2305843009213693952) 2305843009213693951 else if k=2 then vin x 0 1099511627776 else false
def ZqO (k:Int):Int:=if k=1 then 1 else if k=2 then 2 else 0
def Zrv (k x:Int):Int:=if ZbC k x then(4 * x+ZqO k) % 18446744073709551616 else 0
def Zr5 (k x:Int):Int:=if ZbC k x then 0 else 1
theorem Zra (x:Int):ZbC 0 x=decide (x=0):=rfl
theorem Zmi (x:Int):ZbC 1 x=vin x (-2305843009213693952) 2305843009213693951:=rfl
theorem ZlY (x:Int):ZbC 2 x=vin x 0 1099511627776:=rfl
theorem ZlF {k:Int} (x:Int) (h0:k≠0) (h1:k≠1) (h2:k≠2):ZbC k x=false:=by unfold ZbC;rw[if_neg h0,if_neg h1,if_neg h2]
theorem ZqK {k:Int} (h1:k≠1) (h2:k≠2):ZqO k=0:=by unfold ZqO;rw[if_neg h1,if_neg h2]
theorem ZkD (x l m:Int) (w:World):Calls Tryz.prog 184 #[.int .i64 x,.int .i64 l,.int .i64 m] w fun e w'=>e=.returned (.bool (vin x l m))∧Only nob w w':=by
 by_cases h1:l≤x
 · by_cases h2:x≤m
   case' pos=>have HK:=ZZ (Zaa h1 h2)
   case' neg=>have HK:=ZZ (Zli (l:=l) h2)
   all_goals
    go_enter Tryz.func184,Tryz.ntmps184
    go_wp2;go_ret;exact⟨Za (by rw[HK.out]),Only.refl _ _⟩
 · have HK:=ZZ (ZkB (m:=m) h1)
   go_enter Tryz.func184,Tryz.ntmps184
   go_wp2;go_ret;exact⟨Za (by rw[HK.out]),Only.refl _ _⟩
theorem Zak (w:World) (k x:Int): ∃W,w.alloc (.cells #[.int .i64 k,.int .i64 x] 63)=W∧Hid (Only nob w W∧W.cell? ⟨w.heap.size,0,none⟩=some (.int .i64 k)∧W.cell? ⟨w.heap.size,1,none⟩=some (.int .i64 x)):=
 ⟨_,rfl,ZZ ⟨(Only.refl nob w).alloc _,(Blk.new w 63 #[.int .i64 k,.int .i64 x]).cell 0,(Blk.new w 63 #[.int .i64 k,.int .i64 x]).cell 1⟩⟩
theorem Zsh (x:Int) (w:World):Calls Tryz.prog 139 #[.agg #[.int .i64 0,.int .i64 x]] w fun e w'=>e=.returned (.tuple #[.int .u64 0,.bool (ZbC 0 x)])∧Only nob w w':=by
 by_cases h:x=0
 case' pos=>have HM:=ZZ (show ZbC 0 x=true from(Zra x).trans (Ym h))
 case' neg=>have HM:=ZZ (show ZbC 0 x=false from(Zra x).trans (Yl h))
 all_goals
  go_enter Tryz.func139,Tryz.ntmps139
  go_wp2
  go_quiet (fail)
  go_wp2;go_ret2;exact⟨by rw[HM.out];first|rfl|simp[h],((Only.refl _ _).alloc _).drewN _⟩
theorem Zsq (x:Int) (w:World):Calls Tryz.prog 139 #[.agg #[.int .i64 1,.int .i64 x]] w fun e w'=>e=.returned (.tuple #[.int .u64 1,.bool (ZbC 1 x)])∧Only nob w w':=by
 have HM:=ZZ (Zmi x)
 go_enter Tryz.func139,Tryz.ntmps139
 go_wp2_with fail
 go_at_call 184;refine(ZkD x _ _ _).mono ?_;rintro e w1 ⟨rfl,o⟩;have O1:=ZZ (((Only.refl nob w).alloc (.cells #[.int .i64 1,.int .i64 x] 63)).trans o);clear o;go_wp2;go_ret2;exact⟨by rw[HM.out];rfl,O1.out⟩
theorem Zsj (x:Int) (w:World):Calls Tryz.prog 139 #[.agg #[.int .i64 2,.int .i64 x]] w fun e w'=>e=.returned (.tuple #[.int .u64 2,.bool (ZbC 2 x)])∧Only nob w w':=by
 have HM:=ZZ (ZlY x)
 go_enter Tryz.func139,Tryz.ntmps139
 go_wp2_with fail
 go_at_call 184;refine(ZkD x _ _ _).mono ?_;rintro e w1 ⟨rfl,o⟩;have O1:=ZZ (((Only.refl nob w).alloc (.cells #[.int .i64 2,.int .i64 x] 63)).trans o);clear o;go_wp2;go_ret2;exact⟨by rw[HM.out];rfl,O1.out⟩
theorem Zl5 {k:Int} (x:Int) (h0:k≠0) (h1:k≠1) (h2:k≠2) (w:World):Calls Tryz.prog 139 #[.agg #[.int .i64 k,.int .i64 x]] w fun e w'=>e=.returned (.tuple #[.int .u64 0,.bool (ZbC k x)])∧Only nob w w':=by
 have HM:=ZZ (ZlF x h0 h1 h2)
 go_enter Tryz.func139,Tryz.ntmps139
 go_wp2;go_ret2;exact⟨by rw[HM.out];rfl,(Only.refl _ _).alloc _⟩
theorem Zh4 (k x:Int) (w:World):Calls Tryz.prog 139 #[.agg #[.int .i64 k,.int .i64 x]] w fun e w'=>e=.returned (.tuple #[.int .u64 (ZqO k),.bool (ZbC k x)])∧Only nob w w':=by
 by_cases h0:k=0
 · subst h0;exact Zsh x w
 by_cases h1:k=1
 · subst h1;exact Zsq x w
 by_cases h2:k=2
 · subst h2;exact Zsj x w
 rw[ZqK h1 h2];exact Zl5 x h0 h1 h2 w
theorem Zq9 (x:Int) (w:World):Calls Tryz.prog 175 #[.agg #[.int .i64 0,.int .i64 x]] w fun e w'=>e=.returned (.bool (ZbC 0 x))∧Only nob w w':=by
 by_cases h:x=0
 case' pos=>have HM:=ZZ (show ZbC 0 x=true from(Zra x).trans (Ym h))
 case' neg=>have HM:=ZZ (show ZbC 0 x=false from(Zra x).trans (Yl h))
 all_goals
  go_enter Tryz.func175,Tryz.ntmps175
  go_wp2;go_ret;exact⟨by rw[HM.out] <;> simp[h],(Only.refl _ _).alloc _⟩
theorem Zqa (x:Int) (w:World):Calls Tryz.prog 175 #[.agg #[.int .i64 1,.int .i64 x]] w fun e w'=>e=.returned (.bool (ZbC 1 x))∧Only nob w w':=by
 by_cases h1: -2305843009213693952≤x
 · by_cases h2:x≤2305843009213693951
   case' pos=>have HM:=ZZ ((Zmi x).trans (Zaa h1 h2))
   case' neg=>have HM:=ZZ ((Zmi x).trans (Zli h2))
   all_goals
    go_enter Tryz.func175,Tryz.ntmps175
    go_wp2;go_ret;exact⟨Za (by rw[HM.out]),(Only.refl _ _).alloc _⟩
 · have HM:=ZZ ((Zmi x).trans (ZkB h1))
   go_enter Tryz.func175,Tryz.ntmps175
   go_wp2;go_ret;exact⟨Za (by rw[HM.out]),(Only.refl _ _).alloc _⟩
theorem ZqA (x:Int) (w:World):Calls Tryz.prog 175 #[.agg #[.int .i64 2,.int .i64 x]] w fun e w'=>e=.returned (.bool (ZbC 2 x))∧Only nob w w':=by
 by_cases h1:0≤x
 · by_cases h2:x≤1099511627776
   case' pos=>have HM:=ZZ ((ZlY x).trans (Zaa h1 h2))
   case' neg=>have HM:=ZZ ((ZlY x).trans (Zli h2))
   all_goals
    go_enter Tryz.func175,Tryz.ntmps175
    go_wp2;go_ret;exact⟨Za (by rw[HM.out]),(Only.refl _ _).alloc _⟩
 · have HM:=ZZ ((ZlY x).trans (ZkB h1))
   go_enter Tryz.func175,Tryz.ntmps175
   go_wp2;go_ret;exact⟨Za (by rw[HM.out]),(Only.refl _ _).alloc _⟩
theorem ZjP {k:Int} (x:Int) (h0:k≠0) (h1:k≠1) (h2:k≠2) (w:World):Calls Tryz.prog 175 #[.agg #[.int .i64 k,.int .i64 x]] w fun e w'=>e=.returned (.bool (ZbC k x))∧Only nob w w':=by
 have HM:=ZZ (ZlF x h0 h1 h2)
 go_enter Tryz.func175,Tryz.ntmps175
 go_wp2;go_ret;exact⟨Za (by rw[HM.out]),(Only.refl _ _).alloc _⟩
theorem ZmT (k x:Int) (w:World):Calls Tryz.prog 175 #[.agg #[.int .i64 k,.int .i64 x]] w fun e w'=>e=.returned (.bool (ZbC k x))∧Only nob w w':=by
 by_cases h0:k=0
 · subst h0;exact Zq9 x w
 by_cases h1:k=1
 · subst h1;exact Zqa x w
 by_cases h2:k=2
 · subst h2;exact ZqA x w
 exact ZjP x h0 h1 h2 w
theorem ZqP (x t:Int) (ht:0≤t∧t<4):bits .or .u64 (IntKind.u64.wrap (IntKind.u64.wrap x * 4)) t=(4 * x+t) % 18446744073709551616:=by
 have e:IntKind.u64.wrap (IntKind.u64.wrap x * 4)=(4 * x) % 18446744073709551616:=by rw[IntKind.wrap_u64,IntKind.wrap_u64];omega
 obtain⟨a,ha⟩: ∃a:Nat,(4 * x) % 18446744073709551616=a:=⟨((4 * x) % 18446744073709551616).toNat,by omega⟩
 obtain⟨b,rfl⟩: ∃b:Nat,t=b:=⟨t.toNat,by omega⟩
 rw[e,ha,u64_or_nat _ _ (by omega) (by omega),nat_join 2 _ _ (by omega) (by omega)];omega
theorem ZfB (w:Int) (h:0≤w∧w<18446744073709551616):bits .and .u64 w 3=w % 4:=by
 obtain⟨a,rfl⟩: ∃a:Nat,w=a:=⟨w.toNat,by omega⟩
 have:=u64_and_nat a 3 (by omega) (by omega)
 rw[show((3:Nat):Int)=3 from rfl] at this;rw[this,show(3:Nat)=2 ^ 2 - 1 from rfl,Nat.and_two_pow_sub_one_eq_mod];omega
theorem Zun (k:Int):0≤ZqO k∧ZqO k<4:=by
 unfold ZqO
 split
 · decide
 · split <;> decide
theorem ZrJ (k x:Int) (h:ZbC k x=false) (w:World):Calls Tryz.prog 94 #[.agg #[.int .i64 k,.int .i64 x]] w fun e w'=>e=.returned (.tuple #[.int .u64 0,.int .i64 1])∧Only nob w w':=by
 have HM:=ZZ h;clear h
 go_enter Tryz.func94,Tryz.ntmps94
 go_wp2_with fail
 go_at_call 139;refine(Zh4 k x _).mono ?_;rw[HM.out];rintro e w1 ⟨rfl,o⟩;have O1:=ZZ (((Only.refl nob w).alloc (.cells #[.int .i64 k,.int .i64 x] 63)).trans o);clear o;go_wp2;go_ret2;exact⟨rfl,O1.out⟩
theorem Zjj (k x:Int) (h:ZbC k x=true) (w:World):Calls Tryz.prog 94 #[.agg #[.int .i64 k,.int .i64 x]] w fun e w'=>e=.returned (.tuple #[.int .u64 ((4 * x+ZqO k) % 18446744073709551616),.int .i64 0])∧Only nob w w':=by
 have HM:=ZZ h;clear h;obtain⟨W,hW,HB⟩:=Zak w k x;have HWE:=ZZ hW;clear hW
 go_enter Tryz.func94,Tryz.ntmps94
 go_wp2_with fail
 rw[HWE.out];go_at_call 139;refine(Zh4 k x _).mono ?_;rw[HM.out];rintro e w1 ⟨rfl,o⟩;have c1:=o.keeps HB.out.2.2;have O1:=ZZ (HB.out.1.trans o);clear o;go_wp2;go_ret2;exact⟨by rw[← ZqP x _ (Zun k)];rfl,O1.out⟩
theorem ZgU {k x:Int} (h:ZbC k x=true):Zrv k x=(4 * x+ZqO k) % 18446744073709551616:=by unfold Zrv;rw[h];rfl
theorem Zg2 {k x:Int} (h:ZbC k x=true):Zr5 k x=0:=by unfold Zr5;rw[h];rfl
theorem Zov {k x:Int} (h:ZbC k x=false):Zrv k x=0:=by unfold Zrv;rw[h];rfl
theorem Zoc {k x:Int} (h:ZbC k x=false):Zr5 k x=1:=by unfold Zr5;rw[h];rfl
theorem Zje (k x:Int) (w:World):Calls Tryz.prog 94 #[.agg #[.int .i64 k,.int .i64 x]] w fun e w'=>e=.returned (.tuple #[.int .u64 (Zrv k x),.int .i64 (Zr5 k x)])∧Only nob w w':=by
 rcases hm:ZbC k x with _|_
 · rw[Zov hm,Zoc hm];exact ZrJ k x hm w
 · rw[ZgU hm,Zg2 hm];exact Zjj k x hm w
def dK (w:Int):Int:=if w % 4=1 then 1 else if w % 4=2∧w / 4≤1099511627776 then 2 else 0
def dX (w:Int):Int:=if w % 4=1 then(if w / 4<2305843009213693952 then w / 4 else w / 4 - 4611686018427387904) else if w % 4=2∧w / 4≤1099511627776 then w / 4 else 0
def dE (w:Int):Int:=if w=0∨w % 4=1∨(w % 4=2∧w / 4≤1099511627776) then 0 else 3
theorem Zex:dK 0=0∧dX 0=0∧dE 0=0:=by decide
theorem Zut {w:Int} (h:w % 4=1) (h1:w / 4<2305843009213693952):dK w=1∧dX w=w / 4∧dE w=0:=by
 unfold dK dX dE;rw[if_pos h,if_pos h,if_pos h1,if_pos (.inr (.inl h))];exact⟨rfl,rfl,rfl⟩
theorem Zix {w:Int} (h:w % 4=1) (h1: ¬w / 4<2305843009213693952):dK w=1∧dX w=w / 4 - 4611686018427387904∧dE w=0:=by
 unfold dK dX dE;rw[if_pos h,if_pos h,if_neg h1,if_pos (.inr (.inl h))];exact⟨rfl,rfl,rfl⟩
theorem ZiV {w:Int} (h:w % 4=2) (h1:w / 4≤1099511627776):dK w=2∧dX w=w / 4∧dE w=0:=by
 unfold dK dX dE;rw[if_neg (by omega),if_pos ⟨h,h1⟩,if_neg (by omega),if_pos ⟨h,h1⟩,if_pos (.inr (.inr ⟨h,h1⟩))];exact⟨rfl,rfl,rfl⟩
theorem Zio {w:Int} (h0:w≠0) (h1:w % 4≠1) (h2: ¬(w % 4=2∧w / 4≤1099511627776)):dK w=0∧dX w=0∧dE w=3:=by
 unfold dK dX dE;rw[if_neg h1,if_neg h2,if_neg h1,if_neg h2,if_neg (by omega)];exact⟨rfl,rfl,rfl⟩
theorem ZcK {w W:World} (o:Only nob w W) {b:Nat} (hb:w.heap.size≤b) (B:Blk W b 63 #[.int .i64 0,.int .i64 0]) (k x:Int):
 ∃W4,((W.setCell ⟨b,0,none⟩ (.int .i64 k)).setCell ⟨b,1,none⟩ (.int .i64 x))=W4∧Only nob w W4∧W4.cell? ⟨b,0,none⟩=some (.int .i64 k)∧W4.cell? ⟨b,1,none⟩=some (.int .i64 x):=by
 have B4:Blk ((W.setCell ⟨b,0,none⟩ (.int .i64 k)).setCell ⟨b,1,none⟩ (.int .i64 x)) b 63 #[.int .i64 k,.int .i64 x]:=by simpa using(B.put 0 (.int .i64 k)).put 1 (.int .i64 x)
 exact⟨_,rfl,(o.setCell (p:=⟨b,0,none⟩) (fun h=>absurd h (Nat.not_lt_of_le hb)) _).setCell (p:=⟨b,1,none⟩) (fun h=>absurd h (Nat.not_lt_of_le hb)) _,B4.cell 0,B4.cell 1⟩
theorem Zef (w:World): ∃W,w.alloc (.cells #[.int .i64 0,.int .i64 0] 63)=W∧Hid (Only nob w W∧Blk W w.heap.size 63 #[.int .i64 0,.int .i64 0]):=
 ⟨_,rfl,ZZ ⟨(Only.refl nob w).alloc _,Blk.new w 63 #[.int .i64 0,.int .i64 0]⟩⟩
theorem Zf3 (w:World):Calls Tryz.prog 36 #[.int .u64 0] w fun e w'=>e=.returned (.tuple #[.agg #[.int .i64 (0),.int .i64 (0)],.int .i64 0])∧Only nob w w':=by
 go_enter Tryz.func36,Tryz.ntmps36
 go_wp2;obtain⟨W4,hW4,H4⟩:=Zak w (0) (0);rw[hW4];have h0:=H4.out.2.1;have h1:=H4.out.2.2;exact bodyPost_ret (v:=.tuple #[.agg #[.int .i64 (0),.int .i64 (0)],.int .i64 0]) (by simp[results,Tryz.results36,go_sem,h0,h1]) rfl ⟨rfl,H4.out.1⟩
theorem ZoR {n:Int} (hn:0≤n∧n<18446744073709551616) (h:n % 4=1) (h1:n / 4<2305843009213693952) (w:World):Calls Tryz.prog 36 #[.int .u64 n] w fun e w'=>e=.returned (.tuple #[.agg #[.int .i64 (1),.int .i64 (n / 4)],.int .i64 0])∧Only nob w w':=by
 go_enter Tryz.func36,Tryz.ntmps36
 go_wp2;obtain⟨W4,hW4,H4⟩:=Zak w (1) (n / 4);rw[hW4];have h0:=H4.out.2.1;have h1:=H4.out.2.2;exact bodyPost_ret (v:=.tuple #[.agg #[.int .i64 (1),.int .i64 (n / 4)],.int .i64 0]) (by simp[results,Tryz.results36,go_sem,h0,h1]) rfl ⟨rfl,H4.out.1⟩
theorem ZjR {n:Int} (hn:0≤n∧n<18446744073709551616) (h:n % 4=1) (h1: ¬n / 4<2305843009213693952) (w:World):Calls Tryz.prog 36 #[.int .u64 n] w fun e w'=>e=.returned (.tuple #[.agg #[.int .i64 (1),.int .i64 (n / 4 - 4611686018427387904)],.int .i64 0])∧Only nob w w':=by
 go_enter Tryz.func36,Tryz.ntmps36
 go_wp2;obtain⟨W4,hW4,H4⟩:=Zak w (1) (-(4611686018427387904 - n / 4));rw[hW4];have h0:=H4.out.2.1;have h1:=H4.out.2.2;exact bodyPost_ret (v:=.tuple #[.agg #[.int .i64 (1),.int .i64 (-(4611686018427387904 - n / 4))],.int .i64 0]) (by simp[results,Tryz.results36,go_sem,h0,h1]) rfl ⟨by rw[show -(4611686018427387904 - n / 4)=n / 4 - 4611686018427387904 by omega],H4.out.1⟩
theorem Zmu {n:Int} (hn:0≤n∧n<18446744073709551616) (h:n % 4=2) (h1:n / 4≤1099511627776) (w:World):Calls Tryz.prog 36 #[.int .u64 n] w fun e w'=>e=.returned (.tuple #[.agg #[.int .i64 (2),.int .i64 (n / 4)],.int .i64 0])∧Only nob w w':=by
 go_enter Tryz.func36,Tryz.ntmps36
 go_wp2;obtain⟨W4,hW4,H4⟩:=Zak w (2) (n / 4);rw[hW4];have h0:=H4.out.2.1;have h1:=H4.out.2.2;exact bodyPost_ret (v:=.tuple #[.agg #[.int .i64 (2),.int .i64 (n / 4)],.int .i64 0]) (by simp[results,Tryz.results36,go_sem,h0,h1]) rfl ⟨rfl,H4.out.1⟩
theorem Zmn {n:Int} (hn:0≤n∧n<18446744073709551616) (h:n % 4=2) (h1: ¬n / 4≤1099511627776) (w:World):Calls Tryz.prog 36 #[.int .u64 n] w fun e w'=>e=.returned (.tuple #[.agg #[.int .i64 (0),.int .i64 (0)],.int .i64 3])∧Only nob w w':=by
 go_enter Tryz.func36,Tryz.ntmps36
 go_wp2;obtain⟨W4,hW4,H4⟩:=Zak w (0) (0);rw[hW4];have h0:=H4.out.2.1;have h1:=H4.out.2.2;exact bodyPost_ret (v:=.tuple #[.agg #[.int .i64 (0),.int .i64 (0)],.int .i64 3]) (by simp[results,Tryz.results36,go_sem,h0,h1]) rfl ⟨rfl,H4.out.1⟩
theorem ZiE {n:Int} (hn:0<n∧n<18446744073709551616) (h: ¬n % 4=2) (h1: ¬n % 4=1) (w:World):Calls Tryz.prog 36 #[.int .u64 n] w fun e w'=>e=.returned (.tuple #[.agg #[.int .i64 (0),.int .i64 (0)],.int .i64 3])∧Only nob w w':=by
 go_enter Tryz.func36,Tryz.ntmps36
 go_wp2;obtain⟨W4,hW4,H4⟩:=Zak w (0) (0);rw[hW4];have h0:=H4.out.2.1;have h1:=H4.out.2.2;exact bodyPost_ret (v:=.tuple #[.agg #[.int .i64 (0),.int .i64 (0)],.int .i64 3]) (by simp[results,Tryz.results36,go_sem,h0,h1]) rfl ⟨rfl,H4.out.1⟩
theorem Zd2 {n:Int} (hn:0≤n∧n<18446744073709551616) (w:World):Calls Tryz.prog 36 #[.int .u64 n] w fun e w'=>e=.returned (.tuple #[.agg #[.int .i64 (dK n),.int .i64 (dX n)],.int .i64 (dE n)])∧Only nob w w':=by
 by_cases h0:n=0
 · subst h0
   rw[Zex.1,Zex.2.1,Zex.2.2];exact Zf3 w
 by_cases h1:n % 4=1
 · by_cases h2:n / 4<2305843009213693952
   · rw[(Zut h1 h2).1,(Zut h1 h2).2.1,(Zut h1 h2).2.2]
     exact ZoR hn h1 h2 w
   · rw[(Zix h1 h2).1,(Zix h1 h2).2.1,(Zix h1 h2).2.2]
     exact ZjR hn h1 h2 w
 by_cases h2:n % 4=2
 · by_cases h3:n / 4≤1099511627776
   · rw[(ZiV h2 h3).1,(ZiV h2 h3).2.1,(ZiV h2 h3).2.2]
     exact Zmu hn h2 h3 w
   · have hd:=Zio h0 h1 fun h=>h3 h.2
     rw[hd.1,hd.2.1,hd.2.2];exact Zmn hn h2 h3 w
 · have hd:=Zio h0 h1 fun h=>h2 h.1
   rw[hd.1,hd.2.1,hd.2.2];exact ZiE (by omega) h2 h1 w
theorem Ztv {n:Int} (hn:0≤n∧n<18446744073709551616) (ht:n % 4=1) (w:World):Calls Tryz.prog 106 #[.int .u64 n] w fun e w'=>e=.returned (.agg #[.int .i64 1,.int .i64 (wrap64 n / 4)])∧Only nob w w':=by
 have ha:bits .and .u64 n 3=1:=(ZfB n hn).trans ht;clear ht
 go_enter Tryz.func106,Tryz.ntmps106
 go_wp2;obtain⟨W4,hW4,H4⟩:=Zak w 1 (wrap64 n / 4);rw[hW4];have h0:=H4.out.2.1;have h1:=H4.out.2.2;exact bodyPost_ret (v:=.agg #[.int .i64 1,.int .i64 (wrap64 n / 4)]) (by simp[results,Tryz.results106,go_sem,h0,h1]) rfl ⟨rfl,H4.out.1⟩
theorem Zpn {n:Int} (hn:0≤n∧n<18446744073709551616) (ht:n % 4=2) (w:World):Calls Tryz.prog 106 #[.int .u64 n] w fun e w'=>e=.returned (.agg #[.int .i64 2,.int .i64 (wrap64 n / 4)])∧Only nob w w':=by
 have ha:bits .and .u64 n 3=2:=(ZfB n hn).trans ht;clear ht
 go_enter Tryz.func106,Tryz.ntmps106
 go_wp2;obtain⟨W4,hW4,H4⟩:=Zak w 2 (wrap64 n / 4);rw[hW4];have h0:=H4.out.2.1;have h1:=H4.out.2.2;exact bodyPost_ret (v:=.agg #[.int .i64 2,.int .i64 (wrap64 n / 4)]) (by simp[results,Tryz.results106,go_sem,h0,h1]) rfl ⟨rfl,H4.out.1⟩
theorem Zoz {n:Int} (hn:0≤n∧n<18446744073709551616) (h1: ¬n % 4=1) (h2: ¬n % 4=2) (w:World):Calls Tryz.prog 106 #[.int .u64 n] w fun e w'=>e=.returned (.agg #[.int .i64 0,.int .i64 (0)])∧Only nob w w':=by
 have ha:=ZfB n hn
 obtain⟨m,hm⟩: ∃m,n % 4=m:=⟨_,rfl⟩
 rw[hm] at ha h1 h2;clear hm
 go_enter Tryz.func106,Tryz.ntmps106
 go_wp2;obtain⟨W4,hW4,H4⟩:=Zak w 0 (0);rw[hW4];have h0:=H4.out.2.1;have h1:=H4.out.2.2;exact bodyPost_ret (v:=.agg #[.int .i64 0,.int .i64 (0)]) (by simp[results,Tryz.results106,go_sem,h0,h1]) rfl ⟨rfl,H4.out.1⟩
def ZtB (n k s:Int):Prop:= ∀w,Calls Tryz.prog 106 #[.int .u64 n] w fun e w'=>e=.returned (.agg #[.int .i64 k,.int .i64 s])∧Only nob w w'
theorem Zj0 {n k s:Int} (hu:ZtB n k s) (hw:Zrv k s=n) (he:Zr5 k s=0) (w:World):Calls Tryz.prog 62 #[.int .u64 n] w fun e w'=>e=.returned (.tuple #[.agg #[.int .i64 k,.int .i64 s],.int .i64 0])∧Only nob w w':=by
 have HU:=ZZ hu;have HW:=ZZ hw;have HE:=ZZ he;obtain⟨W0,hW0,HB0⟩:=Zef w;have HWE:=ZZ hW0;clear hu hw he hW0
 go_enter Tryz.func62,Tryz.ntmps62
 go_wp2_with fail
 rw[HWE.out];go_at_call 106;refine(HU.out _).mono ?_;rintro e w1 ⟨rfl,o⟩;have B1:=ZZ (HB0.out.2.keep o id);have O1:=ZZ (HB0.out.1.trans o);obtain⟨W2,hW2,HB2⟩:=Zak w1 k s;have HW2:=ZZ hW2;clear o hW2
 go_wp2_with fail
 rw[HW2.out];go_at_call 94;refine(Zje k s _).mono ?_;rw[HW.out,HE.out];rintro e w3 ⟨rfl,o⟩;have B3:=ZZ (B1.out.keep (HB2.out.1.trans o) id);have O3:=ZZ (O1.out.trans (HB2.out.1.trans o));have c0:=o.keeps HB2.out.2.1;have c1:=o.keeps HB2.out.2.2;have g0:w3.cell? ⟨w.heap.size,0,none⟩=some (.int .i64 0):=B3.out.cell 0;have g1:w3.cell? ⟨w.heap.size,1,none⟩=some (.int .i64 0):=B3.out.cell 1;have g2:=B3.out.free 0;have g3:=B3.out.free 1;clear o;go_wp2;obtain⟨W4,hW4,O4,h0,h1⟩:=ZcK O3.out (Yj _) B3.out (k) (s);rw[hW4];exact bodyPost_ret (v:=.tuple #[.agg #[.int .i64 k,.int .i64 s],.int .i64 0]) (by simp[results,Tryz.results62,go_sem,h0,h1]) rfl ⟨rfl,O4⟩
theorem Zs9 {n k s:Int} (hu:ZtB n k s) (hw:Zrv k s=0) (he:Zr5 k s=1) (w:World):Calls Tryz.prog 62 #[.int .u64 n] w fun e w'=>e=.returned (.tuple #[.agg #[.int .i64 0,.int .i64 0],.int .i64 3])∧Only nob w w':=by
 have HU:=ZZ hu;have HW:=ZZ hw;have HE:=ZZ he;obtain⟨W0,hW0,HB0⟩:=Zef w;have HWE:=ZZ hW0;clear hu hw he hW0
 go_enter Tryz.func62,Tryz.ntmps62
 go_wp2_with fail
 rw[HWE.out];go_at_call 106;refine(HU.out _).mono ?_;rintro e w1 ⟨rfl,o⟩;have B1:=ZZ (HB0.out.2.keep o id);have O1:=ZZ (HB0.out.1.trans o);obtain⟨W2,hW2,HB2⟩:=Zak w1 k s;have HW2:=ZZ hW2;clear o hW2
 go_wp2_with fail
 rw[HW2.out];go_at_call 94;refine(Zje k s _).mono ?_;rw[HW.out,HE.out];rintro e w3 ⟨rfl,o⟩;have B3:=ZZ (B1.out.keep (HB2.out.1.trans o) id);have O3:=ZZ (O1.out.trans (HB2.out.1.trans o));have c0:=o.keeps HB2.out.2.1;have c1:=o.keeps HB2.out.2.2;have g0:w3.cell? ⟨w.heap.size,0,none⟩=some (.int .i64 0):=B3.out.cell 0;have g1:w3.cell? ⟨w.heap.size,1,none⟩=some (.int .i64 0):=B3.out.cell 1;have g2:=B3.out.free 0;have g3:=B3.out.free 1;clear o;go_wp2;obtain⟨W4,hW4,O4,h0,h1⟩:=ZcK O3.out (Yj _) B3.out (0) (0);rw[hW4];exact bodyPost_ret (v:=.tuple #[.agg #[.int .i64 0,.int .i64 0],.int .i64 3]) (by simp[results,Tryz.results62,go_sem,h0,h1]) rfl ⟨rfl,O4⟩
theorem ZuC {n k s:Int} (hu:ZtB n k s) {m:Int} (hw:Zrv k s=m) (he:Zr5 k s=0) (hne:m≠n) (w:World):Calls Tryz.prog 62 #[.int .u64 n] w fun e w'=>e=.returned (.tuple #[.agg #[.int .i64 0,.int .i64 0],.int .i64 3])∧Only nob w w':=by
 have HU:=ZZ hu;have HW:=ZZ hw;have HE:=ZZ he;obtain⟨W0,hW0,HB0⟩:=Zef w;have HWE:=ZZ hW0;clear hu hw he hW0
 go_enter Tryz.func62,Tryz.ntmps62
 go_wp2_with fail
 rw[HWE.out];go_at_call 106;refine(HU.out _).mono ?_;rintro e w1 ⟨rfl,o⟩;have B1:=ZZ (HB0.out.2.keep o id);have O1:=ZZ (HB0.out.1.trans o);obtain⟨W2,hW2,HB2⟩:=Zak w1 k s;have HW2:=ZZ hW2;clear o hW2
 go_wp2_with fail
 rw[HW2.out];go_at_call 94;refine(Zje k s _).mono ?_;rw[HW.out,HE.out];rintro e w3 ⟨rfl,o⟩;have B3:=ZZ (B1.out.keep (HB2.out.1.trans o) id);have O3:=ZZ (O1.out.trans (HB2.out.1.trans o));have c0:=o.keeps HB2.out.2.1;have c1:=o.keeps HB2.out.2.2;have g0:w3.cell? ⟨w.heap.size,0,none⟩=some (.int .i64 0):=B3.out.cell 0;have g1:w3.cell? ⟨w.heap.size,1,none⟩=some (.int .i64 0):=B3.out.cell 1;have g2:=B3.out.free 0;have g3:=B3.out.free 1;clear o;go_wp2;obtain⟨W4,hW4,O4,h0,h1⟩:=ZcK O3.out (Yj _) B3.out (0) (0);rw[hW4];exact bodyPost_ret (v:=.tuple #[.agg #[.int .i64 0,.int .i64 0],.int .i64 3]) (by simp[results,Tryz.results62,go_sem,h0,h1]) rfl ⟨rfl,O4⟩
theorem Zj2 {n:Int} (hn:0≤n∧n<18446744073709551616) (w:World):Calls Tryz.prog 62 #[.int .u64 n] w fun e w'=>e=.returned (.tuple #[.agg #[.int .i64 (dK n),.int .i64 (dX n)],.int .i64 (dE n)])∧Only nob w w':=by
 by_cases h0:n=0
 · subst h0
   rw[Zex.1,Zex.2.1,Zex.2.2];exact Zj0 (fun w=>Zoz (by decide) (by decide) (by decide) w) rfl rfl w
 by_cases h1:n % 4=1
 · have hx:wrap64 n / 4=dX n:=by
    unfold wrap64 dX;rw[if_pos h1];split <;> omega
   have hk:dK n=1∧dE n=0:=by unfold dK dE;rw[if_pos h1,if_pos (.inr (.inl h1))];exact⟨rfl,rfl⟩
   have hm:ZbC 1 (dX n)=true:=Zaa (by rw[← hx];unfold wrap64;omega) (by rw[← hx];unfold wrap64;omega);rw[hk.1,hk.2];refine Zj0 (fun w=>hx▸Ztv hn h1 w) ?_ (Zg2 hm) w;rw[ZgU hm, ← hx];show(4 * (wrap64 n / 4)+1) % _=_;unfold wrap64;omega
 by_cases h2:n % 4=2
 · by_cases h3:n / 4≤1099511627776
   · have hx:wrap64 n / 4=n / 4:=by unfold wrap64;omega
     have hm:ZbC 2 (n / 4)=true:=Zaa (by omega) h3;rw[(ZiV h2 h3).1,(ZiV h2 h3).2.1,(ZiV h2 h3).2.2];refine Zj0 (fun w=>hx▸Zpn hn h2 w) ?_ (Zg2 hm) w;rw[ZgU hm];show(4 * (n / 4)+2) % _=_;omega
   · have hd:=Zio h0 h1 fun h=>h3 h.2
     have hm:ZbC 2 (wrap64 n / 4)=false:=by
      rcases hb:ZbC 2 (wrap64 n / 4) with _|_
      · rfl
      · have:=ZY.1 hb;exfalso;unfold wrap64 at this;omega
     rw[hd.1,hd.2.1,hd.2.2];exact Zs9 (fun w=>Zpn hn h2 w) (Zov hm) (Zoc hm) w
 · have hd:=Zio h0 h1 fun h=>h2 h.1
   rw[hd.1,hd.2.1,hd.2.2];exact ZuC (m:=0) (fun w=>Zoz hn h1 h2 w) rfl rfl (fun h=>h0 h.symm) w
end Go.Proofs.YteieocddfnlmdaaGreatDoor
