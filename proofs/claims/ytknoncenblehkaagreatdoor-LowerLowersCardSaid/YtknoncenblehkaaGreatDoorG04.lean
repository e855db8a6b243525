/- Values as words: plain words; what package value and the doc -/
import Derived.Test.YtknoncenblehkaaGreatDoorG01
import Derived.Test.YtknoncenblehkaaGreatDoorChecked
import Derived.BigQuiet
set_option maxRecDepth 100000
set_option maxHeartbeats 32000000
set_option linter.unusedSimpArgs false
set_option linter.unusedVariables false
namespace Go.Proofs.YtknoncenblehkaaGreatDoor
open Go.RowKit
def vin (x l m:Int):Bool:=decide (l≤x)&&decide (x≤m)
theorem ZQ {x l m:Int} (h1:l≤x) (h2:x≤m):vin x l m=true:=by unfold vin;rw[Yl h1,Yl h2];rfl
theorem ZhB {x l m:Int} (h: ¬l≤x):vin x l m=false:=by unfold vin;rw[Yk h];rfl
theorem Zhn {x l m:Int} (h: ¬x≤m):vin x l m=false:=by unfold vin;rw[Yk h,Bool.and_false]
theorem ZM {x l m:Int}:vin x l m=true↔l≤x∧x≤m:=by unfold vin;rw[Bool.and_eq_true,decide_eq_true_eq,decide_eq_true_eq]
def Zat (k x:Int):Bool:=if k=0 then decide (x=0) else if k=1 then vin x (-2305843009213693952) 2305843009213693951 else if k=2 then vin x 0 1099511627776 else false
def ZfY (k:Int):Int:=if k=1 then 1 else if k=2 then 2 else 0
def ZcD (k x:Int):Int:=if Zat k x then(4 * x+ZfY k) % 18446744073709551616 else 0
def Zis (k x:Int):Int:=if Zat k x then 0 else 1
theorem Zls (x:Int):Zat 0 x=decide (x=0):=rfl
theorem ZlU (x:Int):Zat 1 x=vin x (-2305843009213693952) 2305843009213693951:=rfl
theorem Zix (x:Int):Zat 2 x=vin x 0 1099511627776:=rfl
theorem Zhk {k:Int} (x:Int) (h0:k≠0) (h1:k≠1) (h2:k≠2):Zat k x=false:=by unfold Zat;rw[if_neg h0,if_neg h1,if_neg h2]
theorem Zl9 {k:Int} (h1:k≠1) (h2:k≠2):ZfY k=0:=by unfold ZfY;rw[if_neg h1,if_neg h2]
theorem Zhu (x l m:Int) (w:World):Calls Tryz.prog 133 #[.int .i64 x,.int .i64 l,.int .i64 m] w fun e w'=>e=.returned (.bool (vin x l m))∧Only nob w w':=by
 by_cases h1:l≤x
 · by_cases h2:x≤m
   case' pos=>have HK:=ZZ (ZQ h1 h2)
   case' neg=>have HK:=ZZ (Zhn (l:=l) h2)
   all_goals
    go_enter Tryz.func133,Tryz.ntmps133
    go_wp2;go_ret;exact⟨Za (by rw[HK.out]),Only.refl _ _⟩
 · have HK:=ZZ (ZhB (m:=m) h1)
   go_enter Tryz.func133,Tryz.ntmps133
   go_wp2;go_ret;exact⟨Za (by rw[HK.out]),Only.refl _ _⟩
theorem Zau (w:World) (k x:Int): ∃W,w.alloc (.cells #[.int .i64 k,.int .i64 x] 59)=W∧Hid (Only nob w W∧W.cell? ⟨w.heap.size,0,none⟩=some (.int .i64 k)∧W.cell? ⟨w.heap.size,1,none⟩=some (.int .i64 x)):=
 ⟨_,rfl,ZZ ⟨(Only.refl nob w).alloc _,(Blk.new w 59 #[.int .i64 k,.int .i64 x]).cell 0,(Blk.new w 59 #[.int .i64 k,.int .i64 x]).cell 1⟩⟩
theorem Znm (x:Int) (w:World):Calls Tryz.prog 93 #[.agg #[.int .i64 0,.int .i64 x]] w fun e w'=>e=.returned (.tuple #[.int .u64 0,.bool (Zat 0 x)])∧Only nob w w':=by
 by_cases h:x=0
 case' pos=>have HM:=ZZ (show Zat 0 x=true from(Zls x).trans (Yl h))
 case' neg=>have HM:=ZZ (show Zat 0 x=false from(Zls x).trans (Yk h))
 all_goals
  go_enter Tryz.func93,Tryz.ntmps93
  go_wp2
  go_quiet (fail)
  go_wp2;go_ret2;exact⟨by rw[HM.out];first|rfl|simp[h],((Only.refl _ _).alloc _).drewN _⟩
theorem Zm8 (x:Int) (w:World):Calls Tryz.prog 93 #[.agg #[.int .i64 1,.int .i64 x]] w fun e w'=>e=.returned (.tuple #[.int .u64 1,.bool (Zat 1 x)])∧Only nob w w':=by
 have HM:=ZZ (ZlU x)
 go_enter Tryz.func93,Tryz.ntmps93
 go_wp2_with fail
 go_at_call 133;refine(Zhu x _ _ _).mono ?_;rintro e w1 ⟨rfl,o⟩;have O1:=ZZ (((Only.refl nob w).alloc (.cells #[.int .i64 1,.int .i64 x] 59)).trans o);clear o;go_wp2;go_ret2;exact⟨by rw[HM.out];rfl,O1.out⟩
theorem Zn6 (x:Int) (w:World):Calls Tryz.prog 93 #[.agg #[.int .i64 2,.int .i64 x]] w fun e w'=>e=.returned (.tuple #[.int .u64 2,.bool (Zat 2 x)])∧Only nob w w':=by
 have HM:=ZZ (Zix x)
 go_enter Tryz.func93,Tryz.ntmps93
 go_wp2_with fail
 go_at_call 133;refine(Zhu x _ _ _).mono ?_;rintro e w1 ⟨rfl,o⟩;have O1:=ZZ (((Only.refl nob w).alloc (.cells #[.int .i64 2,.int .i64 x] 59)).trans o);clear o;go_wp2;go_ret2;exact⟨by rw[HM.out];rfl,O1.out⟩
theorem ZiK {k:Int} (x:Int) (h0:k≠0) (h1:k≠1) (h2:k≠2) (w:World):Calls Tryz.prog 93 #[.agg #[.int .i64 k,.int .i64 x]] w fun e w'=>e=.returned (.tuple #[.int .u64 0,.bool (Zat k x)])∧Only nob w w':=by
 have HM:=ZZ (Zhk x h0 h1 h2)
 go_enter Tryz.func93,Tryz.ntmps93
 go_wp2;go_ret2;exact⟨by rw[HM.out];rfl,(Only.refl _ _).alloc _⟩
theorem ZfH (k x:Int) (w:World):Calls Tryz.prog 93 #[.agg #[.int .i64 k,.int .i64 x]] w fun e w'=>e=.returned (.tuple #[.int .u64 (ZfY k),.bool (Zat k x)])∧Only nob w w':=by
 by_cases h0:k=0
 · subst h0;exact Znm x w
 by_cases h1:k=1
 · subst h1;exact Zm8 x w
 by_cases h2:k=2
 · subst h2;exact Zn6 x w
 rw[Zl9 h1 h2];exact ZiK x h0 h1 h2 w
theorem Zk8 (x:Int) (w:World):Calls Tryz.prog 95 #[.agg #[.int .i64 0,.int .i64 x]] w fun e w'=>e=.returned (.bool (Zat 0 x))∧Only nob w w':=by
 by_cases h:x=0
 case' pos=>have HM:=ZZ (show Zat 0 x=true from(Zls x).trans (Yl h))
 case' neg=>have HM:=ZZ (show Zat 0 x=false from(Zls x).trans (Yk h))
 all_goals
  go_enter Tryz.func95,Tryz.ntmps95
  go_wp2;go_ret;exact⟨by rw[HM.out] <;> simp[h],(Only.refl _ _).alloc _⟩
theorem Zl7 (x:Int) (w:World):Calls Tryz.prog 95 #[.agg #[.int .i64 1,.int .i64 x]] w fun e w'=>e=.returned (.bool (Zat 1 x))∧Only nob w w':=by
 by_cases h1: -2305843009213693952≤x
 · by_cases h2:x≤2305843009213693951
   case' pos=>have HM:=ZZ ((ZlU x).trans (ZQ h1 h2))
   case' neg=>have HM:=ZZ ((ZlU x).trans (Zhn h2))
   all_goals
    go_enter Tryz.func95,Tryz.ntmps95
    go_wp2;go_ret;exact⟨Za (by rw[HM.out]),(Only.refl _ _).alloc _⟩
 · have HM:=ZZ ((ZlU x).trans (ZhB h1))
   go_enter Tryz.func95,Tryz.ntmps95
   go_wp2;go_ret;exact⟨Za (by rw[HM.out]),(Only.refl _ _).alloc _⟩
theorem Zl5 (x:Int) (w:World):Calls Tryz.prog 95 #[.agg #[.int .i64 2,.int .i64 x]] w fun e w'=>e=.returned (.bool (Zat 2 x))∧Only nob w w':=by
 by_cases h1:0≤x
 · by_cases h2:x≤1099511627776
   case' pos=>have HM:=ZZ ((Zix x).trans (ZQ h1 h2))
   case' neg=>have HM:=ZZ ((Zix x).trans (Zhn h2))
   all_goals
    go_enter Tryz.func95,Tryz.ntmps95
    go_wp2;go_ret;exact⟨Za (by rw[HM.out]),(Only.refl _ _).alloc _⟩
 · have HM:=ZZ ((Zix x).trans (ZhB h1))
   go_enter Tryz.func95,Tryz.ntmps95
   go_wp2;go_ret;exact⟨Za (by rw[HM.out]),(Only.refl _ _).alloc _⟩
theorem Zgt {k:Int} (x:Int) (h0:k≠0) (h1:k≠1) (h2:k≠2) (w:World):Calls Tryz.prog 95 #[.agg #[.int .i64 k,.int .i64 x]] w fun e w'=>e=.returned (.bool (Zat k x))∧Only nob w w':=by
 have HM:=ZZ (Zhk x h0 h1 h2)
 go_enter Tryz.func95,Tryz.ntmps95
 go_wp2;go_ret;exact⟨Za (by rw[HM.out]),(Only.refl _ _).alloc _⟩
theorem ZaY (k x:Int) (w:World):Calls Tryz.prog 95 #[.agg #[.int .i64 k,.int .i64 x]] w fun e w'=>e=.returned (.bool (Zat k x))∧Only nob w w':=by
 by_cases h0:k=0
 · subst h0;exact Zk8 x w
 by_cases h1:k=1
 · subst h1;exact Zl7 x w
 by_cases h2:k=2
 · subst h2;exact Zl5 x w
 exact Zgt x h0 h1 h2 w
theorem Zlv (x t:Int) (ht:0≤t∧t<4):bits .or .u64 (IntKind.u64.wrap (IntKind.u64.wrap x * 4)) t=(4 * x+t) % 18446744073709551616:=by
 have e:IntKind.u64.wrap (IntKind.u64.wrap x * 4)=(4 * x) % 18446744073709551616:=by rw[IntKind.wrap_u64,IntKind.wrap_u64];omega
 obtain⟨a,ha⟩: ∃a:Nat,(4 * x) % 18446744073709551616=a:=⟨((4 * x) % 18446744073709551616).toNat,by omega⟩
 obtain⟨b,rfl⟩: ∃b:Nat,t=b:=⟨t.toNat,by omega⟩
 rw[e,ha,u64_or_nat _ _ (by omega) (by omega),nat_join 2 _ _ (by omega) (by omega)];omega
theorem Zhl (x t:Int):IntKind.u64.wrap (IntKind.u64.wrap (4 * IntKind.u64.wrap x)+t)=(4 * x+t) % 18446744073709551616:=by
 rw[IntKind.wrap_u64,IntKind.wrap_u64,IntKind.wrap_u64];omega
theorem ZdG (w:Int) (h:0≤w∧w<18446744073709551616):bits .and .u64 w 3=w % 4:=by
 obtain⟨a,rfl⟩: ∃a:Nat,w=a:=⟨w.toNat,by omega⟩
 have:=u64_and_nat a 3 (by omega) (by omega)
 rw[show((3:Nat):Int)=3 from rfl] at this;rw[this,show(3:Nat)=2 ^ 2 - 1 from rfl,Nat.and_two_pow_sub_one_eq_mod];omega
theorem Zpa (k:Int):0≤ZfY k∧ZfY k<4:=by
 unfold ZfY
 split
 · decide
 · split <;> decide
theorem ZfJ {k x:Int} (h:Zat k x=true):(k=0∧x=0)∨(k=1∧ -2305843009213693952≤x∧x≤2305843009213693951)∨(k=2∧0≤x∧x≤1099511627776):=by
 unfold Zat at h
 split at h
 · exact .inl ⟨‹_›,of_decide_eq_true h⟩
 · split at h
   · exact .inr (.inl ⟨‹_›,ZM.1 h⟩)
   · split at h
     · exact .inr (.inr ⟨‹_›,ZM.1 h⟩)
     · cases h
theorem ZmK (k x:Int) (h:Zat k x=false) (w:World):Calls Tryz.prog 58 #[.agg #[.int .i64 k,.int .i64 x]] w fun e w'=>e=.returned (.tuple #[.int .u64 0,.int .i64 1])∧Only nob w w':=by
 have HM:=ZZ h;clear h
 go_enter Tryz.func58,Tryz.ntmps58
 go_wp2_with fail
 go_at_call 93;refine(ZfH k x _).mono ?_;rw[HM.out];rintro e w1 ⟨rfl,o⟩;have O1:=ZZ (((Only.refl nob w).alloc (.cells #[.int .i64 k,.int .i64 x] 59)).trans o);clear o;go_wp2;go_ret2;exact⟨rfl,O1.out⟩
theorem Zgo (k x:Int) (h:Zat k x=true) (w:World):Calls Tryz.prog 58 #[.agg #[.int .i64 k,.int .i64 x]] w fun e w'=>e=.returned (.tuple #[.int .u64 ((4 * x+ZfY k) % 18446744073709551616),.int .i64 0])∧Only nob w w':=by
 have HM:=ZZ h;clear h;obtain⟨W,hW,HB⟩:=Zau w k x;have HWE:=ZZ hW;clear hW
 go_enter Tryz.func58,Tryz.ntmps58
 go_wp2_with fail
 rw[HWE.out];go_at_call 93;refine(ZfH k x _).mono ?_;rw[HM.out];rintro e w1 ⟨rfl,o⟩;have c1:=o.keeps HB.out.2.2;have O1:=ZZ (HB.out.1.trans o);clear o;go_wp2;go_ret2;exact⟨by rw[← Zlv x _ (Zpa k)];rfl,O1.out⟩
theorem Zk3 (k x:Int) (h:Zat k x=false) (w:World):Calls Tryz.prog 61 #[.agg #[.int .i64 k,.int .i64 x]] w fun e w'=>e=.returned (.tuple #[.int .u64 0,.int .i64 1])∧Only nob w w':=by
 have HM:=ZZ h;clear h
 go_enter Tryz.func61,Tryz.ntmps61
 go_wp2_with fail
 go_at_call 95;refine(ZaY k x _).mono ?_;rw[HM.out];rintro e w1 ⟨rfl,o⟩;have O1:=ZZ (((Only.refl nob w).alloc (.cells #[.int .i64 k,.int .i64 x] 59)).trans o);clear o;go_wp2;go_ret2;exact⟨rfl,O1.out⟩
theorem Zlw (x:Int) (h:Zat 0 x=true) (w:World):Calls Tryz.prog 61 #[.agg #[.int .i64 0,.int .i64 x]] w fun e w'=>e=.returned (.tuple #[.int .u64 ((4 * x+ZfY 0) % 18446744073709551616),.int .i64 0])∧Only nob w w':=by
 have HM:=ZZ h;have HX:=ZZ (show x=0 from of_decide_eq_true h);clear h;obtain⟨W,hW,HB⟩:=Zau w 0 x;have HWE:=ZZ hW;clear hW
 go_enter Tryz.func61,Tryz.ntmps61
 go_wp2_with fail
 rw[HWE.out];go_at_call 95;refine(ZaY 0 x _).mono ?_;rw[HM.out];rintro e w1 ⟨rfl,o⟩;have c0:=o.keeps HB.out.2.1;have c1:=o.keeps HB.out.2.2;have O1:=ZZ (HB.out.1.trans o);clear o;go_wp2;go_ret2;exact⟨by rw[HX.out];rfl,O1.out⟩
theorem Zle (x:Int) (h:Zat 1 x=true) (w:World):Calls Tryz.prog 61 #[.agg #[.int .i64 1,.int .i64 x]] w fun e w'=>e=.returned (.tuple #[.int .u64 ((4 * x+ZfY 1) % 18446744073709551616),.int .i64 0])∧Only nob w w':=by
 have HM:=ZZ h;clear h;obtain⟨W,hW,HB⟩:=Zau w 1 x;have HWE:=ZZ hW;clear hW
 go_enter Tryz.func61,Tryz.ntmps61
 go_wp2_with fail
 rw[HWE.out];go_at_call 95;refine(ZaY 1 x _).mono ?_;rw[HM.out];rintro e w1 ⟨rfl,o⟩;have c0:=o.keeps HB.out.2.1;have c1:=o.keeps HB.out.2.2;have O1:=ZZ (HB.out.1.trans o);clear o;go_wp2;go_ret2;exact⟨by rw[← Zhl x (ZfY 1)];rfl,O1.out⟩
theorem ZlW (x:Int) (h:Zat 2 x=true) (w:World):Calls Tryz.prog 61 #[.agg #[.int .i64 2,.int .i64 x]] w fun e w'=>e=.returned (.tuple #[.int .u64 ((4 * x+ZfY 2) % 18446744073709551616),.int .i64 0])∧Only nob w w':=by
 have HM:=ZZ h;clear h;obtain⟨W,hW,HB⟩:=Zau w 2 x;have HWE:=ZZ hW;clear hW
 go_enter Tryz.func61,Tryz.ntmps61
 go_wp2_with fail
 rw[HWE.out];go_at_call 95;refine(ZaY 2 x _).mono ?_;rw[HM.out];rintro e w1 ⟨rfl,o⟩;have c0:=o.keeps HB.out.2.1;have c1:=o.keeps HB.out.2.2;have O1:=ZZ (HB.out.1.trans o);clear o;go_wp2;go_ret2;exact⟨by rw[← Zhl x (ZfY 2)];rfl,O1.out⟩
theorem Zcs {k x:Int} (h:Zat k x=true):ZcD k x=(4 * x+ZfY k) % 18446744073709551616:=by unfold ZcD;rw[h];rfl
theorem Zdb {k x:Int} (h:Zat k x=true):Zis k x=0:=by unfold Zis;rw[h];rfl
theorem Zf2 {k x:Int} (h:Zat k x=false):ZcD k x=0:=by unfold ZcD;rw[h];rfl
theorem ZgI {k x:Int} (h:Zat k x=false):Zis k x=1:=by unfold Zis;rw[h];rfl
theorem ZdL (k x:Int) (w:World):Calls Tryz.prog 58 #[.agg #[.int .i64 k,.int .i64 x]] w fun e w'=>e=.returned (.tuple #[.int .u64 (ZcD k x),.int .i64 (Zis k x)])∧Only nob w w':=by
 rcases hm:Zat k x with _|_
 · rw[Zf2 hm,ZgI hm];exact ZmK k x hm w
 · rw[Zcs hm,Zdb hm];exact Zgo k x hm w
theorem ZeA (k x:Int) (w:World):Calls Tryz.prog 61 #[.agg #[.int .i64 k,.int .i64 x]] w fun e w'=>e=.returned (.tuple #[.int .u64 (ZcD k x),.int .i64 (Zis k x)])∧Only nob w w':=by
 rcases hm:Zat k x with _|_
 · rw[Zf2 hm,ZgI hm];exact Zk3 k x hm w
 · rw[Zcs hm,Zdb hm]
   rcases ZfJ hm with⟨rfl,_⟩|⟨rfl,_⟩|⟨rfl,_⟩
   · exact Zlw x hm w
   · exact Zle x hm w
   · exact ZlW x hm w
def dK (w:Int):Int:=if w % 4=1 then 1 else if w % 4=2∧w / 4≤1099511627776 then 2 else 0
def dX (w:Int):Int:=if w % 4=1 then(if w / 4<2305843009213693952 then w / 4 else w / 4 - 4611686018427387904) else if w % 4=2∧w / 4≤1099511627776 then w / 4 else 0
def dE (w:Int):Int:=if w=0∨w % 4=1∨(w % 4=2∧w / 4≤1099511627776) then 0 else 3
theorem ZjY:dK 0=0∧dX 0=0∧dE 0=0:=by decide
theorem Zp3 {w:Int} (h:w % 4=1) (h1:w / 4<2305843009213693952):dK w=1∧dX w=w / 4∧dE w=0:=by
 unfold dK dX dE;rw[if_pos h,if_pos h,if_pos h1,if_pos (.inr (.inl h))];exact⟨rfl,rfl,rfl⟩
theorem Zo4 {w:Int} (h:w % 4=1) (h1: ¬w / 4<2305843009213693952):dK w=1∧dX w=w / 4 - 4611686018427387904∧dE w=0:=by
 unfold dK dX dE;rw[if_pos h,if_pos h,if_neg h1,if_pos (.inr (.inl h))];exact⟨rfl,rfl,rfl⟩
theorem Zmg {w:Int} (h:w % 4=2) (h1:w / 4≤1099511627776):dK w=2∧dX w=w / 4∧dE w=0:=by
 unfold dK dX dE;rw[if_neg (by omega),if_pos ⟨h,h1⟩,if_neg (by omega),if_pos ⟨h,h1⟩,if_pos (.inr (.inr ⟨h,h1⟩))];exact⟨rfl,rfl,rfl⟩
theorem ZmY {w:Int} (h0:w≠0) (h1:w % 4≠1) (h2: ¬(w % 4=2∧w / 4≤1099511627776)):dK w=0∧dX w=0∧dE w=3:=by
 unfold dK dX dE;rw[if_neg h1,if_neg h2,if_neg h1,if_neg h2,if_neg (by omega)];exact⟨rfl,rfl,rfl⟩
theorem Zgg {w W:World} (o:Only nob w W) {b:Nat} (hb:w.heap.size≤b) (B:Blk W b 59 #[.int .i64 0,.int .i64 0]) (k x:Int):
 ∃W4,((W.setCell ⟨b,0,none⟩ (.int .i64 k)).setCell ⟨b,1,none⟩ (.int .i64 x))=W4∧Only nob w W4∧W4.cell? ⟨b,0,none⟩=some (.int .i64 k)∧W4.cell? ⟨b,1,none⟩=some (.int .i64 x):=by
 have B4:Blk ((W.setCell ⟨b,0,none⟩ (.int .i64 k)).setCell ⟨b,1,none⟩ (.int .i64 x)) b 59 #[.int .i64 k,.int .i64 x]:=by simpa using(B.put 0 (.int .i64 k)).put 1 (.int .i64 x)
 exact⟨_,rfl,(o.setCell (p:=⟨b,0,none⟩) (fun h=>absurd h (Nat.not_lt_of_le hb)) _).setCell (p:=⟨b,1,none⟩) (fun h=>absurd h (Nat.not_lt_of_le hb)) _,B4.cell 0,B4.cell 1⟩
theorem Zgn (w:World): ∃W,w.alloc (.cells #[.int .i64 0,.int .i64 0] 59)=W∧Hid (Only nob w W∧Blk W w.heap.size 59 #[.int .i64 0,.int .i64 0]):=
 ⟨_,rfl,ZZ ⟨(Only.refl nob w).alloc _,Blk.new w 59 #[.int .i64 0,.int .i64 0]⟩⟩
theorem Zns {n:Int} (hn:0≤n∧n<18446744073709551616) (ht:n % 4=1) (w:World):Calls Tryz.prog 98 #[.int .u64 n] w fun e w'=>e=.returned (.agg #[.int .i64 1,.int .i64 (wrap64 n / 4)])∧Only nob w w':=by
 have ha:bits .and .u64 n 3=1:=(ZdG n hn).trans ht;clear ht
 go_enter Tryz.func98,Tryz.ntmps98
 go_wp2;obtain⟨W4,hW4,H4⟩:=Zau w 1 (wrap64 n / 4);rw[hW4];have h0:=H4.out.2.1;have h1:=H4.out.2.2;exact bodyPost_ret (v:=.agg #[.int .i64 1,.int .i64 (wrap64 n / 4)]) (by simp[results,Tryz.results98,go_sem,h0,h1]) rfl ⟨rfl,H4.out.1⟩
theorem ZjL {n:Int} (hn:0≤n∧n<18446744073709551616) (ht:n % 4=2) (w:World):Calls Tryz.prog 98 #[.int .u64 n] w fun e w'=>e=.returned (.agg #[.int .i64 2,.int .i64 (wrap64 n / 4)])∧Only nob w w':=by
 have ha:bits .and .u64 n 3=2:=(ZdG n hn).trans ht;clear ht
 go_enter Tryz.func98,Tryz.ntmps98
 go_wp2;obtain⟨W4,hW4,H4⟩:=Zau w 2 (wrap64 n / 4);rw[hW4];have h0:=H4.out.2.1;have h1:=H4.out.2.2;exact bodyPost_ret (v:=.agg #[.int .i64 2,.int .i64 (wrap64 n / 4)]) (by simp[results,Tryz.results98,go_sem,h0,h1]) rfl ⟨rfl,H4.out.1⟩
theorem Zkg {n:Int} (hn:0≤n∧n<18446744073709551616) (h1: ¬n % 4=1) (h2: ¬n % 4=2) (w:World):Calls Tryz.prog 98 #[.int .u64 n] w fun e w'=>e=.returned (.agg #[.int .i64 0,.int .i64 (0)])∧Only nob w w':=by
 have ha:=ZdG n hn
 obtain⟨m,hm⟩: ∃m,n % 4=m:=⟨_,rfl⟩
 rw[hm] at ha h1 h2;clear hm
 go_enter Tryz.func98,Tryz.ntmps98
 go_wp2;obtain⟨W4,hW4,H4⟩:=Zau w 0 (0);rw[hW4];have h0:=H4.out.2.1;have h1:=H4.out.2.2;exact bodyPost_ret (v:=.agg #[.int .i64 0,.int .i64 (0)]) (by simp[results,Tryz.results98,go_sem,h0,h1]) rfl ⟨rfl,H4.out.1⟩
def Zny (n k s:Int):Prop:= ∀w,Calls Tryz.prog 98 #[.int .u64 n] w fun e w'=>e=.returned (.agg #[.int .i64 k,.int .i64 s])∧Only nob w w'
theorem ZgS {n k s:Int} (hu:Zny n k s) (hw:ZcD k s=n) (he:Zis k s=0) (w:World):Calls Tryz.prog 67 #[.int .u64 n] w fun e w'=>e=.returned (.tuple #[.agg #[.int .i64 k,.int .i64 s],.int .i64 0])∧Only nob w w':=by
 have HU:=ZZ hu;have HW:=ZZ hw;have HE:=ZZ he;obtain⟨W0,hW0,HB0⟩:=Zgn w;have HWE:=ZZ hW0;clear hu hw he hW0
 go_enter Tryz.func67,Tryz.ntmps67
 go_wp2_with fail
 rw[HWE.out];go_at_call 98;refine(HU.out _).mono ?_;rintro e w1 ⟨rfl,o⟩;have B1:=ZZ (HB0.out.2.keep o id);have O1:=ZZ (HB0.out.1.trans o);obtain⟨W2,hW2,HB2⟩:=Zau w1 k s;have HW2:=ZZ hW2;clear o hW2
 go_wp2_with fail
 rw[HW2.out];go_at_call 58;refine(ZdL k s _).mono ?_;rw[HW.out,HE.out];rintro e w3 ⟨rfl,o⟩;have B3:=ZZ (B1.out.keep (HB2.out.1.trans o) id);have O3:=ZZ (O1.out.trans (HB2.out.1.trans o));have c0:=o.keeps HB2.out.2.1;have c1:=o.keeps HB2.out.2.2;have g0:w3.cell? ⟨w.heap.size,0,none⟩=some (.int .i64 0):=B3.out.cell 0;have g1:w3.cell? ⟨w.heap.size,1,none⟩=some (.int .i64 0):=B3.out.cell 1;have g2:=B3.out.free 0;have g3:=B3.out.free 1;clear o;go_wp2;obtain⟨W4,hW4,O4,h0,h1⟩:=Zgg O3.out (Yi _) B3.out (k) (s);rw[hW4];exact bodyPost_ret (v:=.tuple #[.agg #[.int .i64 k,.int .i64 s],.int .i64 0]) (by simp[results,Tryz.results67,go_sem,h0,h1]) rfl ⟨rfl,O4⟩
theorem Znn {n k s:Int} (hu:Zny n k s) (hw:ZcD k s=0) (he:Zis k s=1) (w:World):Calls Tryz.prog 67 #[.int .u64 n] w fun e w'=>e=.returned (.tuple #[.agg #[.int .i64 0,.int .i64 0],.int .i64 3])∧Only nob w w':=by
 have HU:=ZZ hu;have HW:=ZZ hw;have HE:=ZZ he;obtain⟨W0,hW0,HB0⟩:=Zgn w;have HWE:=ZZ hW0;clear hu hw he hW0
 go_enter Tryz.func67,Tryz.ntmps67
 go_wp2_with fail
 rw[HWE.out];go_at_call 98;refine(HU.out _).mono ?_;rintro e w1 ⟨rfl,o⟩;have B1:=ZZ (HB0.out.2.keep o id);have O1:=ZZ (HB0.out.1.trans o);obtain⟨W2,hW2,HB2⟩:=Zau w1 k s;have HW2:=ZZ hW2;clear o hW2
 go_wp2_with fail
 rw[HW2.out];go_at_call 58;refine(ZdL k s _).mono ?_;rw[HW.out,HE.out];rintro e w3 ⟨rfl,o⟩;have B3:=ZZ (B1.out.keep (HB2.out.1.trans o) id);have O3:=ZZ (O1.out.trans (HB2.out.1.trans o));have c0:=o.keeps HB2.out.2.1;have c1:=o.keeps HB2.out.2.2;have g0:w3.cell? ⟨w.heap.size,0,none⟩=some (.int .i64 0):=B3.out.cell 0;have g1:w3.cell? ⟨w.heap.size,1,none⟩=some (.int .i64 0):=B3.out.cell 1;have g2:=B3.out.free 0;have g3:=B3.out.free 1;clear o;go_wp2;obtain⟨W4,hW4,O4,h0,h1⟩:=Zgg O3.out (Yi _) B3.out (0) (0);rw[hW4];exact bodyPost_ret (v:=.tuple #[.agg #[.int .i64 0,.int .i64 0],.int .i64 3]) (by simp[results,Tryz.results67,go_sem,h0,h1]) rfl ⟨rfl,O4⟩
theorem ZoQ {n k s:Int} (hu:Zny n k s) {m:Int} (hw:ZcD k s=m) (he:Zis k s=0) (hne:m≠n) (w:World):Calls Tryz.prog 67 #[.int .u64 n] w fun e w'=>e=.returned (.tuple #[.agg #[.int .i64 0,.int .i64 0],.int .i64 3])∧Only nob w w':=by
 have HU:=ZZ hu;have HW:=ZZ hw;have HE:=ZZ he;obtain⟨W0,hW0,HB0⟩:=Zgn w;have HWE:=ZZ hW0;clear hu hw he hW0
 go_enter Tryz.func67,Tryz.ntmps67
 go_wp2_with fail
 rw[HWE.out];go_at_call 98;refine(HU.out _).mono ?_;rintro e w1 ⟨rfl,o⟩;have B1:=ZZ (HB0.out.2.keep o id);have O1:=ZZ (HB0.out.1.trans o);obtain⟨W2,hW2,HB2⟩:=Zau w1 k s;have HW2:=ZZ hW2;clear o hW2
 go_wp2_with fail
 rw[HW2.out];go_at_call 58;refine(ZdL k s _).mono ?_;rw[HW.out,HE.out];rintro e w3 ⟨rfl,o⟩;have B3:=ZZ (B1.out.keep (HB2.out.1.trans o) id);have O3:=ZZ (O1.out.trans (HB2.out.1.trans o));have c0:=o.keeps HB2.out.2.1;have c1:=o.keeps HB2.out.2.2;have g0:w3.cell? ⟨w.heap.size,0,none⟩=some (.int .i64 0):=B3.out.cell 0;have g1:w3.cell? ⟨w.heap.size,1,none⟩=some (.int .i64 0):=B3.out.cell 1;have g2:=B3.out.free 0;have g3:=B3.out.free 1;clear o;go_wp2;obtain⟨W4,hW4,O4,h0,h1⟩:=Zgg O3.out (Yi _) B3.out (0) (0);rw[hW4];exact bodyPost_ret (v:=.tuple #[.agg #[.int .i64 0,.int .i64 0],.int .i64 3]) (by simp[results,Tryz.results67,go_sem,h0,h1]) rfl ⟨rfl,O4⟩
theorem Zjs {n:Int} (hn:0≤n∧n<18446744073709551616) (w:World):Calls Tryz.prog 67 #[.int .u64 n] w fun e w'=>e=.returned (.tuple #[.agg #[.int .i64 (dK n),.int .i64 (dX n)],.int .i64 (dE n)])∧Only nob w w':=by
 by_cases h0:n=0
 · subst h0
   rw[ZjY.1,ZjY.2.1,ZjY.2.2];exact ZgS (fun w=>Zkg (by decide) (by decide) (by decide) w) rfl rfl w
 by_cases h1:n % 4=1
 · have hx:wrap64 n / 4=dX n:=by
    unfold wrap64 dX;rw[if_pos h1];split <;> omega
   have hk:dK n=1∧dE n=0:=by unfold dK dE;rw[if_pos h1,if_pos (.inr (.inl h1))];exact⟨rfl,rfl⟩
   have hm:Zat 1 (dX n)=true:=ZQ (by rw[← hx];unfold wrap64;omega) (by rw[← hx];unfold wrap64;omega);rw[hk.1,hk.2];refine ZgS (fun w=>hx▸Zns hn h1 w) ?_ (Zdb hm) w;rw[Zcs hm, ← hx];show(4 * (wrap64 n / 4)+1) % _=_;unfold wrap64;omega
 by_cases h2:n % 4=2
 · by_cases h3:n / 4≤1099511627776
   · have hx:wrap64 n / 4=n / 4:=by unfold wrap64;omega
     have hm:Zat 2 (n / 4)=true:=ZQ (by omega) h3;rw[(Zmg h2 h3).1,(Zmg h2 h3).2.1,(Zmg h2 h3).2.2];refine ZgS (fun w=>hx▸ZjL hn h2 w) ?_ (Zdb hm) w;rw[Zcs hm];show(4 * (n / 4)+2) % _=_;omega
   · have hd:=ZmY h0 h1 fun h=>h3 h.2
     have hm:Zat 2 (wrap64 n / 4)=false:=by
      rcases hb:Zat 2 (wrap64 n / 4) with _|_
      · rfl
      · have:=ZM.1 hb;exfalso;unfold wrap64 at this;omega
     rw[hd.1,hd.2.1,hd.2.2];exact Znn (fun w=>ZjL hn h2 w) (Zf2 hm) (ZgI hm) w
 · have hd:=ZmY h0 h1 fun h=>h2 h.1
   rw[hd.1,hd.2.1,hd.2.2];exact ZoQ (m:=0) (fun w=>Zkg hn h1 h2 w) rfl rfl (fun h=>h0 h.symm) w
end Go.Proofs.YtknoncenblehkaaGreatDoor
