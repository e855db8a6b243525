/- Values as words: plain words; what package value and the doc -/
import Derived.Test.YtknoncenblehkaaGreatDoorE00
import Derived.Test.YtknoncenblehkaaGreatDoorChecked
import Derived.BigQuiet
set_option maxRecDepth 100000
set_option maxHeartbeats 32000000
set_option linter.unusedSimpArgs false
set_option linter.unusedVariables false
namespace Go.Proofs.YtknoncenblehkaaGreatDoor
open Go.RowKit
def vin (x l m:Int):Bool:=decide (l≤x)&&decide (x≤m)
theorem ZV {x l m:Int} (h1:l≤x) (h2:x≤m):vin x l m=true:=by unfold vin;rw[Ym h1,Ym h2];rfl
theorem Znl {x l m:Int} (h: ¬l≤x):vin x l m=false:=by unfold vin;rw[Yl h];rfl
theorem ZnI {x l m:Int} (h: ¬x≤m):vin x l m=false:=by unfold vin;rw[Yl h,Bool.and_false]
theorem ZF {x l m:Int}:vin x l m=true↔l≤x∧x≤m:=by unfold vin;rw[Bool.and_eq_true,decide_eq_true_eq,decide_eq_true_eq]
def Za2 (k x:Int):Bool:=if k=0 then decide (x=0) else if k=1 then vin x (-2305843009213693952) 2305843009213693951 else if k=2 then vin x 0 1099511627776 else false
def ZjL (k:Int):Int:=if k=1 then 1 else if k=2 then 2 else 0
def Zd3 (k x:Int):Int:=if Za2 k x then(4 * x+ZjL k) % 18446744073709551616 else 0
def ZlQ (k x:Int):Int:=if Za2 k x then 0 else 1
theorem Zqz (x:Int):Za2 0 x=decide (x=0):=rfl
theorem ZqU (x:Int):Za2 1 x=vin x (-2305843009213693952) 2305843009213693951:=rfl
theorem Zoj (x:Int):Za2 2 x=vin x 0 1099511627776:=rfl
theorem ZlS {k:Int} (x:Int) (h0:k≠0) (h1:k≠1) (h2:k≠2):Za2 k x=false:=by unfold Za2;rw[if_neg h0,if_neg h1,if_neg h2]
theorem Zmn {k:Int} (h1:k≠1) (h2:k≠2):ZjL k=0:=by unfold ZjL;rw[if_neg h1,if_neg h2]
theorem Zib (x l m:Int) (w:World):Calls Tryz.prog 133 #[.int .i64 x,.int .i64 l,.int .i64 m] w fun e w'=>e=.returned (.bool (vin x l m))∧Only nob w w':=by
 by_cases h1:l≤x
 · by_cases h2:x≤m
   case' pos=>have HK:=ZZ (ZV h1 h2)
   case' neg=>have HK:=ZZ (ZnI (l:=l) h2)
   all_goals
    go_enter Tryz.func133,Tryz.ntmps133
    go_wp2;go_ret;exact⟨Za (by rw[HK.out]),Only.refl _ _⟩
 · have HK:=ZZ (Znl (m:=m) h1)
   go_enter Tryz.func133,Tryz.ntmps133
   go_wp2;go_ret;exact⟨Za (by rw[HK.out]),Only.refl _ _⟩
theorem ZaY (w:World) (k x:Int): ∃W,w.alloc (.cells #[.int .i64 k,.int .i64 x] 59)=W∧Hid (Only nob w W∧W.cell? ⟨w.heap.size,0,none⟩=some (.int .i64 k)∧W.cell? ⟨w.heap.size,1,none⟩=some (.int .i64 x)):=
 ⟨_,rfl,ZZ ⟨(Only.refl nob w).alloc _,(Blk.new w 59 #[.int .i64 k,.int .i64 x]).cell 0,(Blk.new w 59 #[.int .i64 k,.int .i64 x]).cell 1⟩⟩
theorem Zol (x:Int) (w:World):Calls Tryz.prog 93 #[.agg #[.int .i64 0,.int .i64 x]] w fun e w'=>e=.returned (.tuple #[.int .u64 0,.bool (Za2 0 x)])∧Only nob w w':=by
 by_cases h:x=0
 case' pos=>have HM:=ZZ (show Za2 0 x=true from(Zqz x).trans (Ym h))
 case' neg=>have HM:=ZZ (show Za2 0 x=false from(Zqz x).trans (Yl h))
 all_goals
  go_enter Tryz.func93,Tryz.ntmps93
  go_wp2
  go_quiet (fail)
  go_wp2;go_ret2;exact⟨by rw[HM.out];first|rfl|simp[h],((Only.refl _ _).alloc _).drewN _⟩
theorem Zo4 (x:Int) (w:World):Calls Tryz.prog 93 #[.agg #[.int .i64 1,.int .i64 x]] w fun e w'=>e=.returned (.tuple #[.int .u64 1,.bool (Za2 1 x)])∧Only nob w w':=by
 have HM:=ZZ (ZqU x)
 go_enter Tryz.func93,Tryz.ntmps93
 go_wp2_with fail
 go_at_call 133;refine(Zib x _ _ _).mono ?_;rintro e w1 ⟨rfl,o⟩;have O1:=ZZ (((Only.refl nob w).alloc (.cells #[.int .i64 1,.int .i64 x] 59)).trans o);clear o;go_wp2;go_ret2;exact⟨by rw[HM.out];rfl,O1.out⟩
theorem Zoh (x:Int) (w:World):Calls Tryz.prog 93 #[.agg #[.int .i64 2,.int .i64 x]] w fun e w'=>e=.returned (.tuple #[.int .u64 2,.bool (Za2 2 x)])∧Only nob w w':=by
 have HM:=ZZ (Zoj x)
 go_enter Tryz.func93,Tryz.ntmps93
 go_wp2_with fail
 go_at_call 133;refine(Zib x _ _ _).mono ?_;rintro e w1 ⟨rfl,o⟩;have O1:=ZZ (((Only.refl nob w).alloc (.cells #[.int .i64 2,.int .i64 x] 59)).trans o);clear o;go_wp2;go_ret2;exact⟨by rw[HM.out];rfl,O1.out⟩
theorem ZiO {k:Int} (x:Int) (h0:k≠0) (h1:k≠1) (h2:k≠2) (w:World):Calls Tryz.prog 93 #[.agg #[.int .i64 k,.int .i64 x]] w fun e w'=>e=.returned (.tuple #[.int .u64 0,.bool (Za2 k x)])∧Only nob w w':=by
 have HM:=ZZ (ZlS x h0 h1 h2)
 go_enter Tryz.func93,Tryz.ntmps93
 go_wp2;go_ret2;exact⟨by rw[HM.out];rfl,(Only.refl _ _).alloc _⟩
theorem Zgl (k x:Int) (w:World):Calls Tryz.prog 93 #[.agg #[.int .i64 k,.int .i64 x]] w fun e w'=>e=.returned (.tuple #[.int .u64 (ZjL k),.bool (Za2 k x)])∧Only nob w w':=by
 by_cases h0:k=0
 · subst h0;exact Zol x w
 by_cases h1:k=1
 · subst h1;exact Zo4 x w
 by_cases h2:k=2
 · subst h2;exact Zoh x w
 rw[Zmn h1 h2];exact ZiO x h0 h1 h2 w
theorem ZmQ (x t:Int) (ht:0≤t∧t<4):bits .or .u64 (IntKind.u64.wrap (IntKind.u64.wrap x * 4)) t=(4 * x+t) % 18446744073709551616:=by
 have e:IntKind.u64.wrap (IntKind.u64.wrap x * 4)=(4 * x) % 18446744073709551616:=by rw[IntKind.wrap_u64,IntKind.wrap_u64];omega
 obtain⟨a,ha⟩: ∃a:Nat,(4 * x) % 18446744073709551616=a:=⟨((4 * x) % 18446744073709551616).toNat,by omega⟩
 obtain⟨b,rfl⟩: ∃b:Nat,t=b:=⟨t.toNat,by omega⟩
 rw[e,ha,u64_or_nat _ _ (by omega) (by omega),nat_join 2 _ _ (by omega) (by omega)];omega
theorem Zdc (w:Int) (h:0≤w∧w<18446744073709551616):bits .and .u64 w 3=w % 4:=by
 obtain⟨a,rfl⟩: ∃a:Nat,w=a:=⟨w.toNat,by omega⟩
 have:=u64_and_nat a 3 (by omega) (by omega)
 rw[show((3:Nat):Int)=3 from rfl] at this;rw[this,show(3:Nat)=2 ^ 2 - 1 from rfl,Nat.and_two_pow_sub_one_eq_mod];omega
theorem Zp2 (k:Int):0≤ZjL k∧ZjL k<4:=by
 unfold ZjL
 split
 · decide
 · split <;> decide
theorem Zlp {k x:Int} (h:Za2 k x=true):(k=0∧x=0)∨(k=1∧ -2305843009213693952≤x∧x≤2305843009213693951)∨(k=2∧0≤x∧x≤1099511627776):=by
 unfold Za2 at h
 split at h
 · exact .inl ⟨‹_›,of_decide_eq_true h⟩
 · split at h
   · exact .inr (.inl ⟨‹_›,ZF.1 h⟩)
   · split at h
     · exact .inr (.inr ⟨‹_›,ZF.1 h⟩)
     · cases h
theorem Znj (k x:Int) (h:Za2 k x=false) (w:World):Calls Tryz.prog 58 #[.agg #[.int .i64 k,.int .i64 x]] w fun e w'=>e=.returned (.tuple #[.int .u64 0,.int .i64 1])∧Only nob w w':=by
 have HM:=ZZ h;clear h
 go_enter Tryz.func58,Tryz.ntmps58
 go_wp2_with fail
 go_at_call 93;refine(Zgl k x _).mono ?_;rw[HM.out];rintro e w1 ⟨rfl,o⟩;have O1:=ZZ (((Only.refl nob w).alloc (.cells #[.int .i64 k,.int .i64 x] 59)).trans o);clear o;go_wp2;go_ret2;exact⟨rfl,O1.out⟩
theorem Zhh (k x:Int) (h:Za2 k x=true) (w:World):Calls Tryz.prog 58 #[.agg #[.int .i64 k,.int .i64 x]] w fun e w'=>e=.returned (.tuple #[.int .u64 ((4 * x+ZjL k) % 18446744073709551616),.int .i64 0])∧Only nob w w':=by
 have HM:=ZZ h;clear h;obtain⟨W,hW,HB⟩:=ZaY w k x;have HWE:=ZZ hW;clear hW
 go_enter Tryz.func58,Tryz.ntmps58
 go_wp2_with fail
 rw[HWE.out];go_at_call 93;refine(Zgl k x _).mono ?_;rw[HM.out];rintro e w1 ⟨rfl,o⟩;have c1:=o.keeps HB.out.2.2;have O1:=ZZ (HB.out.1.trans o);clear o;go_wp2;go_ret2;exact⟨by rw[← ZmQ x _ (Zp2 k)];rfl,O1.out⟩
theorem ZcY {k x:Int} (h:Za2 k x=true):Zd3 k x=(4 * x+ZjL k) % 18446744073709551616:=by unfold Zd3;rw[h];rfl
theorem Zfg {k x:Int} (h:Za2 k x=true):ZlQ k x=0:=by unfold ZlQ;rw[h];rfl
theorem ZjK {k x:Int} (h:Za2 k x=false):Zd3 k x=0:=by unfold Zd3;rw[h];rfl
theorem Zli {k x:Int} (h:Za2 k x=false):ZlQ k x=1:=by unfold ZlQ;rw[h];rfl
theorem Zdm (k x:Int) (w:World):Calls Tryz.prog 58 #[.agg #[.int .i64 k,.int .i64 x]] w fun e w'=>e=.returned (.tuple #[.int .u64 (Zd3 k x),.int .i64 (ZlQ k x)])∧Only nob w w':=by
 rcases hm:Za2 k x with _|_
 · rw[ZjK hm,Zli hm];exact Znj k x hm w
 · rw[ZcY hm,Zfg hm];exact Zhh k x hm w
def dK (w:Int):Int:=if w % 4=1 then 1 else if w % 4=2∧w / 4≤1099511627776 then 2 else 0
def dX (w:Int):Int:=if w % 4=1 then(if w / 4<2305843009213693952 then w / 4 else w / 4 - 4611686018427387904) else if w % 4=2∧w / 4≤1099511627776 then w / 4 else 0
def dE (w:Int):Int:=if w=0∨w % 4=1∨(w % 4=2∧w / 4≤1099511627776) then 0 else 3
theorem ZkE:dK 0=0∧dX 0=0∧dE 0=0:=by decide
theorem Zrl {w:Int} (h:w % 4=1) (h1:w / 4<2305843009213693952):dK w=1∧dX w=w / 4∧dE w=0:=by
 unfold dK dX dE;rw[if_pos h,if_pos h,if_pos h1,if_pos (.inr (.inl h))];exact⟨rfl,rfl,rfl⟩
theorem ZpJ {w:Int} (h:w % 4=1) (h1: ¬w / 4<2305843009213693952):dK w=1∧dX w=w / 4 - 4611686018427387904∧dE w=0:=by
 unfold dK dX dE;rw[if_pos h,if_pos h,if_neg h1,if_pos (.inr (.inl h))];exact⟨rfl,rfl,rfl⟩
theorem Zm9 {w:Int} (h:w % 4=2) (h1:w / 4≤1099511627776):dK w=2∧dX w=w / 4∧dE w=0:=by
 unfold dK dX dE;rw[if_neg (by omega),if_pos ⟨h,h1⟩,if_neg (by omega),if_pos ⟨h,h1⟩,if_pos (.inr (.inr ⟨h,h1⟩))];exact⟨rfl,rfl,rfl⟩
theorem ZnK {w:Int} (h0:w≠0) (h1:w % 4≠1) (h2: ¬(w % 4=2∧w / 4≤1099511627776)):dK w=0∧dX w=0∧dE w=3:=by
 unfold dK dX dE;rw[if_neg h1,if_neg h2,if_neg h1,if_neg h2,if_neg (by omega)];exact⟨rfl,rfl,rfl⟩
theorem Zcr {w W:World} (o:Only nob w W) {b:Nat} (hb:w.heap.size≤b) (B:Blk W b 59 #[.int .i64 0,.int .i64 0]) (k x:Int):
 ∃W4,((W.setCell ⟨b,0,none⟩ (.int .i64 k)).setCell ⟨b,1,none⟩ (.int .i64 x))=W4∧Only nob w W4∧W4.cell? ⟨b,0,none⟩=some (.int .i64 k)∧W4.cell? ⟨b,1,none⟩=some (.int .i64 x):=by
 have B4:Blk ((W.setCell ⟨b,0,none⟩ (.int .i64 k)).setCell ⟨b,1,none⟩ (.int .i64 x)) b 59 #[.int .i64 k,.int .i64 x]:=by simpa using(B.put 0 (.int .i64 k)).put 1 (.int .i64 x)
 exact⟨_,rfl,(o.setCell (p:=⟨b,0,none⟩) (fun h=>absurd h (Nat.not_lt_of_le hb)) _).setCell (p:=⟨b,1,none⟩) (fun h=>absurd h (Nat.not_lt_of_le hb)) _,B4.cell 0,B4.cell 1⟩
theorem Zdj (w:World): ∃W,w.alloc (.cells #[.int .i64 0,.int .i64 0] 59)=W∧Hid (Only nob w W∧Blk W w.heap.size 59 #[.int .i64 0,.int .i64 0]):=
 ⟨_,rfl,ZZ ⟨(Only.refl nob w).alloc _,Blk.new w 59 #[.int .i64 0,.int .i64 0]⟩⟩
theorem ZoV {n:Int} (hn:0≤n∧n<18446744073709551616) (ht:n % 4=1) (w:World):Calls Tryz.prog 98 #[.int .u64 n] w fun e w'=>e=.returned (.agg #[.int .i64 1,.int .i64 (wrap64 n / 4)])∧Only nob w w':=by
 have ha:bits .and .u64 n 3=1:=(Zdc n hn).trans ht;clear ht
 go_enter Tryz.func98,Tryz.ntmps98
 go_wp2;obtain⟨W4,hW4,H4⟩:=ZaY w 1 (wrap64 n / 4);rw[hW4];have h0:=H4.out.2.1;have h1:=H4.out.2.2;exact bodyPost_ret (v:=.agg #[.int .i64 1,.int .i64 (wrap64 n / 4)]) (by simp[results,Tryz.results98,go_sem,h0,h1]) rfl ⟨rfl,H4.out.1⟩
theorem Zk9 {n:Int} (hn:0≤n∧n<18446744073709551616) (ht:n % 4=2) (w:World):Calls Tryz.prog 98 #[.int .u64 n] w fun e w'=>e=.returned (.agg #[.int .i64 2,.int .i64 (wrap64 n / 4)])∧Only nob w w':=by
 have ha:bits .and .u64 n 3=2:=(Zdc n hn).trans ht;clear ht
 go_enter Tryz.func98,Tryz.ntmps98
 go_wp2;obtain⟨W4,hW4,H4⟩:=ZaY w 2 (wrap64 n / 4);rw[hW4];have h0:=H4.out.2.1;have h1:=H4.out.2.2;exact bodyPost_ret (v:=.agg #[.int .i64 2,.int .i64 (wrap64 n / 4)]) (by simp[results,Tryz.results98,go_sem,h0,h1]) rfl ⟨rfl,H4.out.1⟩
theorem Zlm {n:Int} (hn:0≤n∧n<18446744073709551616) (h1: ¬n % 4=1) (h2: ¬n % 4=2) (w:World):Calls Tryz.prog 98 #[.int .u64 n] w fun e w'=>e=.returned (.agg #[.int .i64 0,.int .i64 (0)])∧Only nob w w':=by
 have ha:=Zdc n hn
 obtain⟨m,hm⟩: ∃m,n % 4=m:=⟨_,rfl⟩
 rw[hm] at ha h1 h2;clear hm
 go_enter Tryz.func98,Tryz.ntmps98
 go_wp2;obtain⟨W4,hW4,H4⟩:=ZaY w 0 (0);rw[hW4];have h0:=H4.out.2.1;have h1:=H4.out.2.2;exact bodyPost_ret (v:=.agg #[.int .i64 0,.int .i64 (0)]) (by simp[results,Tryz.results98,go_sem,h0,h1]) rfl ⟨rfl,H4.out.1⟩
def Zov (n k s:Int):Prop:= ∀w,Calls Tryz.prog 98 #[.int .u64 n] w fun e w'=>e=.returned (.agg #[.int .i64 k,.int .i64 s])∧Only nob w w'
theorem Zg2 {n k s:Int} (hu:Zov n k s) (hw:Zd3 k s=n) (he:ZlQ k s=0) (w:World):Calls Tryz.prog 67 #[.int .u64 n] w fun e w'=>e=.returned (.tuple #[.agg #[.int .i64 k,.int .i64 s],.int .i64 0])∧Only nob w w':=by
 have HU:=ZZ hu;have HW:=ZZ hw;have HE:=ZZ he;obtain⟨W0,hW0,HB0⟩:=Zdj w;have HWE:=ZZ hW0;clear hu hw he hW0
 go_enter Tryz.func67,Tryz.ntmps67
 go_wp2_with fail
 rw[HWE.out];go_at_call 98;refine(HU.out _).mono ?_;rintro e w1 ⟨rfl,o⟩;have B1:=ZZ (HB0.out.2.keep o id);have O1:=ZZ (HB0.out.1.trans o);obtain⟨W2,hW2,HB2⟩:=ZaY w1 k s;have HW2:=ZZ hW2;clear o hW2
 go_wp2_with fail
 rw[HW2.out];go_at_call 58;refine(Zdm k s _).mono ?_;rw[HW.out,HE.out];rintro e w3 ⟨rfl,o⟩;have B3:=ZZ (B1.out.keep (HB2.out.1.trans o) id);have O3:=ZZ (O1.out.trans (HB2.out.1.trans o));have c0:=o.keeps HB2.out.2.1;have c1:=o.keeps HB2.out.2.2;have g0:w3.cell? ⟨w.heap.size,0,none⟩=some (.int .i64 0):=B3.out.cell 0;have g1:w3.cell? ⟨w.heap.size,1,none⟩=some (.int .i64 0):=B3.out.cell 1;have g2:=B3.out.free 0;have g3:=B3.out.free 1;clear o;go_wp2;obtain⟨W4,hW4,O4,h0,h1⟩:=Zcr O3.out (Yj _) B3.out (k) (s);rw[hW4];exact bodyPost_ret (v:=.tuple #[.agg #[.int .i64 k,.int .i64 s],.int .i64 0]) (by simp[results,Tryz.results67,go_sem,h0,h1]) rfl ⟨rfl,O4⟩
theorem Zob {n k s:Int} (hu:Zov n k s) (hw:Zd3 k s=0) (he:ZlQ k s=1) (w:World):Calls Tryz.prog 67 #[.int .u64 n] w fun e w'=>e=.returned (.tuple #[.agg #[.int .i64 0,.int .i64 0],.int .i64 3])∧Only nob w w':=by
 have HU:=ZZ hu;have HW:=ZZ hw;have HE:=ZZ he;obtain⟨W0,hW0,HB0⟩:=Zdj w;have HWE:=ZZ hW0;clear hu hw he hW0
 go_enter Tryz.func67,Tryz.ntmps67
 go_wp2_with fail
 rw[HWE.out];go_at_call 98;refine(HU.out _).mono ?_;rintro e w1 ⟨rfl,o⟩;have B1:=ZZ (HB0.out.2.keep o id);have O1:=ZZ (HB0.out.1.trans o);obtain⟨W2,hW2,HB2⟩:=ZaY w1 k s;have HW2:=ZZ hW2;clear o hW2
 go_wp2_with fail
 rw[HW2.out];go_at_call 58;refine(Zdm k s _).mono ?_;rw[HW.out,HE.out];rintro e w3 ⟨rfl,o⟩;have B3:=ZZ (B1.out.keep (HB2.out.1.trans o) id);have O3:=ZZ (O1.out.trans (HB2.out.1.trans o));have c0:=o.keeps HB2.out.2.1;have c1:=o.keeps HB2.out.2.2;have g0:w3.cell? ⟨w.heap.size,0,none⟩=some (.int .i64 0):=B3.out.cell 0;have g1:w3.cell? ⟨w.heap.size,1,none⟩=some (.int .i64 0):=B3.out.cell 1;have g2:=B3.out.free 0;have g3:=B3.out.free 1;clear o;go_wp2;obtain⟨W4,hW4,O4,h0,h1⟩:=Zcr O3.out (Yj _) B3.out (0) (0);rw[hW4];exact bodyPost_ret (v:=.tuple #[.agg #[.int .i64 0,.int .i64 0],.int .i64 3]) (by simp[results,Tryz.results67,go_sem,h0,h1]) rfl ⟨rfl,O4⟩
theorem Zp8 {n k s:Int} (hu:Zov n k s) {m:Int} (hw:Zd3 k s=m) (he:ZlQ k s=0) (hne:m≠n) (w:World):Calls Tryz.prog 67 #[.int .u64 n] w fun e w'=>e=.returned (.tuple #[.agg #[.int .i64 0,.int .i64 0],.int .i64 3])∧Only nob w w':=by
 have HU:=ZZ hu;have HW:=ZZ hw;have HE:=ZZ he;obtain⟨W0,hW0,HB0⟩:=Zdj w;have HWE:=ZZ hW0;clear hu hw he hW0
 go_enter Tryz.func67,Tryz.ntmps67
 go_wp2_with fail
 rw[HWE.out];go_at_call 98;refine(HU.out _).mono ?_;rintro e w1 ⟨rfl,o⟩;have B1:=ZZ (HB0.out.2.keep o id);have O1:=ZZ (HB0.out.1.trans o);obtain⟨W2,hW2,HB2⟩:=ZaY w1 k s;have HW2:=ZZ hW2;clear o hW2
 go_wp2_with fail
 rw[HW2.out];go_at_call 58;refine(Zdm k s _).mono ?_;rw[HW.out,HE.out];rintro e w3 ⟨rfl,o⟩;have B3:=ZZ (B1.out.keep (HB2.out.1.trans o) id);have O3:=ZZ (O1.out.trans (HB2.out.1.trans o));have c0:=o.keeps HB2.out.2.1;have c1:=o.keeps HB2.out.2.2;have g0:w3.cell? ⟨w.heap.size,0,none⟩=some (.int .i64 0):=B3.out.cell 0;have g1:w3.cell? ⟨w.heap.size,1,none⟩=some (.int .i64 0):=B3.out.cell 1;have g2:=B3.out.free 0;have g3:=B3.out.free 1;clear o;go_wp2;obtain⟨W4,hW4,O4,h0,h1⟩:=Zcr O3.out (Yj _) B3.out (0) (0);rw[hW4];exact bodyPost_ret (v:=.tuple #[.agg #[.int .i64 0,.int .i64 0],.int .i64 3]) (by simp[results,Tryz.results67,go_sem,h0,h1]) rfl ⟨rfl,O4⟩
theorem Zg9 {n:Int} (hn:0≤n∧n<18446744073709551616) (w:World):Calls Tryz.prog 67 #[.int .u64 n] w fun e w'=>e=.returned (.tuple #[.agg #[.int .i64 (dK n),.int .i64 (dX n)],.int .i64 (dE n)])∧Only nob w w':=by
 by_cases h0:n=0
 · subst h0
   rw[ZkE.1,ZkE.2.1,ZkE.2.2];exact Zg2 (fun w=>Zlm (by decide) (by decide) (by decide) w) rfl rfl w
 by_cases h1:n % 4=1
 · have hx:wrap64 n / 4=dX n:=by
    unfold wrap64 dX;rw[if_pos h1];split <;> omega
   have hk:dK n=1∧dE n=0:=by unfold dK dE;rw[if_pos h1,if_pos (.inr (.inl h1))];exact⟨rfl,rfl⟩
   have hm:Za2 1 (dX n)=true:=ZV (by rw[← hx];unfold wrap64;omega) (by rw[← hx];unfold wrap64;omega);rw[hk.1,hk.2];refine Zg2 (fun w=>hx▸ZoV hn h1 w) ?_ (Zfg hm) w;rw[ZcY hm, ← hx];show(4 * (wrap64 n / 4)+1) % _=_;unfold wrap64;omega
 by_cases h2:n % 4=2
 · by_cases h3:n / 4≤1099511627776
   · have hx:wrap64 n / 4=n / 4:=by unfold wrap64;omega
     have hm:Za2 2 (n / 4)=true:=ZV (by omega) h3;rw[(Zm9 h2 h3).1,(Zm9 h2 h3).2.1,(Zm9 h2 h3).2.2];refine Zg2 (fun w=>hx▸Zk9 hn h2 w) ?_ (Zfg hm) w;rw[ZcY hm];show(4 * (n / 4)+2) % _=_;omega
   · have hd:=ZnK h0 h1 fun h=>h3 h.2
     have hm:Za2 2 (wrap64 n / 4)=false:=by
      rcases hb:Za2 2 (wrap64 n / 4) with _|_
      · rfl
      · have:=ZF.1 hb;exfalso;unfold wrap64 at this;omega
     rw[hd.1,hd.2.1,hd.2.2];exact Zob (fun w=>Zk9 hn h2 w) (ZjK hm) (Zli hm) w
 · have hd:=ZnK h0 h1 fun h=>h2 h.1
   rw[hd.1,hd.2.1,hd.2.2];exact Zp8 (m:=0) (fun w=>Zlm hn h1 h2 w) rfl rfl (fun h=>h0 h.symm) w
end Go.Proofs.YtknoncenblehkaaGreatDoor
