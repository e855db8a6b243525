/- Headers as words: plain words; the parts of a header's word; -/
import Derived.Test.YtknoncenblehkaaGreatDoorF01
import Derived.Test.YtknoncenblehkaaGreatDoorF02
import Derived.Test.YtknoncenblehkaaGreatDoorF03
import Derived.Deep.Cut
import Derived.Laws.StructEq
import Derived.MakeChecks
import Derived.Stop.LaidErr
set_option maxRecDepth 100000
set_option maxHeartbeats 32000000
set_option linter.unusedSimpArgs false
set_option linter.unusedVariables false
namespace Go.Proofs.YtknoncenblehkaaGreatDoor
section
open Go.RowKit
def pA:Nat→Nat|0=>0|1=>2|2=>3|3=>8|4=>24|_=>40
def pN:Nat→Nat|0=>2|1=>1|2=>5|3=>16|4=>16|_=>24
def pL:Nat→Int|0=>3|_=>0
def pU:Nat→Int|0=>3|1=>1|2=>31|3=>4096|4=>4096|_=>1048576
def parC:Array Value:=#[.int .i64 0,.int .i64 2,.int .i64 3,.int .i64 3,.int .i64 2,.int .i64 1,.int .i64 0,.int .i64 1,.int .i64 3,.int .i64 5,.int .i64 0,.int .i64 31,.int .i64 8,.int .i64 16,.int .i64 0,.int .i64 4096,.int .i64 24,.int .i64 16,.int .i64 0,.int .i64 4096,.int .i64 40,.int .i64 24,.int .i64 0,.int .i64 1048576]
def Par (w:World):Prop:= ∃t fr,w.heap[0]? =some (.cells parC t fr)
theorem Par.lt {w:World} (h:Par w):0<w.heap.size:=by
 obtain⟨t,fr,h⟩:=h;rcases Yq 0 w.heap.size with g|g
 · exact g
 · rw[Array.getElem?_eq_none g] at h;cases h
theorem Par.old {w w':World} (h:Par w) (o:Only nob w w'):Par w':=by
 obtain⟨t,fr,hh⟩:=h;exact⟨t,fr,(o.block _ (Par.lt ⟨t,fr,hh⟩) id).trans hh⟩
theorem Zcw {k:Nat} (h:k<6):k=0∨k=1∨k=2∨k=3∨k=4∨k=5:=by omega
theorem Zmi (k:Nat) (h:k<6): ∀w:World,(Instr.index 194 (.agg parC) (.int .i64 k)).run Tryz.prog w=.ok (.agg #[.int .i64 (pA k:Nat),.int .i64 (pN k:Nat),.int .i64 (pL k),.int .i64 (pU k)]) w:=by
 rcases Zcw h with rfl|rfl|rfl|rfl|rfl|rfl <;> exact fun _=>by kernel_rfl
theorem Zfg (k:Nat) (h:k<6):1≤pN k∧pA k+pN k≤64:=by
 rcases Zcw h with rfl|rfl|rfl|rfl|rfl|rfl <;> decide
theorem Zob (k:Nat) (h:k<6) {x:Int} (hx:vin x (pL k) (pU k)=true):0≤x∧x.toNat≤on (pN k)∧x.toNat<2 ^ pN k:=by
 have hx':=ZS.1 hx
 rcases Zcw h with rfl|rfl|rfl|rfl|rfl|rfl <;> (simp only[pL,pU,pN,on] at hx' ⊢;omega)
def Ztb (x0 x1 x2 x3 x4 x5:Int):Nat→Int|0=>x0|1=>x1|2=>x2|3=>x3|4=>x4|_=>x5
def Zcl (v:Nat→Int) (k:Nat):Prop:= ∀i,i<k→vin (v i) (pL i) (pU i)=true
theorem Zcl.zero (v:Nat→Int):Zcl v 0:=fun _ h=>absurd h (Nat.not_lt_zero _)
theorem Zcl.succ {v:Nat→Int} {k:Nat} (h:Zcl v k) (hk:vin (v k) (pL k) (pU k)=true):Zcl v (k+1):=fun i hi=>by
 rcases Yq i k with h'|h'
 · exact h i h'
 · obtain rfl:i=k:=by omega
   exact hk
def Zfu (v:Nat→Int):Nat→Nat
 |0=>0
 |k+1=>pt (Zfu v k) (pA k) (pN k) (v k).toNat
theorem Zr4 (v:Nat→Int) (k:Nat) (hk:k≤6) (h:Zcl v k):Zfu v k<full:=by
 induction k with
 |zero=>exact(by decide:(0:Nat)<full)
 |succ k ih=>exact ZuI _ _ _ _ (ih (by omega) fun i hi=>h i (by omega)) (Zob k (by omega) (h k (by omega))).2.2 (Zfg k (by omega)).2
def hmay (k f r c:Int):Bool:=vin k 0 31&&(vin f 0 4096&&(vin r 0 4096&&vin c 0 1048576))
theorem Z3 {k f r c:Int}:hmay k f r c=true↔(0≤k∧k≤31)∧(0≤f∧f≤4096)∧(0≤r∧r≤4096)∧0≤c∧c≤1048576:=by
 unfold hmay;rw[Bool.and_eq_true,Bool.and_eq_true,Bool.and_eq_true,ZS,ZS,ZS,ZS]
def bi (m:Bool):Int:=if m then 1 else 0
theorem Zpr (m:Bool):0≤bi m∧bi m≤1:=by cases m <;> decide
def ZlZ (k f r:Int) (m:Bool) (c:Int):Nat→Int:=Ztb 3 (bi m) k f r c
theorem ZhJ (k f r:Int) (m:Bool) (c:Int):Zcl (ZlZ k f r m c) 6↔hmay k f r c=true:=by
 rw[Z3];constructor
 · intro h
   exact⟨ZS.1 (h 2 (by decide)),ZS.1 (h 3 (by decide)),ZS.1 (h 4 (by decide)),ZS.1 (h 5 (by decide))⟩
 · rintro⟨h1,h2,h3,h4⟩ i hi
   rcases Zcw hi with rfl|rfl|rfl|rfl|rfl|rfl
   · exact Zag (Int.le_refl 3) (Int.le_refl 3)
   · exact Zag (Zpr m).1 (Zpr m).2
   · exact Zag h1.1 h1.2
   · exact Zag h2.1 h2.2
   · exact Zag h3.1 h3.2
   · exact Zag h4.1 h4.2
def hW (k f r:Int) (m:Bool) (c:Int):Int:=c * 1099511627776+r * 16777216+f * 256+k * 8+3+4 * bi m
theorem Ze3 (w a n x:Nat) (hw:w<2 ^ a):pt w a n x=w+2 ^ a * x:=by
 unfold pt;rw[Nat.mod_eq_of_lt hw,Nat.div_eq_of_lt (Yw hw (Nat.pow_le_pow_right (by decide) (Nat.le_add_right a n)))];simp
theorem Zse {k f r c:Int} (m:Bool) (h:hmay k f r c=true):(Zfu (ZlZ k f r m c) 6:Int)=hW k f r m c:=by
 have h':=Z3.1 h;have hb:=Zpr m
 have e1:Zfu (ZlZ k f r m c) 1=3:=(by decide:pt 0 0 2 3=3)
 have e2:Zfu (ZlZ k f r m c) 2=3+4 * (bi m).toNat:=by
  show pt (Zfu (ZlZ k f r m c) 1) 2 1 (bi m).toNat=_;rw[e1,Ze3 _ _ _ _ (by decide)]
 have e3:Zfu (ZlZ k f r m c) 3=3+4 * (bi m).toNat+8 * k.toNat:=by
  show pt (Zfu (ZlZ k f r m c) 2) 3 5 k.toNat=_;rw[e2,Ze3 _ _ _ _ (by omega)]
 have e4:Zfu (ZlZ k f r m c) 4=3+4 * (bi m).toNat+8 * k.toNat+256 * f.toNat:=by
  show pt (Zfu (ZlZ k f r m c) 3) 8 16 f.toNat=_;rw[e3,Ze3 _ _ _ _ (by omega)]
 have e5:Zfu (ZlZ k f r m c) 5=3+4 * (bi m).toNat+8 * k.toNat+256 * f.toNat+16777216 * r.toNat:=by
  show pt (Zfu (ZlZ k f r m c) 4) 24 16 r.toNat=_;rw[e4,Ze3 _ _ _ _ (by omega)]
 have e6:Zfu (ZlZ k f r m c) 6=3+4 * (bi m).toNat+8 * k.toNat+256 * f.toNat+16777216 * r.toNat+1099511627776 * c.toNat:=by
  show pt (Zfu (ZlZ k f r m c) 5) 40 24 c.toNat=_;rw[e5,Ze3 _ _ _ _ (by omega)]
 rw[e6];unfold hW;omega
theorem Zbt (a n l u x:Int) (w:World):Calls Tryz.prog 131 #[.agg #[.int .i64 a,.int .i64 n,.int .i64 l,.int .i64 u],.int .i64 x] w fun e w'=>e=.returned (.bool (vin x l u))∧Only nob w w':=by
 by_cases h1:l≤x
 · by_cases h2:x≤u
   case' pos=>have HK:=ZZ (Zag h1 h2)
   case' neg=>have HK:=ZZ (Zrb (l:=l) h2)
   all_goals
    go_enter Tryz.func131,Tryz.ntmps131
    go_wp2;go_ret;exact⟨Zb (by rw[HK.out]),(Only.refl _ _).alloc _⟩
 · have HK:=ZZ (ZqV (m:=u) h1)
   go_enter Tryz.func131,Tryz.ntmps131
   go_wp2;go_ret;exact⟨Zb (by rw[HK.out]),(Only.refl _ _).alloc _⟩
def ZuD (k f r:Int) (m:Bool) (c:Int):Value:=.agg #[.int .i64 3,.int .i64 (bi m),.int .i64 k,.int .i64 f,.int .i64 r,.int .i64 c]
theorem Zp6 (w0 a n x:Nat) (w:World) (hw0:w0<full) (h1:1≤n) (h2:a+n≤64) (hx:x≤on n):
 Calls Tryz.prog 132 #[.int .u64 w0,.int .i64 a,.int .i64 n,.int .u64 x] w fun e w'=>e=.returned (.tuple #[.int .u64 (pt w0 a n x),.bool true])∧Only nob w w':=
 (ZrR w0 a n x w hw0 h1 h2 hx).mono fun _ _ ⟨he,_,hm⟩=>⟨he,hm▸(Only.refl _ _).drewN _⟩
theorem Zqn (x a n:Nat) (w:World) (hx:x<full) (h1:1≤n) (h2:a+n≤64):
 Calls Tryz.prog 184 #[.int .u64 x,.int .i64 a,.int .i64 n] w fun e w'=>e=.returned (.tuple #[.int .u64 (gt x a n),.bool true])∧Only nob w w':=
 (ZrO x a n w hx h1 h2).mono fun _ _ ⟨he,_,hm⟩=>⟨he,hm▸(Only.refl _ _).drewN _⟩
theorem Zix (w:World) (x0 x1 x2 x3 x4 x5:Int): ∃W,w.alloc (.cells #[.int .i64 x0,.int .i64 x1,.int .i64 x2,.int .i64 x3,.int .i64 x4,.int .i64 x5] 150)=W∧
 Hid (Only nob w W∧ ∀k,k<6→W.cell? ⟨w.heap.size,k,none⟩=some (.int .i64 (Ztb x0 x1 x2 x3 x4 x5 k))):=by
 refine⟨_,rfl,ZZ ⟨(Only.refl nob w).alloc _,fun k hk=>?_⟩⟩;rw[(Blk.new w 150 #[.int .i64 x0,.int .i64 x1,.int .i64 x2,.int .i64 x3,.int .i64 x4,.int .i64 x5]).cell k]
 rcases Zcw hk with rfl|rfl|rfl|rfl|rfl|rfl <;> rfl
theorem ZjT (w:World) (a n l u:Int): ∃W,w.alloc (.cells #[.int .i64 a,.int .i64 n,.int .i64 l,.int .i64 u] 193)=W∧
 Hid (Only nob w W∧W.cell? ⟨w.heap.size,0,none⟩=some (.int .i64 a)∧W.cell? ⟨w.heap.size,1,none⟩=some (.int .i64 n)∧W.cell? ⟨w.heap.size,2,none⟩=some (.int .i64 l)∧W.cell? ⟨w.heap.size,3,none⟩=some (.int .i64 u)):=by
 have B:=Blk.new w 193 #[.int .i64 a,.int .i64 n,.int .i64 l,.int .i64 u];exact⟨_,rfl,ZZ ⟨(Only.refl nob w).alloc _,B.cell 0,B.cell 1,B.cell 2,B.cell 3⟩⟩
def Zpe (v:Nat→Int) (w:World) (e:Ending) (w':World):Prop:=
 (Zcl v 6→e=.returned (.tuple #[.int .u64 (Zfu v 6:Nat),.bool true]))∧(¬Zcl v 6→e=.returned (.tuple #[.int .u64 0,.bool false]))∧Only nob w w'
theorem ZhV (x0 x1 x2 x3 x4 x5:Int) (w:World) (hp:Par w):
 Calls Tryz.prog 91 #[.agg #[.int .i64 x0,.int .i64 x1,.int .i64 x2,.int .i64 x3,.int .i64 x4,.int .i64 x5]] w (Zpe (Ztb x0 x1 x2 x3 x4 x5) w):=by
 have mixed:Tryz.prog.follows .mixedOrders=true:=by kernel_rfl
 obtain⟨W,hW,HB⟩:=Zix w x0 x1 x2 x3 x4 x5;obtain⟨t,fr,hP⟩:=hp.old (hW▸HB.out.1:Only nob w (w.alloc (.cells #[.int .i64 x0,.int .i64 x1,.int .i64 x2,.int .i64 x3,.int .i64 x4,.int .i64 x5] 150)));have HWE:=ZZ hW
 obtain⟨v,hv⟩: ∃v,Ztb x0 x1 x2 x3 x4 x5=v:=⟨_,rfl⟩
 rw[hv] at HB ⊢;clear hW hp hv
 go_enter Tryz.func91,Tryz.ntmps91
 go_wp2_with (refine wpList_load_row rfl 194 _ rfl 0 rfl t parC fr _ hP Tryz.underlying194 rfl (by kernel_rfl) ?_)
 clear hP;rw[HWE.out]
 go_loopw [4,8] (fun u i wr=> ∃k:Nat,k≤6∧i=.int .i64 k∧u=.int .u64 (Zfu v k:Nat)∧Zcl v k∧Only nob W wr) (fun _ i _=>6 - (intOf i).toNat)
 case atStart=>exact⟨0,Yu _,rfl,rfl,Zcl.zero _,Only.refl _ _⟩
 case round=>
  obtain⟨k,hk,rfl,rfl,hM,hO⟩:=hrel;have HM:=ZZ hM;have HO:=ZZ hO;clear hM hO;by_cases hlt:k<6
  · obtain⟨W2,hW2,HB2⟩:=ZjT wr (pA k:Nat) (pN k:Nat) (pL k) (pU k)
    have HW2:=ZZ hW2;have hx:=Zmi k hlt;clear hW2
    obtain⟨y,hy⟩: ∃y,v k=y:=⟨_,rfl⟩
    have c0:=Zd HB2.out.2.1;have c1:=Zd HB2.out.2.2.1;have c2:=Zd HB2.out.2.2.2.1;have c3:=Zd HB2.out.2.2.2.2;have c4:=Zd (HB2.out.1.keeps (HO.out.keeps (hy▸HB.out.2 k hlt)));have HY:=ZZ hy;clear hy;by_cases hm:vin y (pL k) (pU k)=true
    · have HC:=ZZ (show ∀n os,Calls Tryz.prog 131 #[.agg #[.int .i64 (pA k:Nat),.int .i64 (pN k:Nat),.int .i64 (pL k),.int .i64 (pU k)],.int .i64 y] (wat W2 n os) fun e w'=>e=.returned (.bool true)∧Only nob (wat W2 n os) w' from fun n os=>hm▸Zbt _ _ _ _ _ _)
      go_wp2_with fail
      rw[HW2.out];refine Zm mixed (by kernel_rfl) ?_
      repeat (quiet_step ((go_at_call 131;with_reducible refine Zw (HC.out _ _))))
      refine wpQuiet_nil ?_;rintro w' ⟨⟨nq,osq⟩,rfl⟩;obtain⟨W3,hW3,O3⟩:=ZG W2 nq osq;rw[hW3];clear c0 c1 c2 c3 c4;obtain⟨y0,y1,y2⟩:=Zob k hlt hm
      obtain⟨z,rfl⟩: ∃z:Nat,y=z:=⟨y.toNat,by omega⟩
      rw[Int.toNat_natCast] at y1 y2;have c0:=Zd (O3.out.keeps HB2.out.2.1);have c1:=Zd (O3.out.keeps HB2.out.2.2.1);have c4:=Zd (O3.out.keeps (HB2.out.1.keeps (HO.out.keeps (HY.out▸HB.out.2 k hlt))));have HF:=ZZ (Zfg k hlt);have HL:=ZZ (Zr4 v k hk HM.out);have HD:=ZZ (show ∀n os,Calls Tryz.prog 132 #[.int .u64 (Zfu v k:Nat),.int .i64 (pA k:Nat),.int .i64 (pN k:Nat),.int .u64 (z:Nat)] (wat W3 n os) fun e w'=>e=.returned (.tuple #[.int .u64 (pt (Zfu v k) (pA k) (pN k) z:Nat),.bool true])∧Only nob (wat W3 n os) w' from fun n os=>Zp6 _ _ _ _ _ HL.out HF.out.1 HF.out.2 y1);have HZ:IntKind.u64.wrap (z:Int)=(z:Int):=ZrS z (Yw y2 (ZcH (by have:=HF.out.2;omega)));clear y0 y1 y2
      go_wp2_with fail
      refine Zm mixed (by kernel_rfl) ?_
      repeat (quiet_step ((go_at_call 132;with_reducible refine Zw (HD.out _ _))))
      refine wpQuiet_nil ?_;rintro w' ⟨⟨nq2,osq2⟩,rfl⟩;obtain⟨W4,hW4,O4⟩:=ZG W3 nq2 osq2;rw[hW4];have HA:=ZZ (show Zfu v (k+1)=pt (Zfu v k) (pA k) (pN k) z by show pt _ _ _ (v k).toNat=_;rw[HY.out];rfl);clear c0 c1 c4 HZ;go_wp2
      go_roundw
      case rel=>exact⟨k+1,by omega,by go_num,by rw[HA.out],HM.out.succ (HY.out▸hm),HO.out.trans (HB2.out.1.trans (O3.out.trans O4.out))⟩
      case measure=>simp[intOf];omega
    · have hm':vin y (pL k) (pU k)=false:=by simpa using hm
      have HC:=ZZ (show ∀n os,Calls Tryz.prog 131 #[.agg #[.int .i64 (pA k:Nat),.int .i64 (pN k:Nat),.int .i64 (pL k),.int .i64 (pU k)],.int .i64 y] (wat W2 n os) fun e w'=>e=.returned (.bool false)∧Only nob (wat W2 n os) w' from fun n os=>hm'▸Zbt _ _ _ _ _ _);clear hm'
      go_wp2_with fail
      rw[HW2.out];refine Zm mixed (by kernel_rfl) ?_
      repeat (quiet_step ((go_at_call 131;with_reducible refine Zw (HC.out _ _))))
      refine wpQuiet_nil ?_;rintro w' ⟨⟨nq,osq⟩,rfl⟩;obtain⟨W3,hW3,O3⟩:=ZG W2 nq osq;rw[hW3];clear c0 c1 c2 c3 c4;go_wp2;go_ret2;exact⟨fun h=>absurd (HY.out▸h k hlt) hm,fun _=>rfl,HB.out.1.trans (HO.out.trans (HB2.out.1.trans O3.out))⟩
  · obtain rfl:k=6:=by omega
    go_wp2;go_ret2;exact⟨fun _=>rfl,fun h=>absurd HM.out h,HB.out.1.trans HO.out⟩
def un (n:Nat) (i:Nat):Int:=(gt n (pA i) (pN i):Nat)
def ucV (n k i:Nat):Int:=if i<k then un n i else 0
def ucC (n k:Nat):Array Value:=#[.int .i64 (ucV n k 0),.int .i64 (ucV n k 1),.int .i64 (ucV n k 2),.int .i64 (ucV n k 3),.int .i64 (ucV n k 4),.int .i64 (ucV n k 5)]
theorem ZrC (n:Nat):ucC n 6=#[.int .i64 (un n 0),.int .i64 (un n 1),.int .i64 (un n 2),.int .i64 (un n 3),.int .i64 (un n 4),.int .i64 (un n 5)]:=rfl
theorem ucC_step (n k:Nat) (hk:k<6):(ucC n k).setIfInBounds k (.int .i64 (un n k))=ucC n (k+1):=by
 rcases Zcw hk with rfl|rfl|rfl|rfl|rfl|rfl <;> rfl
theorem Zt1 (n k:Nat) (hk:k<6):(ucC n (k+1))[k]? =some (.int .i64 (un n k)):=by
 rcases Zcw hk with rfl|rfl|rfl|rfl|rfl|rfl <;> rfl
theorem Zrm (n k:Nat) (hk:k<6):(ucC n k)[k]? =some (.int .i64 0):=by
 rcases Zcw hk with rfl|rfl|rfl|rfl|rfl|rfl <;> rfl
theorem ZuP (n k:Nat) (hk:k<6):gt n (pA k) (pN k)<16777216:=by
 have h:=ZuK n (pA k) (pN k)
 have h2:2 ^ pN k≤16777216:=by rcases Zcw hk with rfl|rfl|rfl|rfl|rfl|rfl <;> decide
 omega
def Zlr (n:Nat) (w:World) (e:Ending) (w':World):Prop:=
 (Zcl (un n) 6→e=.returned (.tuple #[.agg #[.int .i64 (un n 0),.int .i64 (un n 1),.int .i64 (un n 2),.int .i64 (un n 3),.int .i64 (un n 4),.int .i64 (un n 5)],.bool true]))∧
 (¬Zcl (un n) 6→e=.returned (.tuple #[.agg #[.int .i64 0,.int .i64 0,.int .i64 0,.int .i64 0,.int .i64 0,.int .i64 0],.bool false]))∧Only nob w w'
theorem ZhZ (w:World): ∃W,((w.alloc (.cells #[.int .i64 0,.int .i64 0,.int .i64 0,.int .i64 0,.int .i64 0,.int .i64 0] 150)).alloc (.cells #[.int .i64 0,.int .i64 0,.int .i64 0,.int .i64 0,.int .i64 0,.int .i64 0] 150))=W∧
 Hid (Only nob w W∧Blk W w.heap.size 150 #[.int .i64 0,.int .i64 0,.int .i64 0,.int .i64 0,.int .i64 0,.int .i64 0]∧Blk W (w.heap.size+1) 150 #[.int .i64 0,.int .i64 0,.int .i64 0,.int .i64 0,.int .i64 0,.int .i64 0]):=
 ⟨_,rfl,((Only.refl nob w).alloc _).alloc _,(Blk.newAt _ _ _ _ rfl).alloc _,Blk.newAt _ _ _ _ (by simp)⟩
theorem ZeT (n:Nat) (hn:n<full) (w:World) (hp:Par w):Calls Tryz.prog 164 #[.int .u64 n] w (Zlr n w):=by
 have mixed:Tryz.prog.follows .mixedOrders=true:=by kernel_rfl
 obtain⟨W,hW,HB⟩:=ZhZ w;obtain⟨t,fr,hP⟩:=hp.old (hW▸HB.out.1:Only nob w ((w.alloc (.cells #[.int .i64 0,.int .i64 0,.int .i64 0,.int .i64 0,.int .i64 0,.int .i64 0] 150)).alloc (.cells #[.int .i64 0,.int .i64 0,.int .i64 0,.int .i64 0,.int .i64 0,.int .i64 0] 150)));have HWE:=ZZ hW;clear hW hp
 go_enter Tryz.func164,Tryz.ntmps164
 go_wp2_with (refine wpList_load_row rfl 194 _ rfl 0 rfl t parC fr _ hP Tryz.underlying194 rfl (by kernel_rfl) ?_)
 clear hP;rw[HWE.out]
 go_loopw [10] (fun i wr=> ∃k:Nat,k≤6∧i=.int .i64 k∧Zcl (un n) k∧Only nob w wr∧Blk wr w.heap.size 150 #[.int .i64 0,.int .i64 0,.int .i64 0,.int .i64 0,.int .i64 0,.int .i64 0]∧Blk wr (w.heap.size+1) 150 (ucC n k)) (fun i _=>6 - (intOf i).toNat)
 case atStart=>exact⟨0,Yu _,rfl,Zcl.zero _,HB.out⟩
 case round=>
  obtain⟨k,hk,rfl,hM,hO⟩:=hrel;have HM:=ZZ hM;have HO:=ZZ hO;clear hM hO;by_cases hlt:k<6
  · obtain⟨W2,hW2,HB2⟩:=ZjT wr (pA k:Nat) (pN k:Nat) (pL k) (pU k)
    have HW2:=ZZ hW2;have hx:=Zmi k hlt;clear hW2;obtain⟨-,c0,c1,c2,c3⟩:=HB2.out;have HF:=ZZ (Zfg k hlt)
    go_wp2_with fail
    rw[HW2.out];go_at_call 184;refine(Zqn n _ _ _ hn HF.out.1 HF.out.2).mono ?_;rintro e w3 ⟨rfl,o⟩;have O3:=ZZ (HB2.out.1.trans o);have OO:=ZZ o;clear o c0 c1 c2 c3;have hg:=ZuP n k hlt;have f0:=(HO.out.2.2.keep O3.out id).free k;have g0:=((HO.out.2.2.keep O3.out id).cell k).trans (Zrm n k hlt);obtain⟨W4,hW4,HB4⟩:=Zrz (HO.out.1.trans O3.out) (Nat.le_succ _) (HO.out.2.2.keep O3.out id) k (.int .i64 (gt n (pA k) (pN k):Nat));have HW4:=ZZ hW4
    obtain⟨y,hy⟩: ∃y,un n k=y:=⟨_,rfl⟩
    have HY:=ZZ hy;have HN:=ZZ (And.intro HB4.out.1 (And.intro (HB4.out.2.2.1 w.heap.size _ _ (by omega) (HO.out.2.1.keep O3.out id)) (show Blk W4 (w.heap.size+1) 150 (ucC n (k+1)) from ucC_step n k hlt▸HB4.out.2.1)))
    have HG:wr.heap.size≠w.heap.size+1:=by have:=HO.out.2.2.lt;omega
    have HP4:=ZZ (show W4.cell? ⟨wr.heap.size,0,none⟩=some (.int .i64 (pA k:Nat))∧W4.cell? ⟨wr.heap.size,1,none⟩=some (.int .i64 (pN k:Nat))∧W4.cell? ⟨wr.heap.size,2,none⟩=some (.int .i64 (pL k))∧W4.cell? ⟨wr.heap.size,3,none⟩=some (.int .i64 (pU k)) from⟨(HB4.out.2.2.2 _ HG).trans (OO.out.keeps HB2.out.2.1),(HB4.out.2.2.2 _ HG).trans (OO.out.keeps HB2.out.2.2.1),(HB4.out.2.2.2 _ HG).trans (OO.out.keeps HB2.out.2.2.2.1),(HB4.out.2.2.2 _ HG).trans (OO.out.keeps HB2.out.2.2.2.2)⟩);have c0:=Zd HP4.out.1;have c1:=Zd HP4.out.2.1;have c2:=Zd HP4.out.2.2.1;have c3:=Zd HP4.out.2.2.2;have c4:=Zd ((HN.out.2.2.cell k).trans ((Zt1 n k hlt).trans (by rw[hy])));clear hW4 hy HG;by_cases hm:vin y (pL k) (pU k)=true
    · have HC:=ZZ (show ∀n os,Calls Tryz.prog 131 #[.agg #[.int .i64 (pA k:Nat),.int .i64 (pN k:Nat),.int .i64 (pL k),.int .i64 (pU k)],.int .i64 y] (wat W4 n os) fun e w'=>e=.returned (.bool true)∧Only nob (wat W4 n os) w' from fun n os=>hm▸Zbt _ _ _ _ _ _)
      go_wp2_with fail
      rw[HW4.out];refine Zm mixed (by kernel_rfl) ?_
      repeat (quiet_step ((go_at_call 131;with_reducible refine Zw (HC.out _ _))))
      refine wpQuiet_nil ?_;rintro w' ⟨⟨nq,osq⟩,rfl⟩;obtain⟨W5,hW5,O5⟩:=ZG W4 nq osq;rw[hW5];clear c0 c1 c2 c3 c4 f0 g0;go_wp2
      go_roundw
      case rel=>exact⟨k+1,by omega,by go_num,HM.out.succ (HY.out▸hm),HN.out.1.trans O5.out,HN.out.2.1.keep O5.out id,HN.out.2.2.keep O5.out id⟩
      case measure=>simp[intOf];omega
    · have hm':vin y (pL k) (pU k)=false:=by simpa using hm
      have HC:=ZZ (show ∀n os,Calls Tryz.prog 131 #[.agg #[.int .i64 (pA k:Nat),.int .i64 (pN k:Nat),.int .i64 (pL k),.int .i64 (pU k)],.int .i64 y] (wat W4 n os) fun e w'=>e=.returned (.bool false)∧Only nob (wat W4 n os) w' from fun n os=>hm'▸Zbt _ _ _ _ _ _);clear hm'
      go_wp2_with fail
      rw[HW4.out];refine Zm mixed (by kernel_rfl) ?_
      repeat (quiet_step ((go_at_call 131;with_reducible refine Zw (HC.out _ _))))
      refine wpQuiet_nil ?_;rintro w' ⟨⟨nq,osq⟩,rfl⟩;obtain⟨W5,hW5,O5⟩:=ZG W4 nq osq;rw[hW5];clear c0 c1 c2 c3 c4 f0 g0;have B5:=HN.out.2.1.keep O5.out id;obtain⟨s0,s1,s2,s3,s4,s5⟩:=ZaC B5;obtain⟨r0,r1,r2,r3,r4,r5⟩:=ZfH B5;have HB5:=ZZ B5;clear B5;go_wp2;clear s0 s1 s2 s3 s4 s5 r0 r1 r2 r3 r4 r5;obtain⟨W6,hW6,O6,B6⟩:=Zi4 (HN.out.1.trans O5.out) (Yj _) HB5.out (.int .i64 0) (.int .i64 0) (.int .i64 0) (.int .i64 0) (.int .i64 0) (.int .i64 0)
      with_reducible rw[hW6]
      obtain⟨h0,h1,h2,h3,h4,h5⟩:=ZaC B6;exact bodyPost_ret (v:=.tuple #[.agg #[.int .i64 0,.int .i64 0,.int .i64 0,.int .i64 0,.int .i64 0,.int .i64 0],.bool false]) (by simp[results,Tryz.results164,go_sem,h0,h1,h2,h3,h4,h5]) rfl ⟨fun h=>absurd (HY.out▸h k hlt) hm,fun _=>rfl,O6⟩
  · obtain rfl:k=6:=by omega
    have B5:=HO.out.2.1;have B6:Blk wr (w.heap.size+1) 150 #[.int .i64 (un n 0),.int .i64 (un n 1),.int .i64 (un n 2),.int .i64 (un n 3),.int .i64 (un n 4),.int .i64 (un n 5)]:=ZrC n▸HO.out.2.2;obtain⟨s0,s1,s2,s3,s4,s5⟩:=ZaC B5;obtain⟨r0,r1,r2,r3,r4,r5⟩:=ZfH B5;obtain⟨q0,q1,q2,q3,q4,q5⟩:=ZaC B6;have HB5:=ZZ B5;clear B5 B6;go_wp2;clear s0 s1 s2 s3 s4 s5 r0 r1 r2 r3 r4 r5 q0 q1 q2 q3 q4 q5;obtain⟨W6,hW6,O6,B6⟩:=Zi4 HO.out.1 (Yj _) HB5.out (.int .i64 (un n 0)) (.int .i64 (un n 1)) (.int .i64 (un n 2)) (.int .i64 (un n 3)) (.int .i64 (un n 4)) (.int .i64 (un n 5))
    with_reducible rw[hW6]
    obtain⟨h0,h1,h2,h3,h4,h5⟩:=ZaC B6;exact bodyPost_ret (v:=.tuple #[.agg #[.int .i64 (un n 0),.int .i64 (un n 1),.int .i64 (un n 2),.int .i64 (un n 3),.int .i64 (un n 4),.int .i64 (un n 5)],.bool true]) (by simp[results,Tryz.results164,go_sem,h0,h1,h2,h3,h4,h5]) rfl ⟨fun _=>rfl,fun h=>absurd HM.out h,O6⟩
theorem ZT (w:World) (k f r:Int) (m:Bool) (c:Int): ∃W,w.alloc (.cells #[.int .i64 k,.int .i64 f,.int .i64 r,.bool m,.int .i64 c] 108)=W∧Hid (Only nob w W∧Blk W w.heap.size 108 #[.int .i64 k,.int .i64 f,.int .i64 r,.bool m,.int .i64 c]):=
 ⟨_,rfl,ZZ ⟨(Only.refl nob w).alloc _,Blk.new w _ _⟩⟩
theorem Zvb:bi true=1:=rfl
theorem Zva:bi false=0:=rfl
theorem Zgv (w:World) (o:Obj) (x0 x1 x2 x3 x4 x5:Int): ∃W,(((w.alloc o).alloc (.cells #[.int .i64 0,.int .i64 0,.int .i64 0,.int .i64 0,.int .i64 0,.int .i64 0] 150)).alloc (.cells #[.int .i64 x0,.int .i64 x1,.int .i64 x2,.int .i64 x3,.int .i64 x4,.int .i64 x5] 150))=W∧
 Hid (Only nob w W∧Blk W (w.heap.size+1) 150 #[.int .i64 0,.int .i64 0,.int .i64 0,.int .i64 0,.int .i64 0,.int .i64 0]∧Blk W (w.heap.size+1+1) 150 #[.int .i64 x0,.int .i64 x1,.int .i64 x2,.int .i64 x3,.int .i64 x4,.int .i64 x5]):=
 ⟨_,rfl,(((Only.refl nob w).alloc _).alloc _).alloc _,(Blk.newAt _ _ _ _ (by simp)).alloc _,Blk.newAt _ _ _ _ (by simp)⟩
theorem ZcW (k f r:Int) (m:Bool) (c:Int) (w:World):Calls Tryz.prog 92 #[.agg #[.int .i64 k,.int .i64 f,.int .i64 r,.bool m,.int .i64 c]] w fun e w'=>e=.returned (ZuD k f r m c)∧Only nob w w':=by
 obtain⟨W,hW,HB⟩:=Zgv w (.cells #[.int .i64 k,.int .i64 f,.int .i64 r,.bool m,.int .i64 c] 108) 3 (bi m) k f r c;have HWE:=ZZ hW;obtain⟨s0,s1,s2,s3,s4,s5⟩:=ZaC HB.out.2.1;obtain⟨r0,r1,r2,r3,r4,r5⟩:=ZfH HB.out.2.1;obtain⟨q0,q1,q2,q3,q4,q5⟩:=ZaC HB.out.2.2;clear hW
 cases m
 · rw[Zva] at HWE q1
   go_enter Tryz.func92,Tryz.ntmps92
   go_upto_region 4 with fail
   rw[HWE.out];go_wp2;clear s0 s1 s2 s3 s4 s5 r0 r1 r2 r3 r4 r5 q0 q1 q2 q3 q4 q5;obtain⟨W6,hW6,O6,B6⟩:=Zi4 HB.out.1 (by omega) HB.out.2.1 (.int .i64 3) (.int .i64 0) (.int .i64 k) (.int .i64 f) (.int .i64 r) (.int .i64 c)
   with_reducible rw[hW6]
   obtain⟨h0,h1,h2,h3,h4,h5⟩:=ZaC B6;exact bodyPost_ret (v:=.agg #[.int .i64 3,.int .i64 0,.int .i64 k,.int .i64 f,.int .i64 r,.int .i64 c]) (by simp[results,Tryz.results92,go_sem,h0,h1,h2,h3,h4,h5]) rfl ⟨rfl,O6⟩
 · rw[Zvb] at HWE q1
   go_enter Tryz.func92,Tryz.ntmps92
   go_upto_region 4 with fail
   rw[HWE.out];go_wp2;clear s0 s1 s2 s3 s4 s5 r0 r1 r2 r3 r4 r5 q0 q1 q2 q3 q4 q5;obtain⟨W6,hW6,O6,B6⟩:=Zi4 HB.out.1 (by omega) HB.out.2.1 (.int .i64 3) (.int .i64 1) (.int .i64 k) (.int .i64 f) (.int .i64 r) (.int .i64 c)
   with_reducible rw[hW6]
   obtain⟨h0,h1,h2,h3,h4,h5⟩:=ZaC B6;exact bodyPost_ret (v:=.agg #[.int .i64 3,.int .i64 1,.int .i64 k,.int .i64 f,.int .i64 r,.int .i64 c]) (by simp[results,Tryz.results92,go_sem,h0,h1,h2,h3,h4,h5]) rfl ⟨rfl,O6⟩
theorem ZlF (x0 x1 x2 x3 x4 x5:Int) (w:World):Calls Tryz.prog 165 #[.agg #[.int .i64 x0,.int .i64 x1,.int .i64 x2,.int .i64 x3,.int .i64 x4,.int .i64 x5]] w fun e w'=>e=.returned (.agg #[.int .i64 x2,.int .i64 x3,.int .i64 x4,.bool (x1==1),.int .i64 x5])∧Only nob w w':=by
 go_enter Tryz.func165,Tryz.ntmps165
 go_wp2;obtain⟨W4,hW4,H4⟩:=ZT (w.alloc (.cells #[.int .i64 x0,.int .i64 x1,.int .i64 x2,.int .i64 x3,.int .i64 x4,.int .i64 x5] 150)) x2 x3 x4 (x1==1) x5;rw[hW4];obtain⟨h0,h1,h2,h3,h4⟩:=Zx H4.out.2;have O4:=((Only.refl nob w).alloc _).trans H4.out.1;simp at h0 h1 h2 h3 h4;exact bodyPost_ret (v:=.agg #[.int .i64 x2,.int .i64 x3,.int .i64 x4,.bool (x1==1),.int .i64 x5]) (by simp[results,Tryz.results165,go_sem,h0,h1,h2,h3,h4]) rfl ⟨rfl,O4⟩
def hEW (k f r:Int) (m:Bool) (c:Int):Int:=if hmay k f r c then hW k f r m c else 0
def hEE (k f r c:Int):Int:=if hmay k f r c then 0 else 1
def hSz (k f r c:Int):Int:=if hmay k f r c then 1+f+r else 0
theorem Zn8 {k f r c:Int} (m:Bool) (h:hmay k f r c=true):hEW k f r m c=hW k f r m c:=by unfold hEW;rw[h];rfl
theorem Zmt {k f r c:Int} (h:hmay k f r c=true):hEE k f r c=0:=by unfold hEE;rw[h];rfl
theorem ZeP {k f r c:Int} (h:hmay k f r c=true):hSz k f r c=1+f+r:=by unfold hSz;rw[h];rfl
theorem Zth {k f r c:Int} (m:Bool) (h:hmay k f r c=false):hEW k f r m c=0:=by unfold hEW;rw[h];rfl
theorem Ztn {k f r c:Int} (h:hmay k f r c=false):hEE k f r c=1:=by unfold hEE;rw[h];rfl
theorem Zui {k f r c:Int} (h:hmay k f r c=false):hSz k f r c=0:=by unfold hSz;rw[h];rfl
theorem Zj2 {k f r:Int} (m:Bool) {c:Int} (h:hmay k f r c=true) (w:World) (hp:Par w):Calls Tryz.prog 91 #[ZuD k f r m c] w fun e w'=>e=.returned (.tuple #[.int .u64 (hW k f r m c),.bool true])∧Only nob w w':=
 (ZhV 3 (bi m) k f r c w hp).mono fun e w' ⟨h1,_,h3⟩=>⟨(h1 ((ZhJ k f r m c).2 h)).trans (by rw[show((Zfu (Ztb 3 (bi m) k f r c) 6:Nat):Int)=hW k f r m c from Zse m h]),h3⟩
theorem Zm5 {k f r:Int} (m:Bool) {c:Int} (h:hmay k f r c=false) (w:World) (hp:Par w):Calls Tryz.prog 91 #[ZuD k f r m c] w fun e w'=>e=.returned (.tuple #[.int .u64 0,.bool false])∧Only nob w w':=
 (ZhV 3 (bi m) k f r c w hp).mono fun e w' ⟨_,h2,h3⟩=>⟨h2 (fun hm=>by rw[(ZhJ k f r m c).1 hm] at h;cases h),h3⟩
theorem ZoU (k f r:Int) (m:Bool) (c:Int) (w:World) (hp:Par w):Calls Tryz.prog 57 #[.agg #[.int .i64 k,.int .i64 f,.int .i64 r,.bool m,.int .i64 c]] w fun e w'=>e=.returned (.tuple #[.int .u64 (hEW k f r m c),.int .i64 (hEE k f r c)])∧Only nob w w':=by
 obtain⟨W,hW0,HB⟩:=ZT w k f r m c;have HWE:=ZZ hW0;have HP:=ZZ hp;obtain⟨c0,c1,c2,c3,c4⟩:=Zx HB.out.2;clear hW0 hp;rcases hm:hmay k f r c with _|_
 case' false=>
  rw[Zth m hm,Ztn hm];have HC:=ZZ (fun w hp=>Zm5 m hm w hp)
 case' true=>
  rw[Zn8 m hm,Zmt hm];have HC:=ZZ (fun w hp=>Zj2 m hm w hp)
 all_goals
  clear hm
  go_enter Tryz.func57,Tryz.ntmps57
  go_wp2_with fail
  rw[HWE.out];go_at_call 92;refine(ZcW k f r m c _).mono ?_;rintro e w1 ⟨rfl,o⟩;have O1:=ZZ (HB.out.1.trans o);clear o c0 c1 c2 c3 c4
  go_wp2_with fail
  go_at_call 91;refine(HC.out _ (HP.out.old O1.out)).mono ?_;rintro e w2 ⟨rfl,o⟩;have O2:=ZZ (O1.out.trans o);clear o;go_wp2;go_ret2;exact⟨rfl,O2.out⟩
theorem Za0 (k f r:Int) (m:Bool) (c:Int) (w:World) (hp:Par w):Calls Tryz.prog 135 #[.agg #[.int .i64 k,.int .i64 f,.int .i64 r,.bool m,.int .i64 c]] w fun e w'=>e=.returned (.int .i64 (hSz k f r c))∧Only nob w w':=by
 obtain⟨W,hW0,HB⟩:=ZT w k f r m c;have HWE:=ZZ hW0;have HP:=ZZ hp;obtain⟨c0,c1,c2,c3,c4⟩:=Zx HB.out.2;clear hW0 hp;rcases hm:hmay k f r c with _|_
 case' false=>
  rw[Zui hm];have HC:=ZZ (fun w hp=>Zm5 m hm w hp)
 case' true=>
  rw[ZeP hm];have HC:=ZZ (fun w hp=>Zj2 m hm w hp);obtain⟨-,⟨b1,b2⟩,⟨b3,b4⟩, -⟩:=Z3.1 hm
 all_goals
  clear hm
  go_enter Tryz.func135,Tryz.ntmps135
  go_wp2_with fail
  rw[HWE.out];go_at_call 92;refine(ZcW k f r m c _).mono ?_;rintro e w1 ⟨rfl,o⟩;have O1:=ZZ (HB.out.1.trans o);have B1:=ZZ (HB.out.2.keep o id);clear o c0 c1 c2 c3 c4
  go_wp2_with fail
  go_at_call 91;refine(HC.out _ (HP.out.old O1.out)).mono ?_;rintro e w2 ⟨rfl,o⟩;have O2:=ZZ (O1.out.trans o);obtain⟨c0,c1,c2,c3,c4⟩:=Zx (B1.out.keep o id);clear o;go_wp2;go_ret;exact⟨rfl,O2.out⟩
def wK (n:Nat):Int:=(n / 8 % 32:Nat)
def wF (n:Nat):Int:=(n / 256 % 65536:Nat)
def wR (n:Nat):Int:=(n / 16777216 % 65536:Nat)
def wM (n:Nat):Bool:=n / 4 % 2==1
def wC (n:Nat):Int:=(n / 1099511627776:Nat)
def wOk (n:Nat):Bool:=n % 4==3&&hmay (wK n) (wF n) (wR n) (wC n)
theorem Zu1 (n:Nat):un n 0=(n % 4:Nat):=by show((n / 2 ^ 0 % 2 ^ 2:Nat):Int)=_;simp
theorem Zu3 (n:Nat):un n 1=(n / 4 % 2:Nat):=rfl
theorem ZuO {n:Nat} (hn:n<full):un n 5=wC n:=by
 show((n / 1099511627776 % 16777216:Nat):Int)=((n / 1099511627776:Nat):Int);rw[Nat.mod_eq_of_lt (by unfold full at hn;omega)]
theorem ZuJ (n:Nat):(un n 1==1)=wM n:=by
 rw[Zu3];unfold wM;rw[Bool.eq_iff_iff];simp only[beq_iff_eq];omega
theorem ZjS {n:Nat} (hn:n<full):Zcl (un n) 6↔wOk n=true:=by
 unfold wOk;rw[Bool.and_eq_true,beq_iff_eq,Z3];constructor
 · intro h
   have h0:=ZS.1 (h 0 (by decide));rw[Zu1] at h0;have h2:=ZS.1 (h 2 (by decide));have h3:=ZS.1 (h 3 (by decide));have h4:=ZS.1 (h 4 (by decide));have h5:=ZS.1 (h 5 (by decide));rw[ZuO hn] at h5;refine⟨?_,h2,h3,h4,h5⟩;simp only[pL,pU] at h0;omega
 · rintro⟨h0,h1,h2,h3,h4⟩ i hi
   rcases Zcw hi with rfl|rfl|rfl|rfl|rfl|rfl
   · rw[Zu1,h0];decide
   · rw[Zu3];exact Zag (by simp only[pL];omega) (by simp only[pU];omega)
   · exact Zag h1.1 h1.2
   · exact Zag h2.1 h2.2
   · exact Zag h3.1 h3.2
   · rw[ZuO hn];exact Zag h4.1 h4.2
theorem Zk0 {n:Nat} (hn:n<full) (h:wOk n=true) (w:World) (hp:Par w):Calls Tryz.prog 164 #[.int .u64 n] w fun e w'=>e=.returned (.tuple #[.agg #[.int .i64 (un n 0),.int .i64 (un n 1),.int .i64 (wK n),.int .i64 (wF n),.int .i64 (wR n),.int .i64 (wC n)],.bool true])∧Only nob w w':=
 (ZeT n hn w hp).mono fun e w' ⟨h1,_,h3⟩=>⟨(h1 ((ZjS hn).2 h)).trans (by rw[ZuO hn];rfl),h3⟩
theorem ZoJ {n:Nat} (hn:n<full) (h:wOk n=false) (w:World) (hp:Par w):Calls Tryz.prog 164 #[.int .u64 n] w fun e w'=>e=.returned (.tuple #[.agg #[.int .i64 0,.int .i64 0,.int .i64 0,.int .i64 0,.int .i64 0,.int .i64 0],.bool false])∧Only nob w w':=
 (ZeT n hn w hp).mono fun e w' ⟨_,h2,h3⟩=>⟨h2 (fun hm=>by rw[(ZjS hn).1 hm] at h;cases h),h3⟩
def oK (n:Nat):Int:=if wOk n then wK n else 0
def oF (n:Nat):Int:=if wOk n then wF n else 0
def oR (n:Nat):Int:=if wOk n then wR n else 0
def oM (n:Nat):Bool:=wOk n&&wM n
def oC (n:Nat):Int:=if wOk n then wC n else 0
def oE (n:Nat):Int:=if wOk n then 0 else 3
theorem Zud {n:Nat} (h:wOk n=true):oK n=wK n∧oF n=wF n∧oR n=wR n∧oM n=wM n∧oC n=wC n∧oE n=0:=by
 unfold oK oF oR oM oC oE;rw[h];exact⟨rfl,rfl,rfl,rfl,rfl,rfl⟩
theorem Zu9 {n:Nat} (h:wOk n=false):oK n=0∧oF n=0∧oR n=0∧oM n=false∧oC n=0∧oE n=3:=by
 unfold oK oF oR oM oC oE;rw[h];exact⟨rfl,rfl,rfl,rfl,rfl,rfl⟩
theorem ZY (w:World): ∃W,w.alloc (.cells #[.int .i64 0,.int .i64 0,.int .i64 0,.bool false,.int .i64 0] 108)=W∧Hid (Only nob w W∧Blk W w.heap.size 108 #[.int .i64 0,.int .i64 0,.int .i64 0,.bool false,.int .i64 0]):=ZT w 0 0 0 false 0
theorem ZjY {n:Nat} (hn:n<full) (h:wOk n=true) (w:World) (hp:Par w):Calls Tryz.prog 134 #[.int .u64 n] w fun e w'=>e=.returned (.tuple #[.agg #[.int .i64 (wK n),.int .i64 (wF n),.int .i64 (wR n),.bool (wM n),.int .i64 (wC n)],.int .i64 0])∧Only nob w w':=by
 obtain⟨W,hW0,HB⟩:=ZY w;have HWE:=ZZ hW0;have HP:=ZZ hp;have HC:=ZZ (fun w hp=>Zk0 hn h w hp);have HM:=ZZ (ZuJ n);clear hW0 hp h hn
 go_enter Tryz.func134,Tryz.ntmps134
 go_wp2_with fail
 rw[HWE.out];go_at_call 164;refine(HC.out _ (HP.out.old HB.out.1)).mono ?_;rintro e w1 ⟨rfl,o⟩;have O1:=ZZ (HB.out.1.trans o);have B1:=ZZ (HB.out.2.keep o id);clear o;obtain⟨W2,hW2,HB2⟩:=Zix w1 (un n 0) (un n 1) (wK n) (wF n) (wR n) (wC n);have HW2:=ZZ hW2;clear hW2
 go_upto_region 4 with fail
 rw[HW2.out];have c0:=HB2.out.2 0 (by decide);have c1:=HB2.out.2 1 (by decide);have c2:=HB2.out.2 2 (by decide);have c3:=HB2.out.2 3 (by decide);have c4:=HB2.out.2 4 (by decide);have c5:=HB2.out.2 5 (by decide);simp only[Ztb] at c0 c1 c2 c3 c4 c5
 go_wp2_with fail
 go_at_call 165;refine(ZlF _ _ _ _ _ _ _).mono ?_;rw[HM.out];rintro e w3 ⟨rfl,o⟩;have O3:=ZZ (O1.out.trans (HB2.out.1.trans o));have B3:=ZZ (B1.out.keep (HB2.out.1.trans o) id);clear o c0 c1 c2 c3 c4 c5;obtain⟨s0,s1,s2,s3,s4⟩:=Zx B3.out;obtain⟨r0,r1,r2,r3,r4⟩:=ZcY B3.out;go_wp2;clear s0 s1 s2 s3 s4 r0 r1 r2 r3 r4;obtain⟨W6,hW6,O6,B6⟩:=Zfw O3.out (Yj _) B3.out (.int .i64 (wK n)) (.int .i64 (wF n)) (.int .i64 (wR n)) (.bool (wM n)) (.int .i64 (wC n))
 with_reducible rw[hW6]
 obtain⟨h0,h1,h2,h3,h4⟩:=Zx B6;exact bodyPost_ret (v:=.tuple #[.agg #[.int .i64 (wK n),.int .i64 (wF n),.int .i64 (wR n),.bool (wM n),.int .i64 (wC n)],.int .i64 0]) (by simp[results,Tryz.results134,go_sem,h0,h1,h2,h3,h4]) rfl ⟨rfl,O6⟩
theorem ZmO {n:Nat} (hn:n<full) (h:wOk n=false) (w:World) (hp:Par w):Calls Tryz.prog 134 #[.int .u64 n] w fun e w'=>e=.returned (.tuple #[.agg #[.int .i64 0,.int .i64 0,.int .i64 0,.bool false,.int .i64 0],.int .i64 3])∧Only nob w w':=by
 obtain⟨W,hW0,HB⟩:=ZY w;have HWE:=ZZ hW0;have HP:=ZZ hp;have HC:=ZZ (fun w hp=>ZoJ hn h w hp);clear hW0 hp h hn
 go_enter Tryz.func134,Tryz.ntmps134
 go_wp2_with fail
 rw[HWE.out];go_at_call 164;refine(HC.out _ (HP.out.old HB.out.1)).mono ?_;rintro e w1 ⟨rfl,o⟩;have O1:=ZZ (HB.out.1.trans o);have B1:=ZZ (HB.out.2.keep o id);clear o;obtain⟨W2,hW2,HB2⟩:=Zix w1 0 0 0 0 0 0;have HW2:=ZZ hW2;clear hW2
 go_upto_region 3 with fail
 rw[HW2.out];have O3:=ZZ (O1.out.trans HB2.out.1);have B3:=ZZ (B1.out.keep HB2.out.1 id);obtain⟨s0,s1,s2,s3,s4⟩:=Zx B3.out;obtain⟨r0,r1,r2,r3,r4⟩:=ZcY B3.out;go_wp2;clear s0 s1 s2 s3 s4 r0 r1 r2 r3 r4;obtain⟨W6,hW6,O6,B6⟩:=Zfw O3.out (Yj _) B3.out (.int .i64 0) (.int .i64 0) (.int .i64 0) (.bool false) (.int .i64 0)
 with_reducible rw[hW6]
 obtain⟨h0,h1,h2,h3,h4⟩:=Zx B6;exact bodyPost_ret (v:=.tuple #[.agg #[.int .i64 0,.int .i64 0,.int .i64 0,.bool false,.int .i64 0],.int .i64 3]) (by simp[results,Tryz.results134,go_sem,h0,h1,h2,h3,h4]) rfl ⟨rfl,O6⟩
theorem Zqc {n:Nat} (hn:n<full) (w:World) (hp:Par w):Calls Tryz.prog 134 #[.int .u64 n] w fun e w'=>e=.returned (.tuple #[.agg #[.int .i64 (oK n),.int .i64 (oF n),.int .i64 (oR n),.bool (oM n),.int .i64 (oC n)],.int .i64 (oE n)])∧Only nob w w':=by
 rcases h:wOk n with _|_
 · obtain⟨h1,h2,h3,h4,h5,h6⟩:=Zu9 h
   rw[h1,h2,h3,h4,h5,h6];exact ZmO hn h w hp
 · obtain⟨h1,h2,h3,h4,h5,h6⟩:=Zud h
   rw[h1,h2,h3,h4,h5,h6];exact ZjY hn h w hp
end
section
open Go.ChangeShapes Go.WideShapes Go.RowKit Go.Deep
section
variable {H:Type} {enc:TypeId×Value→H} {w:World} {base b0:Nat} {r:Reach} {sp:Nat→Bool} {held:Bool}
end
theorem Zi1 {W:World} (h:laidMetH Tryz.prog [("triforium/head.parts",Rows.laid_triforium_head_parts)] W):Par W:=by
 rw[MakeChecks.laidMetH_plain _ _ _ (by kernel_rfl)] at h;obtain⟨ps,⟨g0,t0,cs0,f0,p0,q0,hg0,ht0,hv0,hd0,_,_⟩,_,_⟩:=h
 obtain rfl:=Yp ((show Tryz.prog.globalNamed "triforium/head.parts"=some 0 by kernel_rfl).symm.trans hg0)
 obtain rfl:=Yp ((show(Tryz.prog.globals[0]?).map (·.type)=some 194 by kernel_rfl).symm.trans ht0);have hcs:=Zgx (rows:=[[0,2,3,3],[2,1,0,1],[3,5,0,31],[8,16,0,4096],[24,16,0,4096],[40,24,0,1048576]]) Tryz.underlying194 Tryz.underlying193 (by kernel_rfl) (by kernel_rfl) (by kernel_rfl) (by kernel_rfl) hd0
 obtain⟨t,fr,hh⟩:=Zni (show Tryz.prog.globalNamed "triforium/head.parts"=some 0 by kernel_rfl) hv0
 have e:cs0=parC:=by
  obtain⟨l⟩:=cs0;simp only at hcs;rw[hcs];rfl
 rw[e] at hh;exact⟨t,fr,hh⟩
end
end Go.Proofs.YtknoncenblehkaaGreatDoor
