/- Headers as words: plain words; the parts of a header's word; -/
import Derived.Test.YtknoncenblehkaaGreatDoorG03
import Derived.Test.YtknoncenblehkaaGreatDoorG04
import Derived.Test.YtknoncenblehkaaGreatDoorG05
import Derived.Test.YtknoncenblehkaaGreatDoorG02
import Derived.Deep.Cut
import Derived.Laws.StructEq
import Derived.MakeChecks
import Derived.Stop.LaidErr
set_option maxRecDepth 100000
set_option maxHeartbeats 32000000
set_option linter.unusedSimpArgs false
set_option linter.unusedVariables false
namespace Go.Proofs.YtknoncenblehkaaGreatDoor
section
open Go.RowKit
def pA:Nat→Nat|0=>0|1=>2|2=>3|3=>8|4=>24|_=>40
def pN:Nat→Nat|0=>2|1=>1|2=>5|3=>16|4=>16|_=>24
def pL:Nat→Int|0=>3|_=>0
def pU:Nat→Int|0=>3|1=>1|2=>31|3=>4096|4=>4096|_=>1048576
def parC:Array Value:=#[.int .i64 0,.int .i64 2,.int .i64 3,.int .i64 3,.int .i64 2,.int .i64 1,.int .i64 0,.int .i64 1,.int .i64 3,.int .i64 5,.int .i64 0,.int .i64 31,.int .i64 8,.int .i64 16,.int .i64 0,.int .i64 4096,.int .i64 24,.int .i64 16,.int .i64 0,.int .i64 4096,.int .i64 40,.int .i64 24,.int .i64 0,.int .i64 1048576]
def Par (w:World):Prop:= ∃t fr,w.heap[0]? =some (.cells parC t fr)
theorem Par.lt {w:World} (h:Par w):0<w.heap.size:=by
 obtain⟨t,fr,h⟩:=h;rcases Yp 0 w.heap.size with g|g
 · exact g
 · rw[Array.getElem?_eq_none g] at h;cases h
theorem Par.old {w w':World} (h:Par w) (o:Only nob w w'):Par w':=by
 obtain⟨t,fr,hh⟩:=h;exact⟨t,fr,(o.block _ (Par.lt ⟨t,fr,hh⟩) id).trans hh⟩
theorem ZbS {k:Nat} (h:k<6):k=0∨k=1∨k=2∨k=3∨k=4∨k=5:=by omega
theorem ZkN (k:Nat) (h:k<6): ∀w:World,(Instr.index 194 (.agg parC) (.int .i64 k)).run Tryz.prog w=.ok (.agg #[.int .i64 (pA k:Nat),.int .i64 (pN k:Nat),.int .i64 (pL k),.int .i64 (pU k)]) w:=by
 rcases ZbS h with rfl|rfl|rfl|rfl|rfl|rfl <;> exact fun _=>by kernel_rfl
theorem Zdn (k:Nat) (h:k<6):1≤pN k∧pA k+pN k≤64:=by
 rcases ZbS h with rfl|rfl|rfl|rfl|rfl|rfl <;> decide
theorem ZkL (k:Nat) (h:k<6) {x:Int} (hx:vin x (pL k) (pU k)=true):0≤x∧x.toNat≤on (pN k)∧x.toNat<2 ^ pN k:=by
 have hx':=ZM.1 hx
 rcases ZbS h with rfl|rfl|rfl|rfl|rfl|rfl <;> (simp only[pL,pU,pN,on] at hx' ⊢;omega)
def Zok (x0 x1 x2 x3 x4 x5:Int):Nat→Int|0=>x0|1=>x1|2=>x2|3=>x3|4=>x4|_=>x5
def ZbP (v:Nat→Int) (k:Nat):Prop:= ∀i,i<k→vin (v i) (pL i) (pU i)=true
theorem ZbP.zero (v:Nat→Int):ZbP v 0:=fun _ h=>absurd h (Nat.not_lt_zero _)
theorem ZbP.succ {v:Nat→Int} {k:Nat} (h:ZbP v k) (hk:vin (v k) (pL k) (pU k)=true):ZbP v (k+1):=fun i hi=>by
 rcases Yp i k with h'|h'
 · exact h i h'
 · obtain rfl:i=k:=by omega
   exact hk
def Zeb (v:Nat→Int):Nat→Nat
 |0=>0
 |k+1=>pt (Zeb v k) (pA k) (pN k) (v k).toNat
theorem Zm7 (v:Nat→Int) (k:Nat) (hk:k≤6) (h:ZbP v k):Zeb v k<full:=by
 induction k with
 |zero=>exact(by decide:(0:Nat)<full)
 |succ k ih=>exact Zpz _ _ _ _ (ih (by omega) fun i hi=>h i (by omega)) (ZkL k (by omega) (h k (by omega))).2.2 (Zdn k (by omega)).2
def hmay (k f r c:Int):Bool:=vin k 0 31&&(vin f 0 4096&&(vin r 0 4096&&vin c 0 1048576))
theorem ZF {k f r c:Int}:hmay k f r c=true↔(0≤k∧k≤31)∧(0≤f∧f≤4096)∧(0≤r∧r≤4096)∧0≤c∧c≤1048576:=by
 unfold hmay;rw[Bool.and_eq_true,Bool.and_eq_true,Bool.and_eq_true,ZM,ZM,ZM,ZM]
def bi (m:Bool):Int:=if m then 1 else 0
theorem Zl8 (m:Bool):0≤bi m∧bi m≤1:=by cases m <;> decide
def ZiF (k f r:Int) (m:Bool) (c:Int):Nat→Int:=Zok 3 (bi m) k f r c
theorem ZfX (k f r:Int) (m:Bool) (c:Int):ZbP (ZiF k f r m c) 6↔hmay k f r c=true:=by
 rw[ZF];constructor
 · intro h
   exact⟨ZM.1 (h 2 (by decide)),ZM.1 (h 3 (by decide)),ZM.1 (h 4 (by decide)),ZM.1 (h 5 (by decide))⟩
 · rintro⟨h1,h2,h3,h4⟩ i hi
   rcases ZbS hi with rfl|rfl|rfl|rfl|rfl|rfl
   · exact ZQ (Int.le_refl 3) (Int.le_refl 3)
   · exact ZQ (Zl8 m).1 (Zl8 m).2
   · exact ZQ h1.1 h1.2
   · exact ZQ h2.1 h2.2
   · exact ZQ h3.1 h3.2
   · exact ZQ h4.1 h4.2
def hW (k f r:Int) (m:Bool) (c:Int):Int:=c * 1099511627776+r * 16777216+f * 256+k * 8+3+4 * bi m
theorem ZdK (w a n x:Nat) (hw:w<2 ^ a):pt w a n x=w+2 ^ a * x:=by
 unfold pt;rw[Nat.mod_eq_of_lt hw,Nat.div_eq_of_lt (Yv hw (Nat.pow_le_pow_right (by decide) (Nat.le_add_right a n)))];simp
theorem ZnO {k f r c:Int} (m:Bool) (h:hmay k f r c=true):(Zeb (ZiF k f r m c) 6:Int)=hW k f r m c:=by
 have h':=ZF.1 h;have hb:=Zl8 m
 have e1:Zeb (ZiF k f r m c) 1=3:=(by decide:pt 0 0 2 3=3)
 have e2:Zeb (ZiF k f r m c) 2=3+4 * (bi m).toNat:=by
  show pt (Zeb (ZiF k f r m c) 1) 2 1 (bi m).toNat=_;rw[e1,ZdK _ _ _ _ (by decide)]
 have e3:Zeb (ZiF k f r m c) 3=3+4 * (bi m).toNat+8 * k.toNat:=by
  show pt (Zeb (ZiF k f r m c) 2) 3 5 k.toNat=_;rw[e2,ZdK _ _ _ _ (by omega)]
 have e4:Zeb (ZiF k f r m c) 4=3+4 * (bi m).toNat+8 * k.toNat+256 * f.toNat:=by
  show pt (Zeb (ZiF k f r m c) 3) 8 16 f.toNat=_;rw[e3,ZdK _ _ _ _ (by omega)]
 have e5:Zeb (ZiF k f r m c) 5=3+4 * (bi m).toNat+8 * k.toNat+256 * f.toNat+16777216 * r.toNat:=by
  show pt (Zeb (ZiF k f r m c) 4) 24 16 r.toNat=_;rw[e4,ZdK _ _ _ _ (by omega)]
 have e6:Zeb (ZiF k f r m c) 6=3+4 * (bi m).toNat+8 * k.toNat+256 * f.toNat+16777216 * r.toNat+1099511627776 * c.toNat:=by
  show pt (Zeb (ZiF k f r m c) 5) 40 24 c.toNat=_;rw[e5,ZdK _ _ _ _ (by omega)]
 rw[e6];unfold hW;omega
theorem Zbl (a n l u x:Int) (w:World):Calls Tryz.prog 131 #[.agg #[.int .i64 a,.int .i64 n,.int .i64 l,.int .i64 u],.int .i64 x] w fun e w'=>e=.returned (.bool (vin x l u))∧Only nob w w':=by
 by_cases h1:l≤x
 · by_cases h2:x≤u
   case' pos=>have HK:=ZZ (ZQ h1 h2)
   case' neg=>have HK:=ZZ (Zhn (l:=l) h2)
   all_goals
    go_enter Tryz.func131,Tryz.ntmps131
    go_wp2;go_ret;exact⟨Za (by rw[HK.out]),(Only.refl _ _).alloc _⟩
 · have HK:=ZZ (ZhB (m:=u) h1)
   go_enter Tryz.func131,Tryz.ntmps131
   go_wp2;go_ret;exact⟨Za (by rw[HK.out]),(Only.refl _ _).alloc _⟩
def ZpM (k f r:Int) (m:Bool) (c:Int):Value:=.agg #[.int .i64 3,.int .i64 (bi m),.int .i64 k,.int .i64 f,.int .i64 r,.int .i64 c]
theorem Zmq (w0 a n x:Nat) (w:World) (hw0:w0<full) (h1:1≤n) (h2:a+n≤64) (hx:x≤on n):
 Calls Tryz.prog 132 #[.int .u64 w0,.int .i64 a,.int .i64 n,.int .u64 x] w fun e w'=>e=.returned (.tuple #[.int .u64 (pt w0 a n x),.bool true])∧Only nob w w':=
 (Zn1 w0 a n x w hw0 h1 h2 hx).mono fun _ _ ⟨he,_,hm⟩=>⟨he,hm▸(Only.refl _ _).drewN _⟩
theorem Zlx (x a n:Nat) (w:World) (hx:x<full) (h1:1≤n) (h2:a+n≤64):
 Calls Tryz.prog 184 #[.int .u64 x,.int .i64 a,.int .i64 n] w fun e w'=>e=.returned (.tuple #[.int .u64 (gt x a n),.bool true])∧Only nob w w':=
 (Znl x a n w hx h1 h2).mono fun _ _ ⟨he,_,hm⟩=>⟨he,hm▸(Only.refl _ _).drewN _⟩
theorem ZgT (w:World) (x0 x1 x2 x3 x4 x5:Int): ∃W,w.alloc (.cells #[.int .i64 x0,.int .i64 x1,.int .i64 x2,.int .i64 x3,.int .i64 x4,.int .i64 x5] 150)=W∧
 Hid (Only nob w W∧ ∀k,k<6→W.cell? ⟨w.heap.size,k,none⟩=some (.int .i64 (Zok x0 x1 x2 x3 x4 x5 k))):=by
 refine⟨_,rfl,ZZ ⟨(Only.refl nob w).alloc _,fun k hk=>?_⟩⟩;rw[(Blk.new w 150 #[.int .i64 x0,.int .i64 x1,.int .i64 x2,.int .i64 x3,.int .i64 x4,.int .i64 x5]).cell k]
 rcases ZbS hk with rfl|rfl|rfl|rfl|rfl|rfl <;> rfl
theorem Zhr (w:World) (a n l u:Int): ∃W,w.alloc (.cells #[.int .i64 a,.int .i64 n,.int .i64 l,.int .i64 u] 193)=W∧
 Hid (Only nob w W∧W.cell? ⟨w.heap.size,0,none⟩=some (.int .i64 a)∧W.cell? ⟨w.heap.size,1,none⟩=some (.int .i64 n)∧W.cell? ⟨w.heap.size,2,none⟩=some (.int .i64 l)∧W.cell? ⟨w.heap.size,3,none⟩=some (.int .i64 u)):=by
 have B:=Blk.new w 193 #[.int .i64 a,.int .i64 n,.int .i64 l,.int .i64 u];exact⟨_,rfl,ZZ ⟨(Only.refl nob w).alloc _,B.cell 0,B.cell 1,B.cell 2,B.cell 3⟩⟩
def ZlD (v:Nat→Int) (w:World) (e:Ending) (w':World):Prop:=
 (ZbP v 6→e=.returned (.tuple #[.int .u64 (Zeb v 6:Nat),.bool true]))∧(¬ZbP v 6→e=.returned (.tuple #[.int .u64 0,.bool false]))∧Only nob w w'
theorem ZfP (x0 x1 x2 x3 x4 x5:Int) (w:World) (hp:Par w):
 Calls Tryz.prog 91 #[.agg #[.int .i64 x0,.int .i64 x1,.int .i64 x2,.int .i64 x3,.int .i64 x4,.int .i64 x5]] w (ZlD (Zok x0 x1 x2 x3 x4 x5) w):=by
 have mixed:Tryz.prog.follows .mixedOrders=true:=by kernel_rfl
 obtain⟨W,hW,HB⟩:=ZgT w x0 x1 x2 x3 x4 x5;obtain⟨t,fr,hP⟩:=hp.old (hW▸HB.out.1:Only nob w (w.alloc (.cells #[.int .i64 x0,.int .i64 x1,.int .i64 x2,.int .i64 x3,.int .i64 x4,.int .i64 x5] 150)));have HWE:=ZZ hW
 obtain⟨v,hv⟩: ∃v,Zok x0 x1 x2 x3 x4 x5=v:=⟨_,rfl⟩
 rw[hv] at HB ⊢;clear hW hp hv
 go_enter Tryz.func91,Tryz.ntmps91
 go_wp2_with (refine wpList_load_row rfl 194 _ rfl 0 rfl t parC fr _ hP Tryz.underlying194 rfl (by kernel_rfl) ?_)
 clear hP;rw[HWE.out]
 go_loopw [4,8] (fun u i wr=> ∃k:Nat,k≤6∧i=.int .i64 k∧u=.int .u64 (Zeb v k:Nat)∧ZbP v k∧Only nob W wr) (fun _ i _=>6 - (intOf i).toNat)
 case atStart=>exact⟨0,Yt _,rfl,rfl,ZbP.zero _,Only.refl _ _⟩
 case round=>
  obtain⟨k,hk,rfl,rfl,hM,hO⟩:=hrel;have HM:=ZZ hM;have HO:=ZZ hO;clear hM hO;by_cases hlt:k<6
  · obtain⟨W2,hW2,HB2⟩:=Zhr wr (pA k:Nat) (pN k:Nat) (pL k) (pU k)
    have HW2:=ZZ hW2;have hx:=ZkN k hlt;clear hW2
    obtain⟨y,hy⟩: ∃y,v k=y:=⟨_,rfl⟩
    have c0:=Zh HB2.out.2.1;have c1:=Zh HB2.out.2.2.1;have c2:=Zh HB2.out.2.2.2.1;have c3:=Zh HB2.out.2.2.2.2;have c4:=Zh (HB2.out.1.keeps (HO.out.keeps (hy▸HB.out.2 k hlt)));have HY:=ZZ hy;clear hy;by_cases hm:vin y (pL k) (pU k)=true
    · have HC:=ZZ (show ∀n os,Calls Tryz.prog 131 #[.agg #[.int .i64 (pA k:Nat),.int .i64 (pN k:Nat),.int .i64 (pL k),.int .i64 (pU k)],.int .i64 y] (wat W2 n os) fun e w'=>e=.returned (.bool true)∧Only nob (wat W2 n os) w' from fun n os=>hm▸Zbl _ _ _ _ _ _)
      go_wp2_with fail
      rw[HW2.out];refine Zm mixed (by kernel_rfl) ?_
      repeat (quiet_step ((go_at_call 131;with_reducible refine Zq (HC.out _ _))))
      refine wpQuiet_nil ?_;rintro w' ⟨⟨nq,osq⟩,rfl⟩;obtain⟨W3,hW3,O3⟩:=Zt W2 nq osq;rw[hW3];clear c0 c1 c2 c3 c4;obtain⟨y0,y1,y2⟩:=ZkL k hlt hm
      obtain⟨z,rfl⟩: ∃z:Nat,y=z:=⟨y.toNat,by omega⟩
      rw[Int.toNat_natCast] at y1 y2;have c0:=Zh (O3.out.keeps HB2.out.2.1);have c1:=Zh (O3.out.keeps HB2.out.2.2.1);have c4:=Zh (O3.out.keeps (HB2.out.1.keeps (HO.out.keeps (HY.out▸HB.out.2 k hlt))));have HF:=ZZ (Zdn k hlt);have HL:=ZZ (Zm7 v k hk HM.out);have HD:=ZZ (show ∀n os,Calls Tryz.prog 132 #[.int .u64 (Zeb v k:Nat),.int .i64 (pA k:Nat),.int .i64 (pN k:Nat),.int .u64 (z:Nat)] (wat W3 n os) fun e w'=>e=.returned (.tuple #[.int .u64 (pt (Zeb v k) (pA k) (pN k) z:Nat),.bool true])∧Only nob (wat W3 n os) w' from fun n os=>Zmq _ _ _ _ _ HL.out HF.out.1 HF.out.2 y1);have HZ:IntKind.u64.wrap (z:Int)=(z:Int):=ZnC z (Yv y2 (Zb0 (by have:=HF.out.2;omega)));clear y0 y1 y2
      go_wp2_with fail
      refine Zm mixed (by kernel_rfl) ?_
      repeat (quiet_step ((go_at_call 132;with_reducible refine Zq (HD.out _ _))))
      refine wpQuiet_nil ?_;rintro w' ⟨⟨nq2,osq2⟩,rfl⟩;obtain⟨W4,hW4,O4⟩:=Zt W3 nq2 osq2;rw[hW4];have HA:=ZZ (show Zeb v (k+1)=pt (Zeb v k) (pA k) (pN k) z by show pt _ _ _ (v k).toNat=_;rw[HY.out];rfl);clear c0 c1 c4 HZ;go_wp2
      go_roundw
      case rel=>exact⟨k+1,by omega,by go_num,by rw[HA.out],HM.out.succ (HY.out▸hm),HO.out.trans (HB2.out.1.trans (O3.out.trans O4.out))⟩
      case measure=>simp[intOf];omega
    · have hm':vin y (pL k) (pU k)=false:=by simpa using hm
      have HC:=ZZ (show ∀n os,Calls Tryz.prog 131 #[.agg #[.int .i64 (pA k:Nat),.int .i64 (pN k:Nat),.int .i64 (pL k),.int .i64 (pU k)],.int .i64 y] (wat W2 n os) fun e w'=>e=.returned (.bool false)∧Only nob (wat W2 n os) w' from fun n os=>hm'▸Zbl _ _ _ _ _ _);clear hm'
      go_wp2_with fail
      rw[HW2.out];refine Zm mixed (by kernel_rfl) ?_
      repeat (quiet_step ((go_at_call 131;with_reducible refine Zq (HC.out _ _))))
      refine wpQuiet_nil ?_;rintro w' ⟨⟨nq,osq⟩,rfl⟩;obtain⟨W3,hW3,O3⟩:=Zt W2 nq osq;rw[hW3];clear c0 c1 c2 c3 c4;go_wp2;go_ret2;exact⟨fun h=>absurd (HY.out▸h k hlt) hm,fun _=>rfl,HB.out.1.trans (HO.out.trans (HB2.out.1.trans O3.out))⟩
  · obtain rfl:k=6:=by omega
    go_wp2;go_ret2;exact⟨fun _=>rfl,fun h=>absurd HM.out h,HB.out.1.trans HO.out⟩
def un (n:Nat) (i:Nat):Int:=(gt n (pA i) (pN i):Nat)
def ucV (n k i:Nat):Int:=if i<k then un n i else 0
def ucC (n k:Nat):Array Value:=#[.int .i64 (ucV n k 0),.int .i64 (ucV n k 1),.int .i64 (ucV n k 2),.int .i64 (ucV n k 3),.int .i64 (ucV n k 4),.int .i64 (ucV n k 5)]
theorem Znz (n:Nat):ucC n 6=#[.int .i64 (un n 0),.int .i64 (un n 1),.int .i64 (un n 2),.int .i64 (un n 3),.int .i64 (un n 4),.int .i64 (un n 5)]:=rfl
theorem ucC_step (n k:Nat) (hk:k<6):(ucC n k).setIfInBounds k (.int .i64 (un n k))=ucC n (k+1):=by
 rcases ZbS hk with rfl|rfl|rfl|rfl|rfl|rfl <;> rfl
theorem ZoJ (n k:Nat) (hk:k<6):(ucC n (k+1))[k]? =some (.int .i64 (un n k)):=by
 rcases ZbS hk with rfl|rfl|rfl|rfl|rfl|rfl <;> rfl
theorem Znc (n k:Nat) (hk:k<6):(ucC n k)[k]? =some (.int .i64 0):=by
 rcases ZbS hk with rfl|rfl|rfl|rfl|rfl|rfl <;> rfl
theorem ZpD (n k:Nat) (hk:k<6):gt n (pA k) (pN k)<16777216:=by
 have h:=ZpG n (pA k) (pN k)
 have h2:2 ^ pN k≤16777216:=by rcases ZbS hk with rfl|rfl|rfl|rfl|rfl|rfl <;> decide
 omega
def ZiI (n:Nat) (w:World) (e:Ending) (w':World):Prop:=
 (ZbP (un n) 6→e=.returned (.tuple #[.agg #[.int .i64 (un n 0),.int .i64 (un n 1),.int .i64 (un n 2),.int .i64 (un n 3),.int .i64 (un n 4),.int .i64 (un n 5)],.bool true]))∧
 (¬ZbP (un n) 6→e=.returned (.tuple #[.agg #[.int .i64 0,.int .i64 0,.int .i64 0,.int .i64 0,.int .i64 0,.int .i64 0],.bool false]))∧Only nob w w'
theorem ZfU (w:World): ∃W,((w.alloc (.cells #[.int .i64 0,.int .i64 0,.int .i64 0,.int .i64 0,.int .i64 0,.int .i64 0] 150)).alloc (.cells #[.int .i64 0,.int .i64 0,.int .i64 0,.int .i64 0,.int .i64 0,.int .i64 0] 150))=W∧
 Hid (Only nob w W∧Blk W w.heap.size 150 #[.int .i64 0,.int .i64 0,.int .i64 0,.int .i64 0,.int .i64 0,.int .i64 0]∧Blk W (w.heap.size+1) 150 #[.int .i64 0,.int .i64 0,.int .i64 0,.int .i64 0,.int .i64 0,.int .i64 0]):=
 ⟨_,rfl,((Only.refl nob w).alloc _).alloc _,(Blk.newAt _ _ _ _ rfl).alloc _,Blk.newAt _ _ _ _ (by simp)⟩
theorem Zdz (n:Nat) (hn:n<full) (w:World) (hp:Par w):Calls Tryz.prog 164 #[.int .u64 n] w (ZiI n w):=by
 have mixed:Tryz.prog.follows .mixedOrders=true:=by kernel_rfl
 obtain⟨W,hW,HB⟩:=ZfU w;obtain⟨t,fr,hP⟩:=hp.old (hW▸HB.out.1:Only nob w ((w.alloc (.cells #[.int .i64 0,.int .i64 0,.int .i64 0,.int .i64 0,.int .i64 0,.int .i64 0] 150)).alloc (.cells #[.int .i64 0,.int .i64 0,.int .i64 0,.int .i64 0,.int .i64 0,.int .i64 0] 150)));have HWE:=ZZ hW;clear hW hp
 go_enter Tryz.func164,Tryz.ntmps164
 go_wp2_with (refine wpList_load_row rfl 194 _ rfl 0 rfl t parC fr _ hP Tryz.underlying194 rfl (by kernel_rfl) ?_)
 clear hP;rw[HWE.out]
 go_loopw [10] (fun i wr=> ∃k:Nat,k≤6∧i=.int .i64 k∧ZbP (un n) k∧Only nob w wr∧Blk wr w.heap.size 150 #[.int .i64 0,.int .i64 0,.int .i64 0,.int .i64 0,.int .i64 0,.int .i64 0]∧Blk wr (w.heap.size+1) 150 (ucC n k)) (fun i _=>6 - (intOf i).toNat)
 case atStart=>exact⟨0,Yt _,rfl,ZbP.zero _,HB.out⟩
 case round=>
  obtain⟨k,hk,rfl,hM,hO⟩:=hrel;have HM:=ZZ hM;have HO:=ZZ hO;clear hM hO;by_cases hlt:k<6
  · obtain⟨W2,hW2,HB2⟩:=Zhr wr (pA k:Nat) (pN k:Nat) (pL k) (pU k)
    have HW2:=ZZ hW2;have hx:=ZkN k hlt;clear hW2;obtain⟨-,c0,c1,c2,c3⟩:=HB2.out;have HF:=ZZ (Zdn k hlt)
    go_wp2_with fail
    rw[HW2.out];go_at_call 184;refine(Zlx n _ _ _ hn HF.out.1 HF.out.2).mono ?_;rintro e w3 ⟨rfl,o⟩;have O3:=ZZ (HB2.out.1.trans o);have OO:=ZZ o;clear o c0 c1 c2 c3;have hg:=ZpD n k hlt;have f0:=(HO.out.2.2.keep O3.out id).free k;have g0:=((HO.out.2.2.keep O3.out id).cell k).trans (Znc n k hlt);obtain⟨W4,hW4,HB4⟩:=Zn9 (HO.out.1.trans O3.out) (Nat.le_succ _) (HO.out.2.2.keep O3.out id) k (.int .i64 (gt n (pA k) (pN k):Nat));have HW4:=ZZ hW4
    obtain⟨y,hy⟩: ∃y,un n k=y:=⟨_,rfl⟩
    have HY:=ZZ hy;have HN:=ZZ (And.intro HB4.out.1 (And.intro (HB4.out.2.2.1 w.heap.size _ _ (by omega) (HO.out.2.1.keep O3.out id)) (show Blk W4 (w.heap.size+1) 150 (ucC n (k+1)) from ucC_step n k hlt▸HB4.out.2.1)))
    have HG:wr.heap.size≠w.heap.size+1:=by have:=HO.out.2.2.lt;omega
    have HP4:=ZZ (show W4.cell? ⟨wr.heap.size,0,none⟩=some (.int .i64 (pA k:Nat))∧W4.cell? ⟨wr.heap.size,1,none⟩=some (.int .i64 (pN k:Nat))∧W4.cell? ⟨wr.heap.size,2,none⟩=some (.int .i64 (pL k))∧W4.cell? ⟨wr.heap.size,3,none⟩=some (.int .i64 (pU k)) from⟨(HB4.out.2.2.2 _ HG).trans (OO.out.keeps HB2.out.2.1),(HB4.out.2.2.2 _ HG).trans (OO.out.keeps HB2.out.2.2.1),(HB4.out.2.2.2 _ HG).trans (OO.out.keeps HB2.out.2.2.2.1),(HB4.out.2.2.2 _ HG).trans (OO.out.keeps HB2.out.2.2.2.2)⟩);have c0:=Zh HP4.out.1;have c1:=Zh HP4.out.2.1;have c2:=Zh HP4.out.2.2.1;have c3:=Zh HP4.out.2.2.2;have c4:=Zh ((HN.out.2.2.cell k).trans ((ZoJ n k hlt).trans (by rw[hy])));clear hW4 hy HG;by_cases hm:vin y (pL k) (pU k)=true
    · have HC:=ZZ (show ∀n os,Calls Tryz.prog 131 #[.agg #[.int .i64 (pA k:Nat),.int .i64 (pN k:Nat),.int .i64 (pL k),.int .i64 (pU k)],.int .i64 y] (wat W4 n os) fun e w'=>e=.returned (.bool true)∧Only nob (wat W4 n os) w' from fun n os=>hm▸Zbl _ _ _ _ _ _)
      go_wp2_with fail
      rw[HW4.out];refine Zm mixed (by kernel_rfl) ?_
      repeat (quiet_step ((go_at_call 131;with_reducible refine Zq (HC.out _ _))))
      refine wpQuiet_nil ?_;rintro w' ⟨⟨nq,osq⟩,rfl⟩;obtain⟨W5,hW5,O5⟩:=Zt W4 nq osq;rw[hW5];clear c0 c1 c2 c3 c4 f0 g0;go_wp2
      go_roundw
      case rel=>exact⟨k+1,by omega,by go_num,HM.out.succ (HY.out▸hm),HN.out.1.trans O5.out,HN.out.2.1.keep O5.out id,HN.out.2.2.keep O5.out id⟩
      case measure=>simp[intOf];omega
    · have hm':vin y (pL k) (pU k)=false:=by simpa using hm
      have HC:=ZZ (show ∀n os,Calls Tryz.prog 131 #[.agg #[.int .i64 (pA k:Nat),.int .i64 (pN k:Nat),.int .i64 (pL k),.int .i64 (pU k)],.int .i64 y] (wat W4 n os) fun e w'=>e=.returned (.bool false)∧Only nob (wat W4 n os) w' from fun n os=>hm'▸Zbl _ _ _ _ _ _);clear hm'
      go_wp2_with fail
      rw[HW4.out];refine Zm mixed (by kernel_rfl) ?_
      repeat (quiet_step ((go_at_call 131;with_reducible refine Zq (HC.out _ _))))
      refine wpQuiet_nil ?_;rintro w' ⟨⟨nq,osq⟩,rfl⟩;obtain⟨W5,hW5,O5⟩:=Zt W4 nq osq;rw[hW5];clear c0 c1 c2 c3 c4 f0 g0;have B5:=HN.out.2.1.keep O5.out id;obtain⟨s0,s1,s2,s3,s4,s5⟩:=Zaq B5;obtain⟨r0,r1,r2,r3,r4,r5⟩:=ZeG B5;have HB5:=ZZ B5;clear B5;go_wp2;clear s0 s1 s2 s3 s4 s5 r0 r1 r2 r3 r4 r5;obtain⟨W6,hW6,O6,B6⟩:=Zga (HN.out.1.trans O5.out) (Yi _) HB5.out (.int .i64 0) (.int .i64 0) (.int .i64 0) (.int .i64 0) (.int .i64 0) (.int .i64 0)
      with_reducible rw[hW6]
      obtain⟨h0,h1,h2,h3,h4,h5⟩:=Zaq B6;exact bodyPost_ret (v:=.tuple #[.agg #[.int .i64 0,.int .i64 0,.int .i64 0,.int .i64 0,.int .i64 0,.int .i64 0],.bool false]) (by simp[results,Tryz.results164,go_sem,h0,h1,h2,h3,h4,h5]) rfl ⟨fun h=>absurd (HY.out▸h k hlt) hm,fun _=>rfl,O6⟩
  · obtain rfl:k=6:=by omega
    have B5:=HO.out.2.1;have B6:Blk wr (w.heap.size+1) 150 #[.int .i64 (un n 0),.int .i64 (un n 1),.int .i64 (un n 2),.int .i64 (un n 3),.int .i64 (un n 4),.int .i64 (un n 5)]:=Znz n▸HO.out.2.2;obtain⟨s0,s1,s2,s3,s4,s5⟩:=Zaq B5;obtain⟨r0,r1,r2,r3,r4,r5⟩:=ZeG B5;obtain⟨q0,q1,q2,q3,q4,q5⟩:=Zaq B6;have HB5:=ZZ B5;clear B5 B6;go_wp2;clear s0 s1 s2 s3 s4 s5 r0 r1 r2 r3 r4 r5 q0 q1 q2 q3 q4 q5;obtain⟨W6,hW6,O6,B6⟩:=Zga HO.out.1 (Yi _) HB5.out (.int .i64 (un n 0)) (.int .i64 (un n 1)) (.int .i64 (un n 2)) (.int .i64 (un n 3)) (.int .i64 (un n 4)) (.int .i64 (un n 5))
    with_reducible rw[hW6]
    obtain⟨h0,h1,h2,h3,h4,h5⟩:=Zaq B6;exact bodyPost_ret (v:=.tuple #[.agg #[.int .i64 (un n 0),.int .i64 (un n 1),.int .i64 (un n 2),.int .i64 (un n 3),.int .i64 (un n 4),.int .i64 (un n 5)],.bool true]) (by simp[results,Tryz.results164,go_sem,h0,h1,h2,h3,h4,h5]) rfl ⟨fun _=>rfl,fun h=>absurd HM.out h,O6⟩
theorem ZU (w:World) (k f r:Int) (m:Bool) (c:Int): ∃W,w.alloc (.cells #[.int .i64 k,.int .i64 f,.int .i64 r,.bool m,.int .i64 c] 108)=W∧Hid (Only nob w W∧Blk W w.heap.size 108 #[.int .i64 k,.int .i64 f,.int .i64 r,.bool m,.int .i64 c]):=
 ⟨_,rfl,ZZ ⟨(Only.refl nob w).alloc _,Blk.new w _ _⟩⟩
theorem ZpY:bi true=1:=rfl
theorem ZpZ:bi false=0:=rfl
theorem Zfi (w:World) (o:Obj) (x0 x1 x2 x3 x4 x5:Int): ∃W,(((w.alloc o).alloc (.cells #[.int .i64 0,.int .i64 0,.int .i64 0,.int .i64 0,.int .i64 0,.int .i64 0] 150)).alloc (.cells #[.int .i64 x0,.int .i64 x1,.int .i64 x2,.int .i64 x3,.int .i64 x4,.int .i64 x5] 150))=W∧
 Hid (Only nob w W∧Blk W (w.heap.size+1) 150 #[.int .i64 0,.int .i64 0,.int .i64 0,.int .i64 0,.int .i64 0,.int .i64 0]∧Blk W (w.heap.size+1+1) 150 #[.int .i64 x0,.int .i64 x1,.int .i64 x2,.int .i64 x3,.int .i64 x4,.int .i64 x5]):=
 ⟨_,rfl,(((Only.refl nob w).alloc _).alloc _).alloc _,(Blk.newAt _ _ _ _ (by simp)).alloc _,Blk.newAt _ _ _ _ (by simp)⟩
theorem Zcf (k f r:Int) (m:Bool) (c:Int) (w:World):Calls Tryz.prog 92 #[.agg #[.int .i64 k,.int .i64 f,.int .i64 r,.bool m,.int .i64 c]] w fun e w'=>e=.returned (ZpM k f r m c)∧Only nob w w':=by
 obtain⟨W,hW,HB⟩:=Zfi w (.cells #[.int .i64 k,.int .i64 f,.int .i64 r,.bool m,.int .i64 c] 108) 3 (bi m) k f r c;have HWE:=ZZ hW;obtain⟨s0,s1,s2,s3,s4,s5⟩:=Zaq HB.out.2.1;obtain⟨r0,r1,r2,r3,r4,r5⟩:=ZeG HB.out.2.1;obtain⟨q0,q1,q2,q3,q4,q5⟩:=Zaq HB.out.2.2;clear hW
 cases m
 · rw[ZpZ] at HWE q1
   go_enter Tryz.func92,Tryz.ntmps92
   go_upto_region 4 with fail
   rw[HWE.out];go_wp2;clear s0 s1 s2 s3 s4 s5 r0 r1 r2 r3 r4 r5 q0 q1 q2 q3 q4 q5;obtain⟨W6,hW6,O6,B6⟩:=Zga HB.out.1 (by omega) HB.out.2.1 (.int .i64 3) (.int .i64 0) (.int .i64 k) (.int .i64 f) (.int .i64 r) (.int .i64 c)
   with_reducible rw[hW6]
   obtain⟨h0,h1,h2,h3,h4,h5⟩:=Zaq B6;exact bodyPost_ret (v:=.agg #[.int .i64 3,.int .i64 0,.int .i64 k,.int .i64 f,.int .i64 r,.int .i64 c]) (by simp[results,Tryz.results92,go_sem,h0,h1,h2,h3,h4,h5]) rfl ⟨rfl,O6⟩
 · rw[ZpY] at HWE q1
   go_enter Tryz.func92,Tryz.ntmps92
   go_upto_region 4 with fail
   rw[HWE.out];go_wp2;clear s0 s1 s2 s3 s4 s5 r0 r1 r2 r3 r4 r5 q0 q1 q2 q3 q4 q5;obtain⟨W6,hW6,O6,B6⟩:=Zga HB.out.1 (by omega) HB.out.2.1 (.int .i64 3) (.int .i64 1) (.int .i64 k) (.int .i64 f) (.int .i64 r) (.int .i64 c)
   with_reducible rw[hW6]
   obtain⟨h0,h1,h2,h3,h4,h5⟩:=Zaq B6;exact bodyPost_ret (v:=.agg #[.int .i64 3,.int .i64 1,.int .i64 k,.int .i64 f,.int .i64 r,.int .i64 c]) (by simp[results,Tryz.results92,go_sem,h0,h1,h2,h3,h4,h5]) rfl ⟨rfl,O6⟩
theorem Zi1 (x0 x1 x2 x3 x4 x5:Int) (w:World):Calls Tryz.prog 165 #[.agg #[.int .i64 x0,.int .i64 x1,.int .i64 x2,.int .i64 x3,.int .i64 x4,.int .i64 x5]] w fun e w'=>e=.returned (.agg #[.int .i64 x2,.int .i64 x3,.int .i64 x4,.bool (x1==1),.int .i64 x5])∧Only nob w w':=by
 go_enter Tryz.func165,Tryz.ntmps165
 go_wp2;obtain⟨W4,hW4,H4⟩:=ZU (w.alloc (.cells #[.int .i64 x0,.int .i64 x1,.int .i64 x2,.int .i64 x3,.int .i64 x4,.int .i64 x5] 150)) x2 x3 x4 (x1==1) x5;rw[hW4];obtain⟨h0,h1,h2,h3,h4⟩:=Zz H4.out.2;have O4:=((Only.refl nob w).alloc _).trans H4.out.1;simp at h0 h1 h2 h3 h4;exact bodyPost_ret (v:=.agg #[.int .i64 x2,.int .i64 x3,.int .i64 x4,.bool (x1==1),.int .i64 x5]) (by simp[results,Tryz.results165,go_sem,h0,h1,h2,h3,h4]) rfl ⟨rfl,O4⟩
def hEW (k f r:Int) (m:Bool) (c:Int):Int:=if hmay k f r c then hW k f r m c else 0
def hEE (k f r c:Int):Int:=if hmay k f r c then 0 else 1
def hSz (k f r c:Int):Int:=if hmay k f r c then 1+f+r else 0
theorem ZgK {k f r c:Int} (m:Bool) (h:hmay k f r c=true):hEW k f r m c=hW k f r m c:=by unfold hEW;rw[h];rfl
theorem Zfg {k f r c:Int} (h:hmay k f r c=true):hEE k f r c=0:=by unfold hEE;rw[h];rfl
theorem ZeT {k f r c:Int} (h:hmay k f r c=true):hSz k f r c=1+f+r:=by unfold hSz;rw[h];rfl
theorem ZmI {k f r c:Int} (m:Bool) (h:hmay k f r c=false):hEW k f r m c=0:=by unfold hEW;rw[h];rfl
theorem ZmU {k f r c:Int} (h:hmay k f r c=false):hEE k f r c=1:=by unfold hEE;rw[h];rfl
theorem Zoy {k f r c:Int} (h:hmay k f r c=false):hSz k f r c=0:=by unfold hSz;rw[h];rfl
theorem ZhS {k f r:Int} (m:Bool) {c:Int} (h:hmay k f r c=true) (w:World) (hp:Par w):Calls Tryz.prog 91 #[ZpM k f r m c] w fun e w'=>e=.returned (.tuple #[.int .u64 (hW k f r m c),.bool true])∧Only nob w w':=
 (ZfP 3 (bi m) k f r c w hp).mono fun e w' ⟨h1,_,h3⟩=>⟨(h1 ((ZfX k f r m c).2 h)).trans (by rw[show((Zeb (Zok 3 (bi m) k f r c) 6:Nat):Int)=hW k f r m c from ZnO m h]),h3⟩
theorem Zj3 {k f r:Int} (m:Bool) {c:Int} (h:hmay k f r c=false) (w:World) (hp:Par w):Calls Tryz.prog 91 #[ZpM k f r m c] w fun e w'=>e=.returned (.tuple #[.int .u64 0,.bool false])∧Only nob w w':=
 (ZfP 3 (bi m) k f r c w hp).mono fun e w' ⟨_,h2,h3⟩=>⟨h2 (fun hm=>by rw[(ZfX k f r m c).1 hm] at h;cases h),h3⟩
theorem Zk9 (k f r:Int) (m:Bool) (c:Int) (w:World) (hp:Par w):Calls Tryz.prog 57 #[.agg #[.int .i64 k,.int .i64 f,.int .i64 r,.bool m,.int .i64 c]] w fun e w'=>e=.returned (.tuple #[.int .u64 (hEW k f r m c),.int .i64 (hEE k f r c)])∧Only nob w w':=by
 obtain⟨W,hW0,HB⟩:=ZU w k f r m c;have HWE:=ZZ hW0;have HP:=ZZ hp;obtain⟨c0,c1,c2,c3,c4⟩:=Zz HB.out.2;clear hW0 hp;rcases hm:hmay k f r c with _|_
 case' false=>
  rw[ZmI m hm,ZmU hm];have HC:=ZZ (fun w hp=>Zj3 m hm w hp)
 case' true=>
  rw[ZgK m hm,Zfg hm];have HC:=ZZ (fun w hp=>ZhS m hm w hp)
 all_goals
  clear hm
  go_enter Tryz.func57,Tryz.ntmps57
  go_wp2_with fail
  rw[HWE.out];go_at_call 92;refine(Zcf k f r m c _).mono ?_;rintro e w1 ⟨rfl,o⟩;have O1:=ZZ (HB.out.1.trans o);clear o c0 c1 c2 c3 c4
  go_wp2_with fail
  go_at_call 91;refine(HC.out _ (HP.out.old O1.out)).mono ?_;rintro e w2 ⟨rfl,o⟩;have O2:=ZZ (O1.out.trans o);clear o;go_wp2;go_ret2;exact⟨rfl,O2.out⟩
theorem ZaW (k f r:Int) (m:Bool) (c:Int) (w:World) (hp:Par w):Calls Tryz.prog 135 #[.agg #[.int .i64 k,.int .i64 f,.int .i64 r,.bool m,.int .i64 c]] w fun e w'=>e=.returned (.int .i64 (hSz k f r c))∧Only nob w w':=by
 obtain⟨W,hW0,HB⟩:=ZU w k f r m c;have HWE:=ZZ hW0;have HP:=ZZ hp;obtain⟨c0,c1,c2,c3,c4⟩:=Zz HB.out.2;clear hW0 hp;rcases hm:hmay k f r c with _|_
 case' false=>
  rw[Zoy hm];have HC:=ZZ (fun w hp=>Zj3 m hm w hp)
 case' true=>
  rw[ZeT hm];have HC:=ZZ (fun w hp=>ZhS m hm w hp);obtain⟨-,⟨b1,b2⟩,⟨b3,b4⟩, -⟩:=ZF.1 hm
 all_goals
  clear hm
  go_enter Tryz.func135,Tryz.ntmps135
  go_wp2_with fail
  rw[HWE.out];go_at_call 92;refine(Zcf k f r m c _).mono ?_;rintro e w1 ⟨rfl,o⟩;have O1:=ZZ (HB.out.1.trans o);have B1:=ZZ (HB.out.2.keep o id);clear o c0 c1 c2 c3 c4
  go_wp2_with fail
  go_at_call 91;refine(HC.out _ (HP.out.old O1.out)).mono ?_;rintro e w2 ⟨rfl,o⟩;have O2:=ZZ (O1.out.trans o);obtain⟨c0,c1,c2,c3,c4⟩:=Zz (B1.out.keep o id);clear o;go_wp2;go_ret;exact⟨rfl,O2.out⟩
def wK (n:Nat):Int:=(n / 8 % 32:Nat)
def wF (n:Nat):Int:=(n / 256 % 65536:Nat)
def wR (n:Nat):Int:=(n / 16777216 % 65536:Nat)
def wM (n:Nat):Bool:=n / 4 % 2==1
def wC (n:Nat):Int:=(n / 1099511627776:Nat)
def wOk (n:Nat):Bool:=n % 4==3&&hmay (wK n) (wF n) (wR n) (wC n)
theorem ZpX (n:Nat):un n 0=(n % 4:Nat):=by show((n / 2 ^ 0 % 2 ^ 2:Nat):Int)=_;simp
theorem ZpQ (n:Nat):un n 1=(n / 4 % 2:Nat):=rfl
theorem ZpK {n:Nat} (hn:n<full):un n 5=wC n:=by
 show((n / 1099511627776 % 16777216:Nat):Int)=((n / 1099511627776:Nat):Int);rw[Nat.mod_eq_of_lt (by unfold full at hn;omega)]
theorem Zpv (n:Nat):(un n 1==1)=wM n:=by
 rw[ZpQ];unfold wM;rw[Bool.eq_iff_iff];simp only[beq_iff_eq];omega
theorem Zha {n:Nat} (hn:n<full):ZbP (un n) 6↔wOk n=true:=by
 unfold wOk;rw[Bool.and_eq_true,beq_iff_eq,ZF];constructor
 · intro h
   have h0:=ZM.1 (h 0 (by decide));rw[ZpX] at h0;have h2:=ZM.1 (h 2 (by decide));have h3:=ZM.1 (h 3 (by decide));have h4:=ZM.1 (h 4 (by decide));have h5:=ZM.1 (h 5 (by decide));rw[ZpK hn] at h5;refine⟨?_,h2,h3,h4,h5⟩;simp only[pL,pU] at h0;omega
 · rintro⟨h0,h1,h2,h3,h4⟩ i hi
   rcases ZbS hi with rfl|rfl|rfl|rfl|rfl|rfl
   · rw[ZpX,h0];decide
   · rw[ZpQ];exact ZQ (by simp only[pL];omega) (by simp only[pU];omega)
   · exact ZQ h1.1 h1.2
   · exact ZQ h2.1 h2.2
   · exact ZQ h3.1 h3.2
   · rw[ZpK hn];exact ZQ h4.1 h4.2
theorem ZiD {n:Nat} (hn:n<full) (h:wOk n=true) (w:World) (hp:Par w):Calls Tryz.prog 164 #[.int .u64 n] w fun e w'=>e=.returned (.tuple #[.agg #[.int .i64 (un n 0),.int .i64 (un n 1),.int .i64 (wK n),.int .i64 (wF n),.int .i64 (wR n),.int .i64 (wC n)],.bool true])∧Only nob w w':=
 (Zdz n hn w hp).mono fun e w' ⟨h1,_,h3⟩=>⟨(h1 ((Zha hn).2 h)).trans (by rw[ZpK hn];rfl),h3⟩
theorem Zjg {n:Nat} (hn:n<full) (h:wOk n=false) (w:World) (hp:Par w):Calls Tryz.prog 164 #[.int .u64 n] w fun e w'=>e=.returned (.tuple #[.agg #[.int .i64 0,.int .i64 0,.int .i64 0,.int .i64 0,.int .i64 0,.int .i64 0],.bool false])∧Only nob w w':=
 (Zdz n hn w hp).mono fun e w' ⟨_,h2,h3⟩=>⟨h2 (fun hm=>by rw[(Zha hn).1 hm] at h;cases h),h3⟩
theorem Z0 (w:World): ∃W,w.alloc (.cells #[.int .i64 0,.int .i64 0,.int .i64 0,.bool false,.int .i64 0] 108)=W∧Hid (Only nob w W∧Blk W w.heap.size 108 #[.int .i64 0,.int .i64 0,.int .i64 0,.bool false,.int .i64 0]):=ZU w 0 0 0 false 0
theorem Zlp {n:Nat} (hn:n<full) (h:wOk n=true) (w:World) (hp:Par w):Calls Tryz.prog 134 #[.int .u64 n] w fun e w'=>e=.returned (.tuple #[.agg #[.int .i64 (wK n),.int .i64 (wF n),.int .i64 (wR n),.bool (wM n),.int .i64 (wC n)],.int .i64 0])∧Only nob w w':=by
 obtain⟨W,hW0,HB⟩:=Z0 w;have HWE:=ZZ hW0;have HP:=ZZ hp;have HC:=ZZ (fun w hp=>ZiD hn h w hp);have HM:=ZZ (Zpv n);clear hW0 hp h hn
 go_enter Tryz.func134,Tryz.ntmps134
 go_wp2_with fail
 rw[HWE.out];go_at_call 164;refine(HC.out _ (HP.out.old HB.out.1)).mono ?_;rintro e w1 ⟨rfl,o⟩;have O1:=ZZ (HB.out.1.trans o);have B1:=ZZ (HB.out.2.keep o id);clear o;obtain⟨W2,hW2,HB2⟩:=ZgT w1 (un n 0) (un n 1) (wK n) (wF n) (wR n) (wC n);have HW2:=ZZ hW2;clear hW2
 go_upto_region 4 with fail
 rw[HW2.out];have c0:=HB2.out.2 0 (by decide);have c1:=HB2.out.2 1 (by decide);have c2:=HB2.out.2 2 (by decide);have c3:=HB2.out.2 3 (by decide);have c4:=HB2.out.2 4 (by decide);have c5:=HB2.out.2 5 (by decide);simp only[Zok] at c0 c1 c2 c3 c4 c5
 go_wp2_with fail
 go_at_call 165;refine(Zi1 _ _ _ _ _ _ _).mono ?_;rw[HM.out];rintro e w3 ⟨rfl,o⟩;have O3:=ZZ (O1.out.trans (HB2.out.1.trans o));have B3:=ZZ (B1.out.keep (HB2.out.1.trans o) id);clear o c0 c1 c2 c3 c4 c5;obtain⟨s0,s1,s2,s3,s4⟩:=Zz B3.out;obtain⟨r0,r1,r2,r3,r4⟩:=ZcN B3.out;go_wp2;clear s0 s1 s2 s3 s4 r0 r1 r2 r3 r4;obtain⟨W6,hW6,O6,B6⟩:=Ze7 O3.out (Yi _) B3.out (.int .i64 (wK n)) (.int .i64 (wF n)) (.int .i64 (wR n)) (.bool (wM n)) (.int .i64 (wC n))
 with_reducible rw[hW6]
 obtain⟨h0,h1,h2,h3,h4⟩:=Zz B6;exact bodyPost_ret (v:=.tuple #[.agg #[.int .i64 (wK n),.int .i64 (wF n),.int .i64 (wR n),.bool (wM n),.int .i64 (wC n)],.int .i64 0]) (by simp[results,Tryz.results134,go_sem,h0,h1,h2,h3,h4]) rfl ⟨rfl,O6⟩
theorem Zog {n:Nat} (hn:n<full) (h:wOk n=false) (w:World) (hp:Par w):Calls Tryz.prog 134 #[.int .u64 n] w fun e w'=>e=.returned (.tuple #[.agg #[.int .i64 0,.int .i64 0,.int .i64 0,.bool false,.int .i64 0],.int .i64 3])∧Only nob w w':=by
 obtain⟨W,hW0,HB⟩:=Z0 w;have HWE:=ZZ hW0;have HP:=ZZ hp;have HC:=ZZ (fun w hp=>Zjg hn h w hp);clear hW0 hp h hn
 go_enter Tryz.func134,Tryz.ntmps134
 go_wp2_with fail
 rw[HWE.out];go_at_call 164;refine(HC.out _ (HP.out.old HB.out.1)).mono ?_;rintro e w1 ⟨rfl,o⟩;have O1:=ZZ (HB.out.1.trans o);have B1:=ZZ (HB.out.2.keep o id);clear o;obtain⟨W2,hW2,HB2⟩:=ZgT w1 0 0 0 0 0 0;have HW2:=ZZ hW2;clear hW2
 go_upto_region 3 with fail
 rw[HW2.out];have O3:=ZZ (O1.out.trans HB2.out.1);have B3:=ZZ (B1.out.keep HB2.out.1 id);obtain⟨s0,s1,s2,s3,s4⟩:=Zz B3.out;obtain⟨r0,r1,r2,r3,r4⟩:=ZcN B3.out;go_wp2;clear s0 s1 s2 s3 s4 r0 r1 r2 r3 r4;obtain⟨W6,hW6,O6,B6⟩:=Ze7 O3.out (Yi _) B3.out (.int .i64 0) (.int .i64 0) (.int .i64 0) (.bool false) (.int .i64 0)
 with_reducible rw[hW6]
 obtain⟨h0,h1,h2,h3,h4⟩:=Zz B6;exact bodyPost_ret (v:=.tuple #[.agg #[.int .i64 0,.int .i64 0,.int .i64 0,.bool false,.int .i64 0],.int .i64 3]) (by simp[results,Tryz.results134,go_sem,h0,h1,h2,h3,h4]) rfl ⟨rfl,O6⟩
theorem Zk7 {a b:Int} {y:Value} (h:a=b):Ending.returned (.tuple #[.int .u64 a,y])=.returned (.tuple #[.int .u64 b,y]):=by rw[h]
theorem ZbB {k f r c:Int} (h: ¬((0≤k∧k≤31)∧(0≤f∧f≤4096)∧(0≤r∧r≤4096)∧0≤c∧c≤1048576)):hmay k f r c=false:=by
 rcases hb:hmay k f r c with _|_
 · rfl
 · exact absurd (ZF.1 hb) h
theorem ZcX (k f r:Int) (m:Bool) (c:Int) (w:World):Calls Tryz.prog 94 #[.agg #[.int .i64 k,.int .i64 f,.int .i64 r,.bool m,.int .i64 c]] w fun e w'=>e=.returned (.bool (hmay k f r c))∧Only nob w w':=by
 by_cases h0:0≤k
 case neg=>
  have HM:=ZZ (show hmay k f r c=false from ZbB (by omega))
  go_enter Tryz.func94,Tryz.ntmps94
  go_wp2;go_ret;exact⟨Za (by rw[HM.out]),(Only.refl _ _).alloc _⟩
 by_cases h1:k≤31
 case neg=>
  have HM:=ZZ (show hmay k f r c=false from ZbB (by omega))
  go_enter Tryz.func94,Tryz.ntmps94
  go_wp2;go_ret;exact⟨Za (by rw[HM.out]),(Only.refl _ _).alloc _⟩
 by_cases h2:0≤f
 case neg=>
  have HM:=ZZ (show hmay k f r c=false from ZbB (by omega))
  go_enter Tryz.func94,Tryz.ntmps94
  go_wp2;go_ret;exact⟨Za (by rw[HM.out]),(Only.refl _ _).alloc _⟩
 by_cases h3:f≤4096
 case neg=>
  have HM:=ZZ (show hmay k f r c=false from ZbB (by omega))
  go_enter Tryz.func94,Tryz.ntmps94
  go_wp2;go_ret;exact⟨Za (by rw[HM.out]),(Only.refl _ _).alloc _⟩
 by_cases h4:0≤r
 case neg=>
  have HM:=ZZ (show hmay k f r c=false from ZbB (by omega))
  go_enter Tryz.func94,Tryz.ntmps94
  go_wp2;go_ret;exact⟨Za (by rw[HM.out]),(Only.refl _ _).alloc _⟩
 by_cases h5:r≤4096
 case neg=>
  have HM:=ZZ (show hmay k f r c=false from ZbB (by omega))
  go_enter Tryz.func94,Tryz.ntmps94
  go_wp2;go_ret;exact⟨Za (by rw[HM.out]),(Only.refl _ _).alloc _⟩
 by_cases h6:0≤c
 case neg=>
  have HM:=ZZ (show hmay k f r c=false from ZbB (by omega))
  go_enter Tryz.func94,Tryz.ntmps94
  go_wp2;go_ret;exact⟨Za (by rw[HM.out]),(Only.refl _ _).alloc _⟩
 by_cases h7:c≤1048576
 case neg=>
  have HM:=ZZ (show hmay k f r c=false from ZbB (by omega))
  go_enter Tryz.func94,Tryz.ntmps94
  go_wp2;go_ret;exact⟨Za (by rw[HM.out]),(Only.refl _ _).alloc _⟩
 have HM:=ZZ (show hmay k f r c=true from ZF.2 (by omega))
 go_enter Tryz.func94,Tryz.ntmps94
 go_wp2;go_ret;exact⟨Za (by rw[HM.out]),(Only.refl _ _).alloc _⟩
theorem ZfF (k f r:Int) (m:Bool) (c:Int) (w:World):Calls Tryz.prog 60 #[.agg #[.int .i64 k,.int .i64 f,.int .i64 r,.bool m,.int .i64 c]] w fun e w'=>e=.returned (.tuple #[.int .u64 (hEW k f r m c),.int .i64 (hEE k f r c)])∧Only nob w w':=by
 obtain⟨W,hW0,HB⟩:=ZU w k f r m c;have HWE:=ZZ hW0;obtain⟨c0,c1,c2,c3,c4⟩:=Zz HB.out.2;clear hW0;rcases hm:hmay k f r c with _|_
 · rw[ZmI m hm,ZmU hm]
   have HM:=ZZ hm;clear hm
   go_enter Tryz.func60,Tryz.ntmps60
   go_wp2_with fail
   rw[HWE.out];go_at_call 94;refine(ZcX k f r m c _).mono ?_;rw[HM.out];rintro e w1 ⟨rfl,o⟩;have O1:=ZZ (HB.out.1.trans o);clear o c0 c1 c2 c3 c4;go_wp2;go_ret2;exact⟨rfl,O1.out⟩
 · rw[ZgK m hm,Zfg hm]
   obtain⟨⟨b0,b1⟩,⟨b2,b3⟩,⟨b4,b5⟩,b6,b7⟩:=ZF.1 hm;have HM:=ZZ hm;clear hm
   cases m
   all_goals
    go_enter Tryz.func60,Tryz.ntmps60
    go_wp2_with fail
    rw[HWE.out];go_at_call 94;refine(ZcX k f r _ c _).mono ?_;rw[HM.out];rintro e w1 ⟨rfl,o⟩;have O1:=ZZ (HB.out.1.trans o);clear c0 c1 c2 c3 c4;obtain⟨c0,c1,c2,c3,c4⟩:=Zz (HB.out.2.keep o id);clear o;go_wp2;go_ret2;exact⟨by simp only[hW,ZpY,ZpZ];first|rfl|exact Zk7 (by omega),O1.out⟩
end
section
open Go.ChangeShapes Go.WideShapes Go.RowKit Go.Deep
section
variable {H:Type} {enc:TypeId×Value→H} {w:World} {base b0:Nat} {r:Reach} {sp:Nat→Bool} {held:Bool}
end
theorem Zgw {W:World} (h:laidMetH Tryz.prog [("triforium/head.parts",Rows.laid_triforium_head_parts)] W):Par W:=by
 rw[MakeChecks.laidMetH_plain _ _ _ (by kernel_rfl)] at h;obtain⟨ps,⟨g0,t0,cs0,f0,p0,q0,hg0,ht0,hv0,hd0,_,_⟩,_,_⟩:=h
 obtain rfl:=Yo ((show Tryz.prog.globalNamed "triforium/head.parts"=some 0 by kernel_rfl).symm.trans hg0)
 obtain rfl:=Yo ((show(Tryz.prog.globals[0]?).map (·.type)=some 194 by kernel_rfl).symm.trans ht0);have hcs:=Zfe (rows:=[[0,2,3,3],[2,1,0,1],[3,5,0,31],[8,16,0,4096],[24,16,0,4096],[40,24,0,1048576]]) Tryz.underlying194 Tryz.underlying193 (by kernel_rfl) (by kernel_rfl) (by kernel_rfl) (by kernel_rfl) hd0
 obtain⟨t,fr,hh⟩:=ZkQ (show Tryz.prog.globalNamed "triforium/head.parts"=some 0 by kernel_rfl) hv0
 have e:cs0=parC:=by
  obtain⟨l⟩:=cs0;simp only at hcs;rw[hcs];rfl
 rw[e] at hh;exact⟨t,fr,hh⟩
end
end Go.Proofs.YtknoncenblehkaaGreatDoor
