/- Plain mathematics of the parts of a word (stage 1): no progr Contracts of package arena: what each call answers of an are -/
import Derived.Test.YtknoncenblehkaaGreatDoorRows
import Derived.Deep.QuietTactic
import Derived.BigQuiet
import Derived.Test.YtknoncenblehkaaGreatDoorG01
import Derived.Laws.MakeOwn
set_option maxRecDepth 100000
set_option maxHeartbeats 32000000
set_option linter.unusedSimpArgs false
set_option linter.unusedVariables false
namespace Go.Proofs.YtknoncenblehkaaGreatDoor
section
open Go.RowKit
theorem ZnC (a:Nat) (h:a<full):IntKind.u64.wrap (a:Int)=a:=by
 rw[IntKind.wrap_u64];unfold full at h;omega
theorem ZhN (n:Nat):((2:Int) ^ n)=((2 ^ n:Nat):Int):=by simp
theorem Zmj (n:Nat) (hn:n≤64):IntKind.u64.wrap (IntKind.u64.wrap ((2:Int) ^ n) - 1)=((2 ^ n - 1:Nat):Int):=by
 have hp:=Nat.two_pow_pos n;rw[ZhN,IntKind.wrap_u64,IntKind.wrap_u64];rcases Yp n 64 with h|h
 · have:=ZgL h;unfold full at this;omega
 · obtain rfl:n=64:=by omega
   decide
def on (n:Nat):Nat:=2 ^ n - 1
theorem ZoN (n:Nat) (hn:n≤64):IntKind.u64.wrap (IntKind.u64.wrap ((2:Int) ^ n) - 1)=(on n:Int):=Zmj n hn
theorem Zpt {x n:Nat}:x<2 ^ n↔x≤on n:=by have:=Nat.two_pow_pos n;unfold on;omega
def gt (w a n:Nat):Nat:=w / 2 ^ a % 2 ^ n
def pt (w a n x:Nat):Nat:=w % 2 ^ a+2 ^ a * (x+2 ^ n * (w / 2 ^ (a+n)))
theorem ZpG (w a n:Nat):gt w a n<2 ^ n:=Nat.mod_lt _ (Nat.two_pow_pos n)
theorem ZlQ (x n:Nat):x&&& (2 ^ n - 1)=x % 2 ^ n:=Nat.and_two_pow_sub_one_eq_mod x n
theorem Zl4 (w a n:Nat) (hw:w<full) (hn:n≤64):bits .and .u64 ((w:Int) / 2 ^ a) (on n:Int)=(gt w a n:Int):=by
 unfold on
 have e:((w:Int) / 2 ^ a)=((w / 2 ^ a:Nat):Int):=by simp
 have hd:w / 2 ^ a<full:=Nat.lt_of_le_of_lt (Nat.div_le_self _ _) hw;have hp:=Zb0 hn;have hq:=Nat.two_pow_pos n;rw[e,u64_and_nat _ _ hd (by unfold full at hp;omega),ZlQ];rfl
theorem ZeD (w a n x j:Nat) (hx:x<2 ^ n):(pt w a n x).testBit j=if j<a then w.testBit j else if j<a+n then x.testBit (j - a) else w.testBit j:=by
 unfold pt;rw[Nat.add_comm,Nat.testBit_two_pow_mul_add _ (Nat.mod_lt _ (Nat.two_pow_pos a))]
 split
 · rename_i h;rw[Nat.testBit_mod_two_pow];simp[h]
 · rename_i h
   rw[Nat.add_comm x,Nat.testBit_two_pow_mul_add _ hx];by_cases h2:j<a+n
   · rw[if_pos (by omega),if_pos h2]
   · rw[if_neg (by omega),if_neg h2,Nat.testBit_div_two_pow]
     congr 1;omega
theorem Zpz (w a n x:Nat) (hw:w<full) (hx:x<2 ^ n) (han:a+n≤64):pt w a n x<full:=by
 rw[ZdJ];apply Nat.lt_pow_two_of_testBit;intro i hi;rw[ZeD _ _ _ _ _ hx,if_neg (by omega),if_neg (by omega)];exact Nat.testBit_lt_two_pow (Yv (by rw[ZdJ] at hw;exact hw) (Nat.pow_le_pow_right (by decide) hi))
theorem Znf (w a n x:Nat) (hw:w<full) (hx:x<2 ^ n) (han:a+n≤64):
 (w&&& (full - 1 - (2 ^ n - 1) * 2 ^ a % full))|||(x * 2 ^ a % full)=pt w a n x:=by
 have hlt: ∀y,y<2 ^ n→y * 2 ^ a<full:=by
  intro y hy;have h1:y * 2 ^ a<2 ^ n * 2 ^ a:=Nat.mul_lt_mul_of_pos_right hy (Nat.two_pow_pos a);rw[← Nat.pow_add] at h1;exact Yv h1 (Zb0 (by omega))
 rw[Nat.mod_eq_of_lt (hlt x hx),Nat.mod_eq_of_lt (hlt _ (by have:=Nat.two_pow_pos n;omega))];apply Nat.eq_of_testBit_eq;intro j
 rw[ZeD _ _ _ _ _ hx,Nat.testBit_or,Nat.testBit_and,ZdJ,show 2 ^ 64 - 1 - (2 ^ n - 1) * 2 ^ a=2 ^ 64 - ((2 ^ n - 1) * 2 ^ a+1) by omega,
  Nat.testBit_two_pow_sub_succ (by rw[← ZdJ];exact hlt _ (by have:=Nat.two_pow_pos n;omega)),Nat.testBit_mul_two_pow,Nat.testBit_mul_two_pow,Nat.testBit_two_pow_sub_one]
 have hwj:64≤j→w.testBit j=false:=fun h=>Nat.testBit_lt_two_pow (Yv (by rw[ZdJ] at hw;exact hw) (Nat.pow_le_pow_right (by decide) h));have hxj:n≤j - a→x.testBit (j - a)=false:=fun h=>Nat.testBit_lt_two_pow (Yv hx (Nat.pow_le_pow_right (by decide) h));by_cases h1:j<a
 · have h64:j<64:=by omega
   simp[h1,h64,Nat.not_le.2 h1]
 · by_cases h2:j<a+n
   · have h64:j<64:=by omega
     have h3:j - a<n:=by omega
     simp[h1,h2,h64,h3,Nat.le_of_not_lt h1]
   · have h3: ¬j - a<n:=by omega
     rw[hxj (by omega)];by_cases h64:j<64
     · simp[h1,h2,h3,h64]
     · simp[h1,h2,h3,h64,hwj (by omega)]
theorem ZjU (x a:Nat):IntKind.u64.wrap ((x:Int) * 2 ^ a)=((x * 2 ^ a % full:Nat):Int):=by
 rw[ZhN, ← Int.natCast_mul,IntKind.wrap_u64];rfl
theorem Zmd (w a n x:Nat) (hw:w<full) (hx:x<2 ^ n) (han:a+n≤64):
 bits .or .u64 (bits .andNot .u64 (w:Int) (IntKind.u64.wrap ((on n:Int) * 2 ^ a))) (IntKind.u64.wrap ((x:Int) * 2 ^ a))=(pt w a n x:Int):=by
 have hf:0<full:=by decide
 have hA:on n * 2 ^ a % full<full:=Nat.mod_lt _ hf;have hB:x * 2 ^ a % full<full:=Nat.mod_lt _ hf;rw[ZjU,ZjU,u64_andNot_nat _ _ hw hA];have hl:w&&& (18446744073709551615 - on n * 2 ^ a % full)<full:=Nat.lt_of_le_of_lt Nat.and_le_left hw;rw[u64_or_nat _ _ hl hB]
 congr 1
 exact Znf w a n x hw hx han
theorem ZeF (a n:Int) (w:World) (ha: -9223372036854775808≤a) (ha':a≤9223372036854775807):
 Calls Tryz.prog 162 #[.int .i64 a,.int .i64 n] w fun e w'=>e=.returned (.bool (decide (0≤a∧1≤n∧n≤64 - a)))∧w=w':=by
 by_cases h1:0≤a <;> by_cases h2:1≤n <;> by_cases h3:n≤64 - a
 all_goals
  go_enter Tryz.func162,Tryz.ntmps162
  go_wp2;go_ret;simp[h1,h2,h3]
theorem Zff (n:Nat) (w:World) (hn:n≤64):
 Calls Tryz.prog 163 #[.int .i64 n] w fun e w'=>e=.returned (.int .u64 (on n))∧w=w':=by
 go_enter Tryz.func163,Tryz.ntmps163
 go_wp2;go_ret;exact⟨Znx (ZoN n hn),rfl⟩
theorem Znl (x a n:Nat) (w:World) (hx:x<full) (h1:1≤n) (h2:a+n≤64):
 Calls Tryz.prog 184 #[.int .u64 x,.int .i64 a,.int .i64 n] w fun e w'=>e=.returned (.tuple #[.int .u64 (gt x a n),.bool true])∧ ∃m,w'=w.drewN m:=by
 have hb:=ZZ (Zl4 x a n hx (by omega))
 have hd:decide (0≤(a:Int)∧1≤(n:Int)∧(n:Int)≤64 - a)=true:=by simp;omega
 have HD:=ZZ hd;clear hd
 go_enter Tryz.func184,Tryz.ntmps184
 go_wp2_with (go_at_call 162;refine(ZeF a n _ (by omega) (by omega)).mono ?_;rw[HD.out];rintro e w' ⟨rfl,rfl⟩)
 go_quiet ((go_at_call 163;exact Calls.quiet_of_same ((Zff n _ (by omega)).mono fun _ _ h=>⟨h.1,h.2.symm⟩)))
 go_wp2;go_ret2;exact⟨by rw[hb.out];rfl,_,rfl⟩
theorem Zn1 (w0 a n x:Nat) (w:World) (hw0:w0<full) (h1:1≤n) (h2:a+n≤64) (hx:x≤on n):
 Calls Tryz.prog 132 #[.int .u64 w0,.int .i64 a,.int .i64 n,.int .u64 x] w fun e w'=>e=.returned (.tuple #[.int .u64 (pt w0 a n x),.bool true])∧ ∃m,w'=w.drewN m:=by
 have hb:=ZZ (Zmd w0 a n x hw0 (Zpt.2 hx) h2)
 have hd:decide (0≤(a:Int)∧1≤(n:Int)∧(n:Int)≤64 - a)=true:=by simp;omega
 have HD:=ZZ hd
 have hx':(x:Int)≤(on n:Int):=by omega
 clear hd
 go_enter Tryz.func132,Tryz.ntmps132
 go_wp2_with (first
  |(go_at_call 162;refine(ZeF a n _ (by omega) (by omega)).mono ?_;rw[HD.out];rintro e w' ⟨rfl,rfl⟩)
  |(go_at_call 163;refine(Zff n _ (by omega)).mono ?_;rintro e w' ⟨rfl,rfl⟩))
 go_quiet ((go_at_call 163;exact Calls.quiet_of_same ((Zff n _ (by omega)).mono fun _ _ h=>⟨h.1,h.2.symm⟩)))
 go_wp2;go_ret2;exact⟨by rw[hb.out];rfl,_,rfl⟩
structure Ar (w:World) (b g:Nat) (l:List Nat):Prop where
 head:Blk w b 160 #[.bool true,.slice (some ⟨g,0,none⟩) l.length l.length]
 row:Blk w g 57 (u64s l).toArray
 few:l.length≤98304
 words:Zbt l
section
variable {w w':World} {b g:Nat} {l:List Nat} {F:Nat→Prop}
theorem Ar.keep (h:Ar w b g l) (ho:Only F w w') (hb: ¬F b) (hg: ¬F g):Ar w' b g l:=⟨h.head.keep ho hb,h.row.keep ho hg,h.few,h.words⟩
end
def chk (len:Nat) (at_ n:Int):Int:=if n<0 then 1 else if at_<0∨(len:Int) - at_<n then 2 else 0
theorem Zbu (b g:Nat) (l:List Nat) (w:World) (h:Ar w b g l):
 Calls Tryz.prog 167 #[.pointer (some ⟨b,0,none⟩)] w fun e w'=>e=.returned (.bool false)∧w=w':=by
 have h0:=h.head.cell 0;simp at h0;clear h
 go_enter Tryz.func167,Tryz.ntmps167
 go_wp2;go_ret;exact⟨rfl,rfl⟩
theorem ZpE {len:Nat} {a n:Int} (h:n<0):chk len a n=1:=by unfold chk;rw[if_pos h]
theorem Znw {len:Nat} {a n:Int} (h: ¬n<0) (k:a<0∨(len:Int) - a<n):chk len a n=2:=by unfold chk;rw[if_neg h,if_pos k]
theorem ZoP {len:Nat} {a n:Int} (h: ¬n<0) (k: ¬(a<0∨(len:Int) - a<n)):chk len a n=0:=by unfold chk;rw[if_neg h,if_neg k]
def ZnP (len:Nat) (a n:Int):Prop:=0≤n∧0≤a∧n≤(len:Int) - a
theorem ZoA {len:Nat} {a n:Int} (h:ZnP len a n):chk len a n=0:=ZoP (by unfold ZnP at h;omega) (by unfold ZnP at h;omega)
theorem Zhw (b g:Nat) (l:List Nat) (a n:Int) (w:World) (h:Ar w b g l) (ha:a≤9223372036854775807):
 Calls Tryz.prog 166 #[.pointer (some ⟨b,0,none⟩),.int .i64 a,.int .i64 n] w fun e w'=>e=.returned (.int .i64 (chk l.length a n))∧w=w':=by
 have h1:=h.head.cell 1;simp at h1;have hl:=h.few;by_cases hn:n<0
 · have HC:=ZZ (ZpE (len:=l.length) (a:=a) hn)
   go_enter Tryz.func166,Tryz.ntmps166
   go_wp2_with (go_at_call 167;refine(Zbu b g l _ h).mono ?_;rintro e w' ⟨rfl,rfl⟩)
   go_ret;exact⟨Zbf HC.out.symm,rfl⟩
 · by_cases h2:a<0
   · have HC:=ZZ (Znw (len:=l.length) (a:=a) hn (.inl h2))
     go_enter Tryz.func166,Tryz.ntmps166
     go_wp2_with (go_at_call 167;refine(Zbu b g l _ h).mono ?_;rintro e w' ⟨rfl,rfl⟩)
     go_ret;exact⟨Zbf HC.out.symm,rfl⟩
   · by_cases h3:(l.length:Int) - a<n
     · have HC:=ZZ (Znw (len:=l.length) (a:=a) hn (.inr h3))
       go_enter Tryz.func166,Tryz.ntmps166
       go_wp2_with (go_at_call 167;refine(Zbu b g l _ h).mono ?_;rintro e w' ⟨rfl,rfl⟩)
       go_ret;exact⟨Zbf HC.out.symm,rfl⟩
     · have HC:=ZZ (ZoP (len:=l.length) (a:=a) hn (by omega))
       go_enter Tryz.func166,Tryz.ntmps166
       go_wp2_with (go_at_call 167;refine(Zbu b g l _ h).mono ?_;rintro e w' ⟨rfl,rfl⟩)
       go_ret;exact⟨Zbf HC.out.symm,rfl⟩
theorem ZoE (b g:Nat) (l:List Nat) (w:World) (h:Ar w b g l):
 Calls Tryz.prog 137 #[.pointer (some ⟨b,0,none⟩)] w fun e w'=>e=.returned (.int .i64 (l.length:Nat))∧w=w':=by
 have h1:=h.head.cell 1;simp at h1
 go_enter Tryz.func137,Tryz.ntmps137
 go_wp2_with (go_at_call 167;refine(Zbu b g l _ h).mono ?_;rintro e w' ⟨rfl,rfl⟩)
 go_ret;exact⟨rfl,rfl⟩
theorem Zk4 (b g:Nat) (l:List Nat) (a:Nat) (w:World) (h:Ar w b g l) (ha:a<l.length):
 Calls Tryz.prog 136 #[.pointer (some ⟨b,0,none⟩),.int .i64 a] w fun e w'=>e=.returned (.tuple #[.int .u64 (wd l a:Nat),.int .i64 0])∧w=w':=by
 have h1:=h.head.cell 1;simp at h1;have hl:=h.few
 have hc:w.cell? ⟨g,a,none⟩=some (.int .u64 (wd l a:Nat)):=by rw[h.row.cell];simpa using ZnE l a ha
 have HK:=ZZ (ZoA (len:=l.length) (a:=a) (n:=1) ⟨by omega,by omega,by omega⟩)
 go_enter Tryz.func136,Tryz.ntmps136
 go_wp2_with (go_at_call 166;refine(Zhw b g l _ _ _ h (by omega)).mono ?_;rw[HK.out];rintro e w' ⟨rfl,rfl⟩)
 go_ret2;exact⟨rfl,rfl⟩
theorem Ziz (b g:Nat) (l:List Nat) (a:Int) (w:World) (h:Ar w b g l) (ha:a≤9223372036854775807) (hn: ¬(0≤a∧a<l.length)):
 Calls Tryz.prog 136 #[.pointer (some ⟨b,0,none⟩),.int .i64 a] w fun e w'=>e=.returned (.tuple #[.int .u64 0,.int .i64 2])∧w=w':=by
 have HK:=ZZ (Znw (len:=l.length) (a:=a) (n:=1) (by omega) (by omega))
 go_enter Tryz.func136,Tryz.ntmps136
 go_wp2_with (go_at_call 166;refine(Zhw b g l _ _ _ h (by omega)).mono ?_;rw[HK.out];rintro e w' ⟨rfl,rfl⟩)
 go_ret2;exact⟨rfl,rfl⟩
end
section
open Go.RowKit
theorem ZhP:(Tryz.prog.info? 57).map (fun i=>(i.zero,i.size,i.bytes))=some (some (.int .u64 0),1,8):=by kernel_rfl
theorem Zhh:(Tryz.prog.info? 57).map (·.size)=some 1:=by kernel_rfl
theorem Zfk (n:Nat) (hn:n≤17592186044416) (w:World):(Instr.makeSlice 30 (.int .i64 (n:Int)) (.int .i64 (n:Int))).run Tryz.prog w=.ok (.slice (some ⟨w.heap.size,0,none⟩) n n) (w.alloc (.cells (u64s (List.replicate n 0)).toArray 57)):=by
 obtain⟨i0,hi0,hz0,hz1,hz2⟩:=info_parts ZhP;have h:=run_make (P:=Tryz.prog) w 30 57 i0 _ Tryz.underlying30 hi0 hz0 .i64 .i64 n n (by omega) (Int.le_refl _) (by rw[hz2];omega) (by omega);rw[h];simp only[Int.toNat_natCast,hz1,Nat.mul_one]
 have e:madeCells (Value.int .u64 0).cells n=(u64s (List.replicate n 0)).toArray:=by
  apply Array.ext';show(madeCells #[.int .u64 0] n).toList=_;rw[toList_madeCells_one];simp[u64s]
 rw[e]
theorem ZkY (v:Value) (l:List Nat) (w:World) (h:Sl w w.heap.size 1 v l.length (u64s l)) (hn:l.length≤98304):
 Calls Tryz.prog 101 #[v] w fun e w'=> ∃g,e=.returned (.slice (some ⟨g,0,none⟩) l.length l.length)∧w.heap.size≤g∧Blk w' g 57 (u64s l).toArray∧Only nob w w':=by
 obtain⟨A,c,rfl,h1,h2,h3,h4⟩:=h;have hmk:=Zfk l.length (by omega)
 go_enter Tryz.func101,Tryz.ntmps101
 go_wp2_with (with_reducible refine Zc4 (o:=⟨some 9,_,_,_,_,_⟩) rfl (.tmp 7) (.tmp 8) _ _ rfl 57 Tryz.underlying30 Zhh (some ⟨w.heap.size,0,none⟩) A l.length l.length c rfl rfl w.heap.size 0 (u64s (List.replicate l.length 0)).toArray 57 ?c0 (u64s l) (ZV l) ?c1 ?c2 (ZhM l) ?c3)
 case c0=>exact Blk.new _ _ _
 case c1=>
  intro hp;obtain⟨b,o,e,hb,hc⟩:=h4 hp;exact⟨b,o,e,fun j v hv=>(World.cell?_alloc_lt w _ ⟨b,o+j,none⟩ hb).trans (hc j v hv)⟩
 case c2=>simp[ZV]
 case c3=>
  intro w1 H1 o1
  have hb:Blk w1 w.heap.size 57 (u64s l).toArray:=by
   have:=H1.out
   rw[Zdw,Zf7 _ _ (by simp)] at this;exact this
  have HB:=ZZ hb;clear hb H1 h4 hmk;go_wp2;go_ret;exact⟨_,rfl,Yi _,HB.out,(Only.refl nob w).alloc _|>.andThen o1 fun i hi e=>by unfold isb at e;omega⟩
theorem ZoU (v:Value) (l:List Nat) (w:World) (h:Sl w w.heap.size 1 v l.length (u64s l)) (hn:l.length≤98304) (hw:Zbt l):
 Calls Tryz.prog 70 #[v] w fun e w'=> ∃b g,e=.returned (.tuple #[.pointer (some ⟨b,0,none⟩),.int .i64 0])∧w.heap.size≤b∧w.heap.size≤g∧Ar w' b g l∧Only nob w w':=by
 have H:=ZZ h;obtain⟨A,c,rfl,h1,h2, -⟩:=h
 go_enter Tryz.func70,Tryz.ntmps70
 go_wp2_with fail
 refine(ZkY _ l _ H.out hn).mono ?_;rintro e w1 ⟨g,rfl,hg,hb,ho⟩;have HB:=ZZ hb;clear hb;go_wp2;go_ret2;have hb:=HB.out;exact⟨w1.heap.size,g,rfl,ho.size,hg,⟨Blk.new _ _ _,hb.alloc _,hn,hw⟩,ho.alloc _⟩
def Zkf (l:List Nat) (f n:Nat):List Nat:=(l.drop f).take n
theorem ZhH (l:List Nat) (f n:Nat) (h:f+n≤l.length):(Zkf l f n).length=n:=by simp[Zkf];omega
theorem Zh0 (l:List Nat) (f n k:Nat) (h:f+n≤l.length) (hk:k<n):(Zkf l f n)[k]? =some (wd l (f+k)):=by
 rw[Zmw l (f+k) (by omega)];simp[Zkf,hk,List.getElem?_drop,Ya (show f+k<l.length by omega)]
end
end Go.Proofs.YtknoncenblehkaaGreatDoor
