/- Objects in a row of words: what each call tells and leaves, -/
import Derived.Test.YtknoncenblehkaaGreatDoorG06
set_option maxRecDepth 100000
set_option maxHeartbeats 32000000
set_option linter.unusedSimpArgs false
set_option linter.unusedVariables false
namespace Go.Proofs.YtknoncenblehkaaGreatDoor
section
open Go.RowKit
theorem ZgB {n:Nat} (h:wOk n=true):hmay (wK n) (wF n) (wR n) (wC n)=true:=by
 unfold wOk at h;rw[Bool.and_eq_true] at h;exact h.2
theorem Zew {n:Nat} (h:wOk n=true):0≤wF n∧wF n≤4096∧0≤wR n∧wR n≤4096:=by
 have:=ZF.1 (ZgB h)
 omega
theorem Zps {k f r c:Int} (m:Bool) (h:hmay k f r c=true):0≤hW k f r m c∧hW k f r m c<18446744073709551616:=by
 have h1:=ZF.1 h;have h2:=Zl8 m;unfold hW;omega
structure Ob (l:List Nat) (a:Nat):Prop where
 there:a<l.length
 ok:wOk (wd l a)=true
 far:1+wF (wd l a)+wR (wd l a)≤(l.length:Int) - a
def ohE (l:List Nat) (a:Int):Int:=
 if 0≤a∧a<(l.length:Int) then(if wOk (wd l a.toNat)=true then(if 1+wF (wd l a.toNat)+wR (wd l a.toNat)≤(l.length:Int) - a then 0 else 2) else 3) else 2
def ohK (l:List Nat) (a:Int):Int:=if ohE l a=0 then wK (wd l a.toNat) else 0
def ohF (l:List Nat) (a:Int):Int:=if ohE l a=0 then wF (wd l a.toNat) else 0
def ohR (l:List Nat) (a:Int):Int:=if ohE l a=0 then wR (wd l a.toNat) else 0
def ohM (l:List Nat) (a:Int):Bool:=if ohE l a=0 then wM (wd l a.toNat) else false
def ohC (l:List Nat) (a:Int):Int:=if ohE l a=0 then wC (wd l a.toNat) else 0
section
variable {l:List Nat} {a:Int}
theorem ZfZ (h:ohE l a≠0):ohK l a=0∧ohF l a=0∧ohR l a=0∧ohM l a=false∧ohC l a=0:=by
 unfold ohK ohF ohR ohM ohC;simp[h]
theorem Zpf (h: ¬(0≤a∧a<(l.length:Int))):ohE l a=2:=by unfold ohE;rw[if_neg h]
theorem Zo6 (h:0≤a∧a<(l.length:Int)) (k:wOk (wd l a.toNat)=false):ohE l a=3:=by
 unfold ohE;rw[if_pos h,if_neg (by rw[k];decide)]
theorem ZoL (h:0≤a∧a<(l.length:Int)) (k:wOk (wd l a.toNat)=true) (hf: ¬1+wF (wd l a.toNat)+wR (wd l a.toNat)≤(l.length:Int) - a):ohE l a=2:=by
 unfold ohE;rw[if_pos h,if_pos k,if_neg hf]
theorem ZnQ {a:Nat} (h:Ob l a):ohE l a=0:=by
 unfold ohE;rw[if_pos ⟨by omega,by have:=h.there;omega⟩,Int.toNat_natCast,if_pos h.ok,if_pos h.far]
theorem Zkr {a:Nat} (h:Ob l a):ohE l a=0∧ohK l a=wK (wd l a)∧ohF l a=wF (wd l a)∧ohR l a=wR (wd l a)∧ohM l a=wM (wd l a)∧ohC l a=wC (wd l a):=by
 have h0:=ZnQ h;unfold ohK ohF ohR ohM ohC;rw[if_pos h0,if_pos h0,if_pos h0,if_pos h0,if_pos h0,Int.toNat_natCast];exact⟨h0,rfl,rfl,rfl,rfl,rfl⟩
theorem ZpH (h:ohE l a=0): ∃n:Nat,a=n∧Ob l n:=by
 unfold ohE at h
 split at h
 case isTrue h1=>
  split at h
  case isTrue h2=>
   split at h
   case isTrue h3=>exact⟨a.toNat,by omega,⟨by omega,h2,by omega⟩⟩
   case isFalse=>cases h
  case isFalse=>cases h
 case isFalse=>cases h
theorem Zcg (h:ohE l a=0):0≤ohF l a∧0≤ohR l a∧0≤a∧a+1+ohF l a+ohR l a≤(l.length:Int)∧ohF l a≤4096∧ohR l a≤4096∧hmay (ohK l a) (ohF l a) (ohR l a) (ohC l a)=true:=by
 obtain⟨n,rfl,ho⟩:=ZpH h;obtain⟨-,h1,h2,h3, -,h4⟩:=Zkr ho;rw[h1,h2,h3,h4]
 have:=Zew ho.ok
 have:=ho.far
 exact⟨by omega,by omega,by omega,by omega,by omega,by omega,ZgB ho.ok⟩
end
section
variable {raw:Bool} {l:List Nat} {a i:Int}
end
end
section
open Go.RowKit
theorem ZkI (b g:Nat) (l:List Nat) (a:Int) (w:World) (h:Ar w b g l) (ha:a≤9223372036854775807) (hn: ¬(0≤a∧a<(l.length:Int))):
 Calls Tryz.prog 100 #[.pointer (some ⟨b,0,none⟩),.int .i64 a] w fun e w'=>e=.returned (.tuple #[.agg #[.int .i64 0,.int .i64 0,.int .i64 0,.bool false,.int .i64 0],.int .i64 2])∧Only nob w w':=by
 obtain⟨W,hW0,HB⟩:=Z0 w;have HWE:=ZZ hW0;have HA:=ZZ (h.keep HB.out.1 id id);have HR:=ZZ (Ziz b g l a W HA.out ha hn);clear hW0 h hn ha
 go_enter Tryz.func100,Tryz.ntmps100
 go_wp2_with fail
 rw[HWE.out];go_at_call 136;refine HR.out.mono ?_;rintro e w1 ⟨rfl,rfl⟩;obtain⟨s0,s1,s2,s3,s4⟩:=Zz HB.out.2;obtain⟨r0,r1,r2,r3,r4⟩:=ZcN HB.out.2;go_wp2;clear s0 s1 s2 s3 s4 r0 r1 r2 r3 r4;obtain⟨W6,hW6,O6,B6⟩:=Ze7 HB.out.1 (Yi _) HB.out.2 (.int .i64 0) (.int .i64 0) (.int .i64 0) (.bool false) (.int .i64 0)
 with_reducible rw[hW6]
 obtain⟨h0,h1,h2,h3,h4⟩:=Zz B6;exact bodyPost_ret (v:=.tuple #[.agg #[.int .i64 0,.int .i64 0,.int .i64 0,.bool false,.int .i64 0],.int .i64 2]) (by simp[results,Tryz.results100,go_sem,h0,h1,h2,h3,h4]) rfl ⟨rfl,O6⟩
theorem ZjZ (b g:Nat) (l:List Nat) (a:Nat) (w:World) (h:Ar w b g l) (hp:Par w) (ha:a<l.length) (hn:wOk (wd l a)=false):
 Calls Tryz.prog 100 #[.pointer (some ⟨b,0,none⟩),.int .i64 a] w fun e w'=>e=.returned (.tuple #[.agg #[.int .i64 0,.int .i64 0,.int .i64 0,.bool false,.int .i64 0],.int .i64 3])∧Only nob w w':=by
 obtain⟨W,hW0,HB⟩:=Z0 w;have HWE:=ZZ hW0;have HA:=ZZ (h.keep HB.out.1 id id);have HR:=ZZ (Zk4 b g l a W HA.out ha);have HD:=ZZ (Zog (h.words.wd a) hn W (hp.old HB.out.1));clear hW0 h hn ha hp
 go_enter Tryz.func100,Tryz.ntmps100
 go_wp2_with fail
 rw[HWE.out];go_at_call 136;refine HR.out.mono ?_;rintro e w1 ⟨rfl,rfl⟩
 go_wp2_with fail
 go_at_call 134;refine HD.out.mono ?_;rintro e w2 ⟨rfl,o⟩;have O2:=ZZ (HB.out.1.trans o);have B2:=ZZ (HB.out.2.keep o id);obtain⟨W3,hW3,HB3⟩:=Z0 w2;have HW3:=ZZ hW3;clear hW3 o
 go_upto_region 5 with fail
 rw[HW3.out];have O3:=ZZ (O2.out.trans HB3.out.1);have B3:=ZZ (B2.out.keep HB3.out.1 id);obtain⟨s0,s1,s2,s3,s4⟩:=Zz B3.out;obtain⟨r0,r1,r2,r3,r4⟩:=ZcN B3.out;go_wp2;clear s0 s1 s2 s3 s4 r0 r1 r2 r3 r4;obtain⟨W6,hW6,O6,B6⟩:=Ze7 O3.out (Yi _) B3.out (.int .i64 0) (.int .i64 0) (.int .i64 0) (.bool false) (.int .i64 0)
 with_reducible rw[hW6]
 obtain⟨h0,h1,h2,h3,h4⟩:=Zz B6;exact bodyPost_ret (v:=.tuple #[.agg #[.int .i64 0,.int .i64 0,.int .i64 0,.bool false,.int .i64 0],.int .i64 3]) (by simp[results,Tryz.results100,go_sem,h0,h1,h2,h3,h4]) rfl ⟨rfl,O6⟩
def Zjj (s t:Int) (n:Nat) (w:World) (e:Ending) (w':World):Prop:=
 (s≤t→e=.returned (.tuple #[.agg #[.int .i64 (wK n),.int .i64 (wF n),.int .i64 (wR n),.bool (wM n),.int .i64 (wC n)],.int .i64 0]))∧
 (¬s≤t→e=.returned (.tuple #[.agg #[.int .i64 0,.int .i64 0,.int .i64 0,.bool false,.int .i64 0],.int .i64 2]))∧Only nob w w'
theorem ZlA (b g:Nat) (l:List Nat) (a:Nat) (w:World) (h:Ar w b g l) (hp:Par w) (ha:a<l.length) (hk:wOk (wd l a)=true):
 Calls Tryz.prog 100 #[.pointer (some ⟨b,0,none⟩),.int .i64 a] w (Zjj (1+wF (wd l a)+wR (wd l a)) ((l.length:Int) - a) (wd l a) w):=by
 obtain⟨W,hW0,HB⟩:=Z0 w;have HWE:=ZZ hW0;have HP:=ZZ hp;have HA:=ZZ (h.keep HB.out.1 id id);have HR:=ZZ (Zk4 b g l a W HA.out ha);have HD:=ZZ (Zlp (h.words.wd a) hk W (hp.old HB.out.1));have hl:=h.few;have hbd:=Zew hk;have hz:=ZeT (ZgB hk)
 obtain⟨n,hn⟩: ∃n,n=wd l a:=⟨_,rfl⟩
 rw[← hn] at HR HD hbd hz ⊢
 obtain⟨s,hs⟩: ∃s:Int,s=1+wF n+wR n:=⟨_,rfl⟩
 have HS:=ZZ (hz.trans hs.symm)
 have hs2:1≤s∧s≤8193:=by omega
 rw[← hs];clear hW0 h hk hp hz hs hbd hn
 go_enter Tryz.func100,Tryz.ntmps100
 go_wp2_with fail
 rw[HWE.out];go_at_call 136;refine HR.out.mono ?_;rintro e w1 ⟨rfl,rfl⟩
 go_wp2_with fail
 go_at_call 134;refine HD.out.mono ?_;rintro e w2 ⟨rfl,o⟩;have O2:=ZZ (HB.out.1.trans o);have B2:=ZZ (HB.out.2.keep o id);obtain⟨W3,hW3,HB3⟩:=ZU w2 (wK n) (wF n) (wR n) (wM n) (wC n);have HW3:=ZZ hW3;have A3:=ZZ (HA.out.keep (o.trans HB3.out.1) id id);clear hW3 o
 go_upto_region 5 with fail
 rw[HW3.out];have O3:=ZZ (O2.out.trans HB3.out.1);have B3:=ZZ (B2.out.keep HB3.out.1 id);obtain⟨c0,c1,c2,c3,c4⟩:=Zz HB3.out.2
 go_wp2_with fail
 go_at_call 135;refine(ZaW _ _ _ _ _ _ (HP.out.old O3.out)).mono ?_;rw[HS.out];rintro e w4 ⟨rfl,o⟩;have O4:=ZZ (O3.out.trans o);have B4:=ZZ (B3.out.keep o id);have C4:=ZZ (HB3.out.2.keep o id);have A4:=ZZ (A3.out.keep o id id);clear o c0 c1 c2 c3 c4
 go_wp2_with fail
 go_at_call 137;refine(ZoE b g l _ A4.out).mono ?_;rintro e w5 ⟨rfl,rfl⟩;obtain⟨s0,s1,s2,s3,s4⟩:=Zz B4.out;obtain⟨r0,r1,r2,r3,r4⟩:=ZcN B4.out;obtain⟨c0,c1,c2,c3,c4⟩:=Zz C4.out;by_cases hf:(l.length:Int) - a<s
 · go_wp2
   clear s0 s1 s2 s3 s4 r0 r1 r2 r3 r4;obtain⟨W6,hW6,O6,B6⟩:=Ze7 O4.out (Yi _) B4.out (.int .i64 0) (.int .i64 0) (.int .i64 0) (.bool false) (.int .i64 0)
   with_reducible rw[hW6]
   obtain⟨h0,h1,h2,h3,h4⟩:=Zz B6;exact bodyPost_ret (v:=.tuple #[.agg #[.int .i64 0,.int .i64 0,.int .i64 0,.bool false,.int .i64 0],.int .i64 2]) (by simp[results,Tryz.results100,go_sem,h0,h1,h2,h3,h4]) rfl (show Zjj _ _ _ _ _ _ from⟨fun hx=>by omega,fun _=>rfl,O6⟩)
 · go_wp2
   clear s0 s1 s2 s3 s4 r0 r1 r2 r3 r4;obtain⟨W6,hW6,O6,B6⟩:=Ze7 O4.out (Yi _) B4.out (.int .i64 (wK n)) (.int .i64 (wF n)) (.int .i64 (wR n)) (.bool (wM n)) (.int .i64 (wC n))
   with_reducible rw[hW6]
   obtain⟨h0,h1,h2,h3,h4⟩:=Zz B6;exact bodyPost_ret (v:=.tuple #[.agg #[.int .i64 (wK n),.int .i64 (wF n),.int .i64 (wR n),.bool (wM n),.int .i64 (wC n)],.int .i64 0]) (by simp[results,Tryz.results100,go_sem,h0,h1,h2,h3,h4]) rfl (show Zjj _ _ _ _ _ _ from⟨fun _=>rfl,fun hx=>absurd (show s≤(l.length:Int) - a by omega) hx,O6⟩)
theorem Zdi (b g:Nat) (l:List Nat) (a:Int) (w:World) (h:Ar w b g l) (hp:Par w) (ha:a≤9223372036854775807):
 Calls Tryz.prog 100 #[.pointer (some ⟨b,0,none⟩),.int .i64 a] w fun e w'=>e=.returned (.tuple #[.agg #[.int .i64 (ohK l a),.int .i64 (ohF l a),.int .i64 (ohR l a),.bool (ohM l a),.int .i64 (ohC l a)],.int .i64 (ohE l a)])∧Only nob w w':=by
 by_cases hi:0≤a∧a<(l.length:Int)
 · obtain⟨n,rfl⟩: ∃n:Nat,a=n:=⟨a.toNat,by omega⟩
   have hn:n<l.length:=by omega
   rcases hk:wOk (wd l n) with _|_
   · have h0:=Zo6 hi (by rw[Int.toNat_natCast];exact hk)
     obtain⟨h1,h2,h3,h4,h5⟩:=ZfZ (show ohE l n≠0 by rw[h0];decide);rw[h0,h1,h2,h3,h4,h5];exact ZjZ b g l n w h hp hn hk
   · refine(ZlA b g l n w h hp hn hk).mono ?_
     rintro e w' ⟨h1,h2,ho⟩;by_cases hf:1+wF (wd l n)+wR (wd l n)≤(l.length:Int) - n
     · obtain⟨k0,k1,k2,k3,k4,k5⟩:=Zkr ⟨hn,hk,hf⟩
       rw[k0,k1,k2,k3,k4,k5];exact⟨h1 hf,ho⟩
     · have h0:=ZoL hi (by rw[Int.toNat_natCast];exact hk) (by rw[Int.toNat_natCast];exact hf)
       obtain⟨k1,k2,k3,k4,k5⟩:=ZfZ (show ohE l n≠0 by rw[h0];decide);rw[h0,k1,k2,k3,k4,k5];exact⟨h2 hf,ho⟩
 · have h0:=Zpf hi
   obtain⟨h1,h2,h3,h4,h5⟩:=ZfZ (show ohE l a≠0 by rw[h0];decide);rw[h0,h1,h2,h3,h4,h5];exact ZkI b g l a w h ha hi
end
end Go.Proofs.YtknoncenblehkaaGreatDoor
