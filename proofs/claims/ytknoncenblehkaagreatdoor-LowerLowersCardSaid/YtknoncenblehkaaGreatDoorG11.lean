/- Contracts: cmp.Compare, cmp.Or, and span's order, as the lib -/
import Derived.Test.YtknoncenblehkaaGreatDoorG10
import Derived.Test.YtknoncenblehkaaGreatDoorG09
import Derived.Test.YtknoncenblehkaaGreatDoorG05
import Derived.Deep.RegionHeld3
import Derived.Shelf.SlSortCmp.KitK
import Derived.Shelf.RegionOpenPlain
import Derived.BigRegion
import Derived.Lib.SliceRun
set_option maxRecDepth 100000
set_option maxHeartbeats 32000000
set_option linter.unusedSimpArgs false
set_option linter.unusedVariables false
namespace Go.Proofs.YtknoncenblehkaaGreatDoor
section
open Go.RowKit Go.Sort
def ZhU (a b:Int):Int:=if a<b then -1 else if b<a then 1 else 0
theorem Znq {a b:Int} (h:a<b):ZhU a b= -1:=by unfold ZhU;rw[if_pos h]
theorem Zn2 {a b:Int} (h:b<a):ZhU a b=1:=by unfold ZhU;rw[if_neg (by omega),if_pos h]
theorem ZnG {a b:Int} (h1: ¬a<b) (h2: ¬b<a):ZhU a b=0:=by unfold ZhU;rw[if_neg h1,if_neg h2]
theorem ZdH (a:Int) (w:World):Calls Tryz.prog 193 #[.int .i64 a] w fun e w'=>e=.returned (.bool false)∧w=w':=by
 go_enter Tryz.func193,Tryz.ntmps193
 go_wp2;go_ret;exact⟨rfl,rfl⟩
theorem ZdD (a b:Int) (w:World):Calls Tryz.prog 183 #[.int .i64 a,.int .i64 b] w fun e w'=>e=.returned (.int .i64 (ZhU a b))∧w=w':=by
 by_cases h1:a<b
 · rw[Znq h1]
   go_enter Tryz.func183,Tryz.ntmps183
   go_wp2_with (go_at_call 193;refine(ZdH _ _).mono ?_;rintro e w' ⟨rfl,rfl⟩)
   go_ret;exact⟨rfl,rfl⟩
 · by_cases h2:b<a
   · rw[Zn2 h2]
     go_enter Tryz.func183,Tryz.ntmps183
     go_wp2_with (go_at_call 193;refine(ZdH _ _).mono ?_;rintro e w' ⟨rfl,rfl⟩)
     go_ret;exact⟨rfl,rfl⟩
   · rw[ZnG h1 h2]
     go_enter Tryz.func183,Tryz.ntmps183
     go_wp2_with (go_at_call 193;refine(ZdH _ _).mono ?_;rintro e w' ⟨rfl,rfl⟩)
     go_ret;exact⟨rfl,rfl⟩
def orI (a b:Int):Int:=if a=0 then b else a
theorem ZoH (g:Nat) (a b:Int) (w:World) (h0:w.cell? ⟨g,0,none⟩=some (.int .i64 a)) (h1:w.cell? ⟨g,1,none⟩=some (.int .i64 b)):
 Calls Tryz.prog 182 #[.slice (some ⟨g,0,none⟩) 2 2] w fun e w'=>e=.returned (.int .i64 (orI a b))∧w=w':=by
 obtain⟨r,hr⟩: ∃r,orI a b=r:=⟨_,rfl⟩
 rw[hr];have HR:=ZZ hr;clear hr
 go_enter Tryz.func182,Tryz.ntmps182
 go_wp2
 go_loop [8] (fun i=> ∃k:Nat,i=.int .i64 k∧k≤2∧(1≤k→a=0)∧(2≤k→b=0)) (fun i=>2 - (intOf i).toNat)
 case atStart=>exact⟨0,rfl,by omega,by omega,by omega⟩
 case round=>
  obtain⟨k,rfl,hk,ka,kb⟩:=hrel
  have ways:k=0∨k=1∨k=2:=by omega
  rcases ways with rfl|rfl|rfl
  · clear ka kb
    by_cases ha:a=0
    · have HA:=ZZ ha
      clear ha;obtain rfl:a=0:=HA.out;go_wp2
      go_round
      case rel=>exact⟨1,by go_num,by omega,fun _=>by simp,by omega⟩
      case measure=>simp[intOf]
    · go_wp2
      go_ret;exact⟨Zbf (by rw[← HR.out];unfold orI;rw[if_neg ha]),rfl⟩
  · obtain rfl:a=0:=ka (by omega)
    clear ka kb;by_cases hb:b=0
    · obtain rfl:b=0:=hb
      go_wp2
      go_round
      case rel=>exact⟨2,by go_num,by omega,fun _=>by simp,fun _=>by simp⟩
      case measure=>simp[intOf]
    · go_wp2
      go_ret;exact⟨Zbf (by rw[← HR.out];unfold orI;rw[if_pos rfl]),rfl⟩
  · obtain rfl:a=0:=ka (by omega)
    obtain rfl:b=0:=kb (by omega);clear ka kb;go_wp2;go_ret;exact⟨Zbf (by rw[← HR.out];rfl),rfl⟩
theorem ZpL (W:World) (a b:Int):(World.drew (W.alloc (.cells #[.int .i64 a,.int .i64 b] 3))).cell? ⟨W.heap.size,0,none⟩=some (.int .i64 a):=(Blk.new W 3 #[.int .i64 a,.int .i64 b]).cell 0
theorem ZpJ (W:World) (a b:Int):(World.drew (W.alloc (.cells #[.int .i64 a,.int .i64 b] 3))).cell? ⟨W.heap.size,1,none⟩=some (.int .i64 b):=(Blk.new W 3 #[.int .i64 a,.int .i64 b]).cell 1
def Zi2 (x y:Sp):Int:=orI (ZhU x.1 y.1) (ZhU x.2 y.2)
theorem Zn0 {x y:Sp}:Zi2 x y<0↔Sp.lt x y:=by
 unfold Zi2 orI ZhU Sp.lt
 repeat' split
 all_goals omega
theorem Zbw (x y:Sp) (w:World):Calls Tryz.prog 161 #[.agg #[.int .i64 x.1,.int .i64 x.2],.agg #[.int .i64 y.1,.int .i64 y.2]] w fun e w'=>e=.returned (.int .i64 (Zi2 x y))∧Grw w w':=by
 obtain⟨W,hW,HW⟩:=ZfV w x y;have HWE:=ZZ hW;clear hW
 go_enter Tryz.func161,Tryz.ntmps161
 go_wp2_with fail
 rw[HWE.out];obtain⟨c0,c1⟩:=HW.out.2.1;obtain⟨d0,d1⟩:=HW.out.2.2
 go_region_held3 (fun w'=>w'.cell? ⟨w.heap.size,0,none⟩=some (.int .i64 x.1)∧w'.cell? ⟨w.heap.size,1,none⟩=some (.int .i64 x.2)∧w'.cell? ⟨w.heap.size+1,0,none⟩=some (.int .i64 y.1)∧w'.cell? ⟨w.heap.size+1,1,none⟩=some (.int .i64 y.2))
  (first|go_keep)
  (first
    |(go_at_call 183;refine(ZdD _ _ _).mono ?_;rintro e w' ⟨rfl,rfl⟩)
    |(go_at_call 182;(with_reducible refine(ZoH _ _ _ _ (ZpL W _ _) (ZpJ W _ _)).mono ?_);rintro e w' ⟨rfl,rfl⟩))
 go_wp2;go_ret;exact⟨rfl,ZaV HW.out.1 (ZaV (Zjb _ 1) (Zac _ _))⟩
def enc (x:Sp):List Value:=[.int .i64 x.1,.int .i64 x.2]
theorem ZeO (x:Sp):(enc x).length=2:=rfl
abbrev Sw (w:World) (g o:Nat) (d:Array Sp) (W:World):Prop:=SWK enc 2 w g o d W
structure Cell2 (W:World) (g o i:Nat) (x:Sp):Prop where
 c0:W.cell? ⟨g,o+i * 2,none⟩=some (.int .i64 x.1)
 c1:W.cell? ⟨g,o+i * 2+1,none⟩=some (.int .i64 x.2)
 f0:W.frozen? ⟨g,o+i * 2,none⟩=false
 f1:W.frozen? ⟨g,o+i * 2+1,none⟩=false
theorem ZbQ {W:World} {g o i:Nat} {d:Array Sp} (h:HoldsK enc 2 W g o d) (hi:i<d.size):Cell2 W g o i d[i]! :=by
 have h0:=HoldsK.cell h (i:=i) (c:=0) hi (by omega);have h1:=HoldsK.cell h (i:=i) (c:=1) hi (by omega);exact⟨h0.1,h1.1,h0.2,h1.2⟩
theorem ZG {w W W':World} {g o:Nat} {d e:Array Sp} (h:Sw w g o d W) (hg:g<w.heap.size) (k:Sw W g o e W') (hs:e.size=d.size):Sw w g o e W':=by
 obtain⟨n,os,rfl⟩:=k;exact SWK.on h hg n e os hs
theorem Zc9 {w W:World} {g o i j:Nat} {d:Array Sp} {x y:Sp} (h:Sw w g o d (World.drew ((W.setCells g (o+i * 2) (enc y)).setCells g (o+j * 2) (enc x)))):
 Sw w g o d (World.drew ((((W.setCell ⟨g,o+i * 2,none⟩ (.int .i64 y.1)).setCell ⟨g,o+i * 2+1,none⟩ (.int .i64 y.2)).setCell ⟨g,o+j * 2,none⟩ (.int .i64 x.1)).setCell ⟨g,o+j * 2+1,none⟩ (.int .i64 x.2))):=h
theorem Zbg (F:Value) (g o cap lo hi a b n N:Nat) (d:Array Sp) (hN:d.size=N) (w:World) (hH:HoldsK enc 2 w g o d) (hg:g<w.heap.size) (hsz:d.size<1099511627776) (h1:lo≤a) (h2:a+n≤b) (h3:b+n≤hi) (h4:hi≤d.size):
 Calls Tryz.prog 195 #[.slice (some ⟨g,o,none⟩) N cap,.int .i64 a,.int .i64 b,.int .i64 n,F] w fun e w'=>e=.returned (.tuple #[])∧ ∃d',Sw w g o d' w'∧Swr d d' lo hi a b n:=by
 subst hN;have HH:=ZZ hH;have S0:=ZZ (show Sw w g o d w from SWK.start hH);have HZ:=ZZ (Swr.start d lo hi a b);clear hH
 go_enter Tryz.func195,Tryz.ntmps195
 go_wp2
 go_loopw [10] (fun i wr=> ∃(k:Nat) (e:Array Sp),k≤n∧i=.int .i64 k∧Hid (Sw w g o e wr)∧Hid (Swr d e lo hi a b k)) (fun i _=>n - (intOf i).toNat)
 case atStart=>exact⟨0,d,by omega,by go_num,S0,HZ⟩
 case round=>
  clear S0 HZ;obtain⟨k,e,hk,rfl,S1,R1⟩:=hrel;by_cases hlt:k<n
  · have hlz:(k:Int)<(n:Int):=by omega
    have es:e.size=d.size:=R1.out.perm.1;have HW:=S1.out.holds hg HH.out es;obtain⟨x0,x1,fx0,fx1⟩:=ZbQ HW (i:=a+k) (by omega);obtain⟨y0,y1,fy0,fy1⟩:=ZbQ HW (i:=b+k) (by omega);have S2:=(S1.out.swap ZeO hg (a+k) (b+k) (by omega) (by omega)).drew;have R2:=ZZ (R1.out.next (by omega) (by omega) (by omega) (by omega))
    obtain⟨x,hx⟩: ∃x,x=e[a+k]! :=⟨_,rfl⟩
    obtain⟨y,hy⟩: ∃y,y=e[b+k]! :=⟨_,rfl⟩
    rw[← hx] at x0 x1 S2;rw[← hy] at y0 y1 S2;have S2:=ZZ (Zc9 S2);clear hx hy HW
    have wa:IntKind.i64.wrap ((a:Int)+k)=(a:Int)+k:=by rw[IntKind.wrap_i64];omega
    have wb:IntKind.i64.wrap ((b:Int)+k)=(b:Int)+k:=by rw[IntKind.wrap_i64];omega
    have ta:((a:Int)+k).toNat=a+k:=by omega
    have tb:((b:Int)+k).toNat=b+k:=by omega
    have pa:(0:Int)≤(a:Int)+k:=by omega
    have pb:(0:Int)≤(b:Int)+k:=by omega
    have la:(a:Int)+k<(d.size:Int):=by omega
    have lb:(b:Int)+k<(d.size:Int):=by omega
    have mixed:=Zao
    go_wp2_with fail
    go_big_region_o
    go_wp2
    go_roundw
    case rel=>exact⟨k+1,_,by omega,by go_num,S2,R2⟩
    case measure=>simp[intOf];omega
  · obtain rfl:k=n:=by omega
    go_wp2
    go_end0
    exact⟨rfl,e,S1.out,R1.out⟩
theorem ZbO (F:Value) (g o cap a m b N:Nat) (d:Array Sp) (hN:d.size=N) (w:World) (hH:HoldsK enc 2 w g o d) (hg:g<w.heap.size) (hsz:d.size<1099511627776) (h1:a<m) (h2:m<b) (h3:b≤d.size):
 Calls Tryz.prog 194 #[.slice (some ⟨g,o,none⟩) N cap,.int .i64 a,.int .i64 m,.int .i64 b,F] w fun e w'=>e=.returned (.tuple #[])∧ ∃d',Sw w g o d' w'∧Rotd d d' a m b:=by
 subst hN;have HH:=ZZ hH;have S0:=ZZ (show Sw w g o d w from SWK.start hH);have HZ:=ZZ (Rot.start d a m b (by omega) (by omega))
 have e1:((m:Int) - a)=((m - a:Nat):Int):=by omega
 have e2:((b:Int) - m)=((b - m:Nat):Int):=by omega
 have E1:=ZZ e1;have E2:=ZZ e2;clear hH e1 e2
 go_enter Tryz.func194,Tryz.ntmps194
 go_wp2
 go_loopw [10,11] (fun i j wr=> ∃(p q:Nat) (e:Array Sp),i=.int .i64 p∧j=.int .i64 q∧1≤p∧1≤q∧p≤m∧m+q≤b∧a≤m - p∧p+q≤b - a∧Hid (Sw w g o e wr)∧Hid (Rot d e a m b p q)) (fun i j _=>(intOf i).toNat+(intOf j).toNat)
 case atStart=>exact⟨m - a,b - m,d,by rw[E1.out],by rw[E2.out],by omega,by omega,by omega,by omega,by omega,by omega,S0,HZ⟩
 case round=>
  clear S0 HZ E1 E2;obtain⟨p,q,e,rfl,rfl,p1,q1,b1,b2,b3,b4,S1,R1⟩:=hrel;have ES:=ZZ (show e.size=d.size from R1.out.perm.1);have HW:=ZZ (S1.out.holds hg HH.out ES.out);have hgr:g<wr.heap.size:=S1.out.lt hg
  have hse:e.size<1099511627776:=by rw[ES.out];exact hsz
  have hbe:b≤e.size:=by rw[ES.out];exact h3
  have ways:p=q∨q<p∨p<q:=by omega
  rcases ways with rfl|hlt|hlt
  · go_wp2_with fail
    rw[show(m:Int) - (p:Int)=((m - p:Nat):Int) by omega];go_at_call 195;refine(Zbg F g o cap a b (m - p) m p _ e ES.out _ HW.out hgr hse (by omega) (by omega) (by omega) hbe).mono ?_;rintro e1 w1 ⟨rfl,f,S2,R2⟩;have S3:=ZZ (ZG S1.out hg S2 (R2.perm.1.trans rfl));have R3:=ZZ (R1.out.last b1 R2);clear S2 R2;go_wp2
    go_end0
    exact⟨rfl,f,S3.out,R3.out⟩
  · have hltz:(q:Int)<(p:Int):=by omega
    have hne: ¬p=q:=by omega
    go_wp2_with fail
    rw[show(m:Int) - (p:Int)=((m - p:Nat):Int) by omega];go_at_call 195;refine(Zbg F g o cap a b (m - p) m q _ e ES.out _ HW.out hgr hse (by omega) (by omega) (by omega) hbe).mono ?_;rintro e1 w1 ⟨rfl,f,S2,R2⟩;have S3:=ZZ (ZG S1.out hg S2 (R2.perm.1.trans rfl));have R3:=ZZ (R1.out.left hlt b1 R2);have E3:=ZZ (show(p:Int) - (q:Int)=((p - q:Nat):Int) by omega);clear S2 R2;go_wp2
    go_roundw
    case rel=>exact⟨p - q,q,f,by rw[E3.out],rfl,by omega,by omega,by omega,by omega,by omega,by omega,S3,R3⟩
    case measure=>simp[intOf];omega
  · have hltz:(p:Int)<(q:Int):=by omega
    have hne: ¬p=q:=by omega
    have hng: ¬(q:Int)<(p:Int):=by omega
    go_wp2_with fail
    rw[show(m:Int) - (p:Int)=((m - p:Nat):Int) by omega,show(m:Int)+(q:Int) - (p:Int)=((m+q - p:Nat):Int) by omega];go_at_call 195;refine(Zbg F g o cap a b (m - p) (m+q - p) p _ e ES.out _ HW.out hgr hse (by omega) (by omega) (by omega) hbe).mono ?_;rintro e1 w1 ⟨rfl,f,S2,R2⟩;have S3:=ZZ (ZG S1.out hg S2 (R2.perm.1.trans rfl));have R3:=ZZ (R1.out.right hlt b1 R2);have E3:=ZZ (show(q:Int) - (p:Int)=((q - p:Nat):Int) by omega);clear S2 R2;go_wp2
    go_roundw
    case rel=>exact⟨p,q - p,f,rfl,by rw[E3.out],by omega,by omega,by omega,by omega,by omega,by omega,S3,R3⟩
    case measure=>simp[intOf];omega
def ltO (x y:Sp):Bool:=ltOf Zi2 x y
theorem Ze3 {x y:Sp}:ltO x y=true↔Sp.lt x y:=by unfold ltO ltOf;rw[decide_eq_true_iff,Zn0]
theorem Zdo {x y:Sp}:ltO x y=false↔Sp.le y x:=by
 rw[← Sp.not_lt, ← Ze3]
 cases ltO x y <;> simp
theorem swo:SWO ltO where
 irrefl x:=Zdo.2 (by unfold Sp.le;omega)
 trans x y z h1 h2:=Ze3.2 (by have:=Ze3.1 h1;have:=Ze3.1 h2;unfold Sp.lt at *;omega)
 ntrans x y z h1 h2:=Zdo.2 (by have:=Zdo.1 h1;have:=Zdo.1 h2;unfold Sp.le at *;omega)
abbrev Zhc:Value:=.func (.func 161) #[] #[]
theorem Zfz {w W W':World} {g o:Nat} {d:Array Sp} (h:Sw w g o d W) (k:Grw W W'):Sw w g o d W':=by
 obtain⟨n,os,rfl⟩:=k;exact SWK.grown h n os
theorem Cell2.all {W:World} {g o i:Nat} {x:Sp} (h:Cell2 W g o i x):
 (∀n os,(grow (W.drewN n) os).cell? ⟨g,o+i * 2,none⟩=some (.int .i64 x.1))∧(∀n os,(grow (W.drewN n) os).cell? ⟨g,o+i * 2+1,none⟩=some (.int .i64 x.2)):=
 ⟨fun n os=>(Zp n os).only.keeps h.c0,fun n os=>(Zp n os).only.keeps h.c1⟩
theorem Zct (g o cap a b N:Nat) (d:Array Sp) (hN:d.size=N) (w:World) (hH:HoldsK enc 2 w g o d) (hg:g<w.heap.size) (hsz:d.size<1099511627776) (hab:a≤b) (hb:b≤d.size):
 Calls Tryz.prog 191 #[.slice (some ⟨g,o,none⟩) N cap,.int .i64 a,.int .i64 b,Zhc] w fun e w'=>e=.returned (.tuple #[])∧ ∃d',Sw w g o d' w'∧PermIn a b d d'∧SortedIn ltO a b d':=by
 subst hN;have HH:=ZZ hH;have S0:=ZZ (show Sw w g o d w from SWK.start hH);have HEND:=ZZ (insertionSort_holds (lt:=ltO) swo d a b hab hb);clear hH
 go_enter Tryz.func191,Tryz.ntmps191
 go_wp2
 go_loopw [8] (fun vi wr=> ∃(i:Nat) (dk:Array Sp),vi=.int .i64 i∧a<i∧i≤b+1∧Hid (dk.size=d.size)∧Hid (Sw w g o dk wr)∧Hid (insOuter ltO a b i dk=insOuter ltO a b (a+1) d)) (fun vi _=>b+1 - (intOf vi).toNat)
 case atStart=>exact⟨a+1,d,by go_num,by omega,by omega,rfl,S0,rfl⟩
 case round=>
  clear S0;obtain⟨i,dk,rfl,hai,hib,hsk,S1,HO⟩:=hrel;by_cases hlt:i<b
  · have hltz:(i:Int)<(b:Int):=by omega
    obtain⟨wo,rfl⟩: ∃wo:World,wo=wr:=⟨_,rfl⟩
    go_wp2
    go_loopw [9] (fun vj wr2=> ∃(j:Nat) (dj:Array Sp),vj=.int .i64 j∧a≤j∧j≤i∧Hid (dj.size=d.size)∧Hid (Sw w g o dj wr2)∧Hid (insInner ltO a j dj=insInner ltO a i dk)) (fun vj _=>(intOf vj).toNat)
    case atStart=>exact⟨i,dk,rfl,by omega,Yi _,hsk,S1,rfl⟩
    case round=>
     clear S1;obtain⟨j,dj,rfl,haj,hji,hsj,S2,HI⟩:=hrel
     have out:(j≤a∨ltO dj[j]! dj[j - 1]! =false)→Hid (insOuter ltO a b (i+1) dj=insOuter ltO a b (a+1) d):=fun hs=>by
      show _=_;rw[← HO.out,Go.Proofs.insOuter_go _ _ _ _ _ hlt, ← HI.out,Go.Proofs.insInner_stop _ _ _ _ hs]
     have OUT:Aside _:=out;clear out;by_cases hja:a<j
     · have hjaz:(a:Int)<(j:Int):=by omega
       obtain⟨jp,rfl⟩: ∃jp,j=jp+1:=⟨j - 1,by omega⟩
       have HW:=S2.out.holds hg HH.out hsj.out;have hszj:=hsj.out;have xall:=(ZbQ HW (i:=jp+1) (by omega)).all;have yall:=(ZbQ HW (i:=jp) (by omega)).all;clear HW
       obtain⟨x,hx⟩: ∃x,x=dj[jp+1]! :=⟨_,rfl⟩
       obtain⟨y,hy⟩: ∃y,y=dj[jp]! :=⟨_,rfl⟩
       rw[← hx] at xall;rw[← hy] at yall;have HX:=ZZ hx;have HY:=ZZ hy;obtain⟨x0,x1⟩:=xall;obtain⟨y0,y1⟩:=yall
       have jz:(jp:Int)+1<(d.size:Int):=by omega
       have jz1:(jp:Int)<(d.size:Int):=by omega
       have hjaz':(a:Int)<(jp:Int)+1:=by omega
       have p0:(0:Int)≤(jp:Int)+1:=by omega
       have e0:((jp:Int)+1).toNat=jp+1:=by omega
       have hwp:IntKind.i64.wrap (jp:Int)=(jp:Int):=by rw[IntKind.wrap_i64];omega
       have mixed:=Zao;clear hx hy hszj;by_cases hlv:Zi2 x y<0
       · go_wp2_with fail
         go_quiet_grown (first|(go_at_call 161;with_reducible refine Zab (Zbw _ _ _)))
         obtain⟨W3,hW3,HG⟩:=Zs wr nq osq;rw[hW3];clear hW3 x0 x1 y0 y1;have S3:=ZZ (Zfz S2.out HG.out);have HW:=S3.out.holds hg HH.out hsj.out;have hszj:=hsj.out;have xc:=ZbQ HW (i:=jp+1) (by omega);have yc:=ZbQ HW (i:=jp) (by omega);have S4:=(S3.out.swap ZeO hg (jp+1) jp (by omega) (by omega)).drew;rw[← HX.out] at xc S4;rw[← HY.out] at yc S4;have S5:=ZZ (Zc9 S4);obtain⟨x0,x1,fx0,fx1⟩:=xc;obtain⟨y0,y1,fy0,fy1⟩:=yc;clear S4 HW hszj
         have hwp2:IntKind.i64.wrap (jp:Int)=(jp:Int):=by rw[IntKind.wrap_i64];omega
         have LT:=ZZ (show ltO dj[jp+1]! dj[jp]! =true by rw[← HX.out, ← HY.out];exact Yl hlv);clear hlv
         go_wp2_with fail
         go_big_region_o
         go_wp2
         go_roundw
         case rel=>
          refine⟨jp,swp dj (jp+1) jp,by first|rfl|go_num,by omega,by omega,by rw[size_swp];exact hsj,S5,?_⟩;show _=_
          have:=Go.Proofs.insInner_go (lt:=ltO) a (jp+1) dj hja (by simp only[Nat.add_sub_cancel];exact LT.out)
          simp only[Nat.add_sub_cancel] at this;rw[← HI.out,this]
         case measure=>simp[intOf]
       · have O2:=OUT.out (Or.inr (by simp only[Nat.add_sub_cancel];rw[← HX.out, ← HY.out];exact Yk hlv))
         go_wp2_with fail
         go_quiet_grown (first|(go_at_call 161;with_reducible refine Zab (Zbw _ _ _)))
         obtain⟨W3,hW3,HG⟩:=Zs wr nq osq;rw[hW3];clear hW3 x0 x1 y0 y1;have S3:=ZZ (Zfz S2.out HG.out);go_wp2
         go_roundw
         case rel=>exact⟨i+1,dj,by go_num,by omega,by omega,hsj,S3,O2⟩
         case measure=>simp[intOf];omega
     · obtain rfl:j=a:=by omega
       have hjaz:decide ((j:Int)>(j:Int))=false:=Yk (by omega)
       have hjaz': ¬(j:Int)<(j:Int):=by omega
       have O2:=OUT.out (Or.inl (by omega));have S3:=ZZ (S2.out.drew);have mixed:=Zao
       go_wp2_with fail
       go_big_region_o
       go_wp2
       go_roundw
       case rel=>exact⟨i+1,dj,by go_num,by omega,by omega,hsj,S3,O2⟩
       case measure=>simp[intOf];omega
  · have hltz: ¬(i:Int)<(b:Int):=by omega
    have hfin:=HEND.out;unfold insertionSort at hfin;rw[← HO.out,Go.Proofs.insOuter_stop _ _ _ _ _ hlt] at hfin;have HFIN:=ZZ hfin;clear hfin;go_wp2
    go_end0
    exact⟨rfl,dk,S1.out,HFIN.out⟩
theorem ZiS (g o cap a m b N:Nat) (d:Array Sp) (hN:d.size=N) (w:World) (hH:HoldsK enc 2 w g o d) (hg:g<w.heap.size) (hsz:d.size<1099511627776) (M:Mrg ltO d a m b) (h1:m=a+1):
 Calls Tryz.prog 192 #[.slice (some ⟨g,o,none⟩) N cap,.int .i64 a,.int .i64 m,.int .i64 b,Zhc] w fun e w'=>e=.returned (.tuple #[])∧ ∃d',Sw w g o d' w'∧PermIn a b d d'∧SortedIn ltO a b d':=by
 subst hN;have HH:=ZZ hH;have S0:=ZZ (show Sw w g o d w from SWK.start hH);have hmb:=M.mb;have hbs:=M.bs
 have e1:(m:Int) - (a:Int)=1:=by omega
 have HM:=ZZ M;have HMA:=ZZ h1;clear hH M h1
 go_enter Tryz.func192,Tryz.ntmps192
 go_wp2;clear e1
 go_loopw [10,11] (fun vi vj wr=> ∃(p q:Nat),vi=.int .i64 p∧vj=.int .i64 q∧m≤p∧p≤q∧q≤b∧Hid (Sw w g o d wr)∧Hid (∀t,m≤t→t<p→ltO d[t]! d[a]! =true)∧Hid (∀t,q≤t→t<b→ltO d[t]! d[a]! =false)) (fun vi vj _=>(intOf vj).toNat - (intOf vi).toNat)
 case atStart=>exact⟨m,b,rfl,rfl,by omega,by omega,by omega,S0,(fun t _ _=>by omega),(fun t _ _=>by omega)⟩
 case round=>
  clear S0;obtain⟨p,q,rfl,rfl,b1,b2,b3,S1,LO,HI⟩:=hrel;by_cases hlt:p<q
  · have hltz:(p:Int)<(q:Int):=by omega
    have HW:=S1.out.holds hg HH.out rfl
    obtain⟨c,hc⟩: ∃c,c=(p+q) / 2:=⟨_,rfl⟩
    have c1:p≤c:=by omega
    have c2:c<q:=by omega
    have hcz:((p:Int)+(q:Int)) / 2=(c:Int):=by omega
    have HMA':=HMA.out;have xall:=(ZbQ HW (i:=c) (by omega)).all;have yall:=(ZbQ HW (i:=a) (by omega)).all
    have hcs:(c:Int)<(d.size:Int):=by omega
    have has:(a:Int)<(d.size:Int):=by omega
    have HL:=fun (hl:ltO d[c]! d[a]! =true) (t:Nat) (h1:m≤t) (h2:t<c+1)=>(show ltO d[t]! d[a]! =true from by
     rcases Bool.eq_false_or_eq_true (ltO d[t]! d[a]!) with hh|hh
     · exact hh
     · have:=Zc2 swo hh (Z5 swo HM.out.right h1 (by omega:t≤c) (by omega))
       rw[this] at hl;cases hl)
    have HR:=fun (hl:ltO d[c]! d[a]! =false) (t:Nat) (h1:c≤t) (h2:t<b)=>(show ltO d[t]! d[a]! =false from Zc2 swo hl (Z5 swo HM.out.right (by omega) h1 h2))
    have HL:=ZZ HL;have HR:=ZZ HR
    obtain⟨x,hx⟩: ∃x,x=d[c]! :=⟨_,rfl⟩
    obtain⟨y,hy⟩: ∃y,y=d[a]! :=⟨_,rfl⟩
    rw[← hx] at xall;rw[← hy] at yall;have HX:=ZZ hx;have HY:=ZZ hy;obtain⟨x0,x1⟩:=xall;obtain⟨y0,y1⟩:=yall;have mixed:=Zao;clear HW HMA' hx hy hc;by_cases hlv:Zi2 x y<0
    case' pos=>have H2:=ZZ (HL.out (by rw[← HX.out, ← HY.out];exact Yl hlv))
    case' neg=>have H2:=ZZ (HR.out (by rw[← HX.out, ← HY.out];exact Yk hlv))
    all_goals
     go_wp2_with fail
     go_quiet_grown (first|(go_at_call 161;with_reducible refine Zab (Zbw _ _ _)))
     obtain⟨W3,hW3,HG⟩:=Zs wr nq osq;rw[hW3];clear hW3 x0 x1 y0 y1 hcz;have S3:=ZZ (Zfz S1.out HG.out);go_wp2
     go_roundw
     case rel=>first|exact⟨c+1,q,by go_num,rfl,by omega,by omega,by omega,S3,H2,HI⟩|exact⟨p,c,rfl,rfl,by omega,by omega,by omega,S3,LO,H2⟩
     case measure=>simp[intOf];omega
  · obtain rfl:p=q:=by omega
    obtain⟨i,rfl⟩: ∃i,p=i+1:=⟨p - 1,by have:=HMA.out;omega⟩
    have hai:a≤i:=by have:=HMA.out;omega
    have HU:=ZZ (Up.start d a b)
    obtain⟨wo,rfl⟩: ∃wo:World,wo=wr:=⟨_,rfl⟩
    go_wp2
    go_loopw [13] (fun vk wr=> ∃(k:Nat) (e:Array Sp),vk=.int .i64 k∧a≤k∧k≤i∧Hid (Sw w g o e wr)∧Hid (Up d e a b k)) (fun vk _=>i - (intOf vk).toNat)
    case atStart=>exact⟨a,d,rfl,by omega,by omega,S1,HU⟩
    case round=>
     clear S1 HU;obtain⟨k,e,rfl,k1,k2,S2,U2⟩:=hrel;by_cases hki:k<i
     · have hkz:(k:Int)<(i:Int):=by omega
       have es:=U2.out.perm.1;have HW:=S2.out.holds hg HH.out es;have xc:=ZbQ HW (i:=k) (by omega);have yc:=ZbQ HW (i:=k+1) (by omega);have S4:=(S2.out.swap ZeO hg k (k+1) (by omega) (by omega)).drew;have U4:=ZZ (U2.out.next k1 (by omega) hbs)
       obtain⟨x,hx⟩: ∃x,x=e[k]! :=⟨_,rfl⟩
       obtain⟨y,hy⟩: ∃y,y=e[k+1]! :=⟨_,rfl⟩
       rw[← hx] at xc S4;rw[← hy] at yc S4;have S5:=ZZ (Zc9 S4);obtain⟨x0,x1,fx0,fx1⟩:=xc;obtain⟨y0,y1,fy0,fy1⟩:=yc
       have hcs:(k:Int)<(d.size:Int):=by omega
       have hcs1:(k:Int)+1<(d.size:Int):=by omega
       have p0:(0:Int)≤(k:Int)+1:=by omega
       have e0:((k:Int)+1).toNat=k+1:=by omega
       have hwp:IntKind.i64.wrap ((k:Int)+1)=(k:Int)+1:=by rw[IntKind.wrap_i64];omega
       have mixed:=Zao;clear HW S4 hx hy es
       go_wp2_with fail
       go_big_region_o
       go_wp2
       go_roundw
       case rel=>exact⟨k+1,_,by go_num,by omega,by omega,S5,U4⟩
       case measure=>simp[intOf];omega
     · obtain rfl:k=i:=by omega
       have hkz: ¬(k:Int)<(k:Int):=by omega
       have hs:SortedIn ltO a b e:=Up.sorted swo (i:=k+1) U2.out (by have:=HM.out.right;rw[HMA.out] at this;exact this) (by omega) b3 (by have:=LO.out;rw[HMA.out] at this;exact this) HI.out;have HS:=ZZ hs;clear hs;go_wp2;refine bodyPost_ret (results_none rfl _ _ _) rfl ?_;exact⟨rfl,e,S2.out,U2.out.perm,HS.out⟩
theorem Zgm (g o cap a m b N:Nat) (d:Array Sp) (hN:d.size=N) (w:World) (hH:HoldsK enc 2 w g o d) (hg:g<w.heap.size) (hsz:d.size<1099511627776) (M:Mrg ltO d a m b) (h0:m≠a+1) (h1:b=m+1):
 Calls Tryz.prog 192 #[.slice (some ⟨g,o,none⟩) N cap,.int .i64 a,.int .i64 m,.int .i64 b,Zhc] w fun e w'=>e=.returned (.tuple #[])∧ ∃d',Sw w g o d' w'∧PermIn a b d d'∧SortedIn ltO a b d':=by
 subst hN;have HH:=ZZ hH;have S0:=ZZ (show Sw w g o d w from SWK.start hH);have ham:=M.am;have hbs:=M.bs
 have e0:((m:Int) - (a:Int)==1)=false:=by rw[beq_eq_false_iff_ne];omega
 have e1:(b:Int) - (m:Int)=1:=by omega
 have HM:=ZZ M;have HB:=ZZ h1;clear hH M h1 h0
 go_enter Tryz.func192,Tryz.ntmps192
 go_wp2;clear e1 e0
 go_loopw [14,15] (fun vi vj wr=> ∃(p q:Nat),vi=.int .i64 p∧vj=.int .i64 q∧a≤p∧p≤q∧q≤m∧Hid (Sw w g o d wr)∧Hid (∀t,a≤t→t<p→ltO d[m]! d[t]! =false)∧Hid (∀t,q≤t→t<m→ltO d[m]! d[t]! =true)) (fun vi vj _=>(intOf vj).toNat - (intOf vi).toNat)
 case atStart=>exact⟨a,m,rfl,rfl,by omega,by omega,by omega,S0,(fun t _ _=>by omega),(fun t _ _=>by omega)⟩
 case round=>
  clear S0;obtain⟨p,q,rfl,rfl,b1,b2,b3,S1,LO,HI⟩:=hrel;by_cases hlt:p<q
  · have hltz:(p:Int)<(q:Int):=by omega
    have HW:=S1.out.holds hg HH.out rfl
    obtain⟨c,hc⟩: ∃c,c=(p+q) / 2:=⟨_,rfl⟩
    have c1:p≤c:=by omega
    have c2:c<q:=by omega
    have hcz:((p:Int)+(q:Int)) / 2=(c:Int):=by omega
    have HB':=HB.out;have xall:=(ZbQ HW (i:=m) (by omega)).all;have yall:=(ZbQ HW (i:=c) (by omega)).all
    have hcs:(c:Int)<(d.size:Int):=by omega
    have has:(m:Int)<(d.size:Int):=by omega
    have HL:=fun (hl:ltO d[m]! d[c]! =false) (t:Nat) (h1:a≤t) (h2:t<c+1)=>(show ltO d[m]! d[t]! =false from Zc2 swo (Z5 swo HM.out.left h1 (by omega:t≤c) (by omega)) hl)
    have HR:=fun (hl:ltO d[m]! d[c]! =true) (t:Nat) (h1:c≤t) (h2:t<m)=>(show ltO d[m]! d[t]! =true from by
     rcases Bool.eq_false_or_eq_true (ltO d[m]! d[t]!) with hh|hh
     · exact hh
     · have:=Zc2 swo (Z5 swo HM.out.left (by omega) h1 h2) hh
       rw[this] at hl;cases hl)
    have HL:=ZZ HL;have HR:=ZZ HR
    obtain⟨x,hx⟩: ∃x,x=d[m]! :=⟨_,rfl⟩
    obtain⟨y,hy⟩: ∃y,y=d[c]! :=⟨_,rfl⟩
    rw[← hx] at xall;rw[← hy] at yall;have HX:=ZZ hx;have HY:=ZZ hy;obtain⟨x0,x1⟩:=xall;obtain⟨y0,y1⟩:=yall;have mixed:=Zao;clear HW HB' hx hy hc;by_cases hlv:Zi2 x y<0
    case' pos=>
     have H2:=ZZ (HR.out (by rw[← HX.out, ← HY.out];exact Yl hlv));have hlw:decide (Zi2 x y<0)=true:=Yl (by omega)
    case' neg=>
     have H2:=ZZ (HL.out (by rw[← HX.out, ← HY.out];exact Yk hlv));have hlw:decide (Zi2 x y<0)=false:=Yk (by omega)
    all_goals
     go_wp2_with fail
     go_quiet_grown (first|(go_at_call 161;with_reducible refine Zab (Zbw _ _ _)))
     obtain⟨W3,hW3,HG⟩:=Zs wr nq osq;rw[hW3];clear hW3 x0 x1 y0 y1 hcz;have S3:=ZZ (Zfz S1.out HG.out);go_wp2
     go_roundw
     case rel=>first|exact⟨c+1,q,by go_num,rfl,by omega,by omega,by omega,S3,H2,HI⟩|exact⟨p,c,rfl,rfl,by omega,by omega,by omega,S3,LO,H2⟩
     case measure=>simp[intOf];omega
  · obtain rfl:p=q:=by omega
    have HU:=ZZ (Dn.start d a b m)
    obtain⟨wo,rfl⟩: ∃wo:World,wo=wr:=⟨_,rfl⟩
    go_wp2
    go_loopw [17] (fun vk wr=> ∃(k:Nat) (e:Array Sp),vk=.int .i64 k∧p≤k∧k≤m∧Hid (Sw w g o e wr)∧Hid (Dn d e a b m k)) (fun vk _=>(intOf vk).toNat)
    case atStart=>exact⟨m,d,rfl,by omega,by omega,S1,HU⟩
    case round=>
     clear S1 HU;obtain⟨k,e,rfl,k1,k2,S2,U2⟩:=hrel;by_cases hki:p<k
     · obtain⟨j,rfl⟩: ∃j,k=j+1:=⟨k - 1,by omega⟩
       have hkz:(p:Int)<(j:Int)+1:=by omega
       have es:=U2.out.perm.1;have HW:=S2.out.holds hg HH.out es;have HB':=HB.out;have xc:=ZbQ HW (i:=j+1) (by omega);have yc:=ZbQ HW (i:=j) (by omega);have S4:=(S2.out.swap ZeO hg (j+1) j (by omega) (by omega)).drew;have U4:=ZZ (U2.out.next (by omega) k2 (by omega) hbs)
       obtain⟨x,hx⟩: ∃x,x=e[j+1]! :=⟨_,rfl⟩
       obtain⟨y,hy⟩: ∃y,y=e[j]! :=⟨_,rfl⟩
       rw[← hx] at xc S4;rw[← hy] at yc S4;have S5:=ZZ (Zc9 S4);obtain⟨x0,x1,fx0,fx1⟩:=xc;obtain⟨y0,y1,fy0,fy1⟩:=yc
       have hcs:(j:Int)<(d.size:Int):=by omega
       have hcs1:(j:Int)+1<(d.size:Int):=by omega
       have p0:(0:Int)≤(j:Int)+1:=by omega
       have e0:((j:Int)+1).toNat=j+1:=by omega
       have hwp:IntKind.i64.wrap (j:Int)=(j:Int):=by rw[IntKind.wrap_i64];omega
       have mixed:=Zao;clear HW S4 hx hy es HB'
       go_wp2_with fail
       go_big_region_o
       go_wp2
       go_roundw
       case rel=>exact⟨j,_,by first|rfl|go_num,by omega,by omega,S5,U4⟩
       case measure=>simp[intOf]
     · obtain rfl:p=k:=by omega
       have hkz: ¬(p:Int)<(p:Int):=by omega
       have hs:SortedIn ltO a b e:=Dn.sorted swo U2.out HB.out HM.out.left b1 b3 LO.out HI.out;have HS:=ZZ hs;clear hs;go_wp2;refine bodyPost_ret (results_none rfl _ _ _) rfl ?_;exact⟨rfl,e,S2.out,U2.out.perm,HS.out⟩
section
variable {α:Type} [Inhabited α] {lt:α→α→Bool}
theorem Halves.leftNo {d e:Array α} {a mid b s en:Nat} (H:Halves lt d e a mid b s en) (h:s≤a∨mid≤s):SortedIn lt a mid e:=by
 have h1:=H.as;have h2:=H.sm;rcases h with h|h
 · obtain rfl:s=a:=by omega
   exact H.s2
 · obtain rfl:s=mid:=by omega
   exact H.s1
theorem Halves.left {d e:Array α} {a mid b s en:Nat} (H:Halves lt d e a mid b s en) (h1:a<s) (h2:s<mid) (hb:mid≤e.size):Mrg lt e a s mid:=⟨h1,h2,hb,H.s1,H.s2⟩
theorem Halves.rightNo {d e f:Array α} {a mid b s en:Nat} (H:Halves lt d e a mid b s en) (hf:PermIn a mid e f) (h:en≤mid∨b≤en):SortedIn lt mid b f:=by
 have h1:=H.me;have h2:=H.eb;have hx: ∀q,mid≤q→f[q]! =e[q]! :=fun q hq=>hf.2.1 q (.inr hq);rcases h with h|h
 · obtain rfl:en=mid:=by omega
   exact Zaa H.s4 fun q hq _=>hx q hq
 · obtain rfl:en=b:=by omega
   exact Zaa H.s3 fun q hq _=>hx q hq
theorem Halves.right {d e f:Array α} {a mid b s en:Nat} (H:Halves lt d e a mid b s en) (hf:PermIn a mid e f) (h1:mid<en) (h2:en<b) (hb:b≤e.size):Mrg lt f mid en b:=by
 have hx: ∀q,mid≤q→f[q]! =e[q]! :=fun q hq=>hf.2.1 q (.inr hq);exact⟨h1,h2,by rw[hf.1];exact hb,Zaa H.s3 fun q hq _=>hx q hq,Zaa H.s4 fun q hq _=>hx q (by omega)⟩
theorem Halves.done {d e f k:Array α} {a mid b s en:Nat} (H:Halves lt d e a mid b s en) (hb:b≤d.size) (pf:PermIn a mid e f) (sf:SortedIn lt a mid f) (pk:PermIn mid b f k) (sk:SortedIn lt mid b k):PermIn a b d k∧SortedIn lt a b k:=by
 have h1:=H.as;have h2:=H.sm;have h3:=H.me;have h4:=H.eb;obtain⟨p,s⟩:=Zgr (lt:=lt) (by omega) (by omega) (by rw[H.perm.1];exact hb) H.cross pf sf pk sk;exact⟨ZbT H.perm p,s⟩
end
def ZpR (g o cap N K:Nat):Prop:= ∀(a m b:Nat) (d:Array Sp) (w:World),b - a≤K→d.size=N→HoldsK enc 2 w g o d→g<w.heap.size→Mrg ltO d a m b→
    Calls Tryz.prog 192 #[.slice (some ⟨g,o,none⟩) N cap,.int .i64 a,.int .i64 m,.int .i64 b,Zhc] w fun e w'=>e=.returned (.tuple #[])∧ ∃d',Sw w g o d' w'∧PermIn a b d d'∧SortedIn ltO a b d'
theorem Zgi (g o cap N K:Nat) (IH:ZpR g o cap N K) (a m b:Nat) (d:Array Sp) (w:World) (hK:b - a≤K+1) (hN:d.size=N) (hH:HoldsK enc 2 w g o d) (hg:g<w.heap.size) (hsz:N<1099511627776) (M:Mrg ltO d a m b) (h0:m≠a+1) (h1:b≠m+1):
 Calls Tryz.prog 192 #[.slice (some ⟨g,o,none⟩) N cap,.int .i64 a,.int .i64 m,.int .i64 b,Zhc] w fun e w'=>e=.returned (.tuple #[])∧ ∃d',Sw w g o d' w'∧PermIn a b d d'∧SortedIn ltO a b d':=by
 have HN:=ZZ hN;have HH:=ZZ hH;have S0:=ZZ (show Sw w g o d w from SWK.start hH);have ham:=M.am;have hmb:=M.mb
 have hbs:b≤N:=by rw[← hN];exact M.bs
 have e0:((m:Int) - (a:Int)==1)=false:=by rw[beq_eq_false_iff_ne];omega
 have e1:((b:Int) - (m:Int)==1)=false:=by rw[beq_eq_false_iff_ne];omega
 obtain⟨mid,hmid⟩: ∃mid,mid=Za4 a b:=⟨_,rfl⟩
 have hz:=Zhz ham hmb
 have hm1:a<mid∧mid<b∧mid≤1099511627776:=by rw[hmid];unfold Za4;omega
 have hmz:((a:Int)+(b:Int)) / 2=(mid:Int):=by rw[hmid];unfold Za4;omega
 have HMID:=ZZ hmid;have HM:=ZZ M
 have hsr:(mid<m∧Zft a m b=mid+m - b∧r0I a m b=mid)∨(¬mid<m∧Zft a m b=a∧r0I a m b=m):=by
  rw[hmid];unfold Zft r0I
  split
  · exact .inl ⟨by assumption,rfl,rfl⟩
  · exact .inr ⟨by assumption,rfl,rfl⟩
 obtain⟨st0,hst0⟩: ∃z,z=Zft a m b:=⟨_,rfl⟩
 obtain⟨r0,hr0⟩: ∃z,z=r0I a m b:=⟨_,rfl⟩
 have hq:=Srch.start (lt:=ltO) d (p:=Za4 a b+m - 1) hz.1;rw[← hst0, ← hr0, ← hmid] at hq hz;rw[← hst0, ← hr0] at hsr;have HQ:=ZZ hq;have HZ5:=ZZ hz.2.2.2.2;have hz1:=hz.1;have hz2:=hz.2.1;have hz3:=hz.2.2.1;have hz4:=hz.2.2.2.1;have HST:=ZZ (And.intro hst0 hr0);clear hH M h0 h1 hmid hq hz hst0 hr0 hN
 obtain⟨st1,r1,HV,HQ1⟩: ∃st1 r1:Nat,Hid ((mid<m∧(mid:Int)+(m:Int) - (b:Int)=(st1:Int)∧r1=mid)∨(¬mid<m∧st1=a∧r1=m))∧Hid (Srch ltO d st0 r0 (mid+m - 1) st1 r1):=by
  rcases hsr with⟨hlm,hs0,hr⟩|⟨hlm,hs0,hr⟩
  · exact⟨st0,r0,.inl ⟨hlm,by omega,hr⟩,HQ⟩
  · exact⟨st0,r0,.inr ⟨hlm,hs0,hr⟩,HQ⟩
 clear hsr HQ;by_cases hlm:mid<m
 case' pos=>
  have hst:(mid:Int)+(m:Int) - (b:Int)=(st1:Int):=by rcases HV.out with⟨_,h,_⟩|⟨h,_,_⟩;exact h;omega
  have HR1:=ZZ (show r1=mid by rcases HV.out with⟨_,_,h⟩|⟨h,_,_⟩;exact h;omega)
 case' neg=>
  have HS1:=ZZ (show st1=a by rcases HV.out with⟨h,_,_⟩|⟨_,h,_⟩;omega;exact h);have HR1:=ZZ (show r1=m by rcases HV.out with⟨h,_,_⟩|⟨_,_,h⟩;omega;exact h)
 all_goals
  clear HV
  go_enter Tryz.func192,Tryz.ntmps192
  go_wp2;clear e0 e1 hmz hlm
  try clear hst
  go_loopw [20,21] (fun vi vj wr=> ∃(st r:Nat),vi=.int .i64 st∧vj=.int .i64 r∧st0≤st∧st≤r∧r≤r0∧Hid (Sw w g o d wr)∧Hid (Srch ltO d st0 r0 (mid+m - 1) st r)) (fun vi vj _=>(intOf vj).toNat - (intOf vi).toNat)
  case atStart=>first|exact⟨st1,mid,rfl,rfl,HQ1.out.st_ge,by have:=HQ1.out.st_le;have:=HR1.out;omega,by have:=HQ1.out.r_le;have:=HR1.out;omega,S0,by have:=HQ1;rw[HR1.out] at this;exact this⟩|exact⟨a,m,rfl,rfl,by have:=HQ1.out.st_ge;have:=HS1.out;omega,by have:=HQ1.out.st_le;have:=HS1.out;have:=HR1.out;omega,by have:=HQ1.out.r_le;have:=HR1.out;omega,S0,by have:=HQ1;rw[HR1.out,HS1.out] at this;exact this⟩
  case round=>
   clear S0 HR1 HQ1
   try clear HS1
   obtain⟨st,r,rfl,rfl,b0,b1,b2,S1,Q1⟩:=hrel;by_cases hlt:st<r
   · have hltz:(st:Int)<(r:Int):=by omega
     have HW:=S1.out.holds hg HH.out rfl;have hds:=HN.out
     obtain⟨c,hc⟩: ∃c,c=(st+r) / 2:=⟨_,rfl⟩
     have c1:st≤c:=by omega
     have c2:c<r:=by omega
     have hcz:((st:Int)+(r:Int)) / 2=(c:Int):=by omega
     obtain⟨pc,hpc⟩: ∃pc,pc=mid+m - 1 - c:=⟨_,rfl⟩
     have hp1:m≤pc:=by rw[hpc];exact HZ5.out c (by omega)
     have hp2:pc<b:=by omega
     have hpz:(mid:Int)+(m:Int) - 1 - (c:Int)=(pc:Int):=by omega
     have hwp:IntKind.i64.wrap ((mid:Int)+(m:Int) - 1 - (c:Int))=(pc:Int):=by rw[IntKind.wrap_i64];omega
     have hwc:IntKind.i64.wrap (pc:Int)=(pc:Int):=by rw[IntKind.wrap_i64];omega
     have xall:=(ZbQ HW (i:=pc) (by omega)).all;have yall:=(ZbQ HW (i:=c) (by omega)).all
     have hcs:(c:Int)<(N:Int):=by omega
     have has:(pc:Int)<(N:Int):=by omega
     have HL:=ZZ fun (hl:ltO d[pc]! d[c]! =false)=>(show Srch ltO d st0 r0 (mid+m - 1) (c+1) r by
      have q:=Q1.out;rw[HST.out.1,HST.out.2,HMID.out] at q ⊢
      exact Srch.up swo HM.out q c1 c2 (by rw[← HMID.out, ← hpc];exact hl))
     have HR:=ZZ fun (hl:ltO d[pc]! d[c]! =true)=>(show Srch ltO d st0 r0 (mid+m - 1) st c by
      have q:=Q1.out;rw[HST.out.1,HST.out.2,HMID.out] at q ⊢
      exact Srch.down swo HM.out q c1 c2 (by rw[← HMID.out, ← hpc];exact hl))
     obtain⟨x,hx⟩: ∃x,x=d[pc]! :=⟨_,rfl⟩
     obtain⟨y,hy⟩: ∃y,y=d[c]! :=⟨_,rfl⟩
     rw[← hx] at xall;rw[← hy] at yall;have HX:=ZZ hx;have HY:=ZZ hy;obtain⟨x0,x1⟩:=xall;obtain⟨y0,y1⟩:=yall;have mixed:=Zao;clear HW hx hy hc hpc hds;by_cases hlv:Zi2 x y<0
     case' pos=>
      have H2:=ZZ (HR.out (by rw[← HX.out, ← HY.out];exact Yl hlv));have hlw:decide (Zi2 x y<0)=true:=Yl (by omega)
     case' neg=>
      have H2:=ZZ (HL.out (by rw[← HX.out, ← HY.out];exact Yk hlv));have hlw:decide (Zi2 x y<0)=false:=Yk (by omega)
     all_goals
      go_wp2_with fail
      go_quiet_grown (first|(go_at_call 161;with_reducible refine Zab (Zbw _ _ _)))
      obtain⟨W3,hW3,HG⟩:=Zs wr nq osq;rw[hW3];clear hW3 x0 x1 y0 y1 hcz hpz hwp hwc;have S3:=ZZ (Zfz S1.out HG.out);go_wp2
      go_roundw
      case rel=>first|exact⟨c+1,r,by go_num,rfl,by omega,by omega,by omega,S3,H2⟩|exact⟨st,c,rfl,rfl,by omega,by omega,by omega,S3,H2⟩
      case measure=>simp[intOf];omega
   · obtain rfl:st=r:=by omega
     have hP:Parts ltO d a m b mid st (mid+m - st):=by
      have q:=Q1.out;rw[HST.out.1,HST.out.2,HMID.out] at q;rw[HMID.out];exact Srch.parts swo HM.out q
     obtain⟨en,hen⟩: ∃en,en=mid+m - st:=⟨_,rfl⟩
     rw[← hen] at hP
     have henz:(mid:Int)+(m:Int) - (st:Int)=(en:Int):=by omega
     have HEN:=ZZ hen;have q1:=hP.a_le;have q2:=hP.s_le;have q3:=hP.m_le;have q4:=hP.e_le;have q5:=hP.sum;have HP:=ZZ hP
     have HALF:Hid (∀e:Array Sp,Rotd d e st m en→Halves ltO d e a mid b st en):=fun e R=>by
      have hpm:=permIn_mono d e st en a b q1 q4 (by rw[HN.out];exact hbs) R.perm;rw[HMID.out] at hP ⊢;exact Zox HM.out hP R hpm
     have ways:(¬st<m∧st<mid)∨(¬st<m∧ ¬st<mid)∨(st<m∧ ¬m<en)∨(st<m∧m<en∧a<st∧en<b)∨(st<m∧m<en∧a<st∧ ¬en<b)∨(st<m∧m<en∧ ¬a<st∧en<b)∨(st<m∧m<en∧ ¬a<st∧ ¬en<b):=by omega
     clear hP hen;rcases ways with h|h|h|h|h|h|h
     · have t0: ¬st<m:=by omega
       have u0:decide (st<m)=false:=Yk t0
       have t2:a<st:=by omega
       have t3:st<mid:=by omega
       have t4: ¬mid<en:=by omega
       have u4:decide (mid<en)=false:=Yk t4;have HV:=ZZ (HALF.out d (Rotd.none (by omega) (by omega) (by omega)));have ES:=ZZ (show d.size=N from HV.out.perm.1.trans HN.out)
       go_wp2_with fail
       go_at_call 192;refine(IH a st mid d _ (by omega) ES.out (S1.out.holds hg HH.out HV.out.perm.1) (S1.out.lt hg) (HV.out.left (by omega) (by omega) (by rw[ES.out];omega))).mono ?_;rintro e2 w2 ⟨rfl,f,S4,pf,sf⟩;have PF:=ZZ (And.intro pf sf);have S5:=ZZ (ZG S1.out hg S4 pf.1);clear S4 pf sf;have PK:=ZZ (And.intro (permIn_refl f mid b) (HV.out.rightNo PF.out.1 (by omega)));have FIN:=ZZ (HV.out.done (by rw[HN.out];exact hbs) PF.out.1 PF.out.2 PK.out.1 PK.out.2);go_wp2
       go_end0
       exact⟨rfl,f,S5.out,FIN.out.1,FIN.out.2⟩
     · have t0: ¬st<m:=by omega
       have u0:decide (st<m)=false:=Yk t0
       have t2:a<st:=by omega
       have t3: ¬st<mid:=by omega
       have u3:decide (st<mid)=false:=Yk t3
       have t4: ¬mid<en:=by omega
       have u4:decide (mid<en)=false:=Yk t4;have HV:=ZZ (HALF.out d (Rotd.none (by omega) (by omega) (by omega)));have ES:=ZZ (show d.size=N from HV.out.perm.1.trans HN.out);have PF:=ZZ (And.intro (permIn_refl d a mid) (HV.out.leftNo (by omega)));have PK:=ZZ (And.intro (permIn_refl d mid b) (HV.out.rightNo PF.out.1 (by omega)));have FIN:=ZZ (HV.out.done (by rw[HN.out];exact hbs) PF.out.1 PF.out.2 PK.out.1 PK.out.2);go_wp2
       go_end0
       exact⟨rfl,d,S1.out,FIN.out.1,FIN.out.2⟩
     · have t0:st<m:=by omega
       have t1: ¬m<en:=by omega
       have u1:decide (m<en)=false:=Yk t1
       have t2:a<st:=by omega
       have t3: ¬st<mid:=by omega
       have u3:decide (st<mid)=false:=Yk t3
       have t4:mid<en:=by omega
       have t5:en<b:=by omega
       have HV:=ZZ (HALF.out d (Rotd.none (by omega) (by omega) (by omega)));have ES:=ZZ (show d.size=N from HV.out.perm.1.trans HN.out);have PF:=ZZ (And.intro (permIn_refl d a mid) (HV.out.leftNo (by omega)))
       go_wp2_with fail
       go_at_call 192;refine(IH mid en b d _ (by omega) (PF.out.1.1.trans ES.out) (S1.out.holds hg HH.out (PF.out.1.1.trans HV.out.perm.1)) (S1.out.lt hg) (HV.out.right PF.out.1 (by omega) (by omega) (by rw[ES.out];omega))).mono ?_;rintro e3 w3 ⟨rfl,k,S6,pk,sk⟩;have PK:=ZZ (And.intro pk sk);have S7:=ZZ (ZG S1.out hg S6 pk.1);clear S6 pk sk;have FIN:=ZZ (HV.out.done (by rw[HN.out];exact hbs) PF.out.1 PF.out.2 PK.out.1 PK.out.2);go_wp2
       go_end0
       exact⟨rfl,k,S7.out,FIN.out.1,FIN.out.2⟩
     · have t0:st<m:=by omega
       have t1:m<en:=by omega
       have t2:a<st:=by omega
       have t3:st<mid:=by omega
       have t4:mid<en:=by omega
       have t5:en<b:=by omega
       go_wp2_with fail
       go_at_call 194;refine(ZbO Zhc g o cap st m en N d HN.out _ (S1.out.holds hg HH.out rfl) (S1.out.lt hg) (by rw[HN.out];exact hsz) (by omega) (by omega) (by rw[HN.out];omega)).mono ?_;rintro e1 w1 ⟨rfl,e,S2,R2⟩;have HV:=ZZ (HALF.out _ R2);have S3:=ZZ (ZG S1.out hg S2 R2.perm.1);clear S2 R2;have ES:=ZZ (show e.size=N from HV.out.perm.1.trans HN.out)
       go_wp2_with fail
       go_at_call 192;refine(IH a st mid e _ (by omega) ES.out (S3.out.holds hg HH.out HV.out.perm.1) (S3.out.lt hg) (HV.out.left (by omega) (by omega) (by rw[ES.out];omega))).mono ?_;rintro e2 w2 ⟨rfl,f,S4,pf,sf⟩;have PF:=ZZ (And.intro pf sf);have S5:=ZZ (ZG S3.out hg S4 pf.1);clear S4 pf sf
       go_wp2_with fail
       go_at_call 192;refine(IH mid en b f _ (by omega) (PF.out.1.1.trans ES.out) (S5.out.holds hg HH.out (PF.out.1.1.trans HV.out.perm.1)) (S5.out.lt hg) (HV.out.right PF.out.1 (by omega) (by omega) (by rw[ES.out];omega))).mono ?_;rintro e3 w3 ⟨rfl,k,S6,pk,sk⟩;have PK:=ZZ (And.intro pk sk);have S7:=ZZ (ZG S5.out hg S6 pk.1);clear S6 pk sk;have FIN:=ZZ (HV.out.done (by rw[HN.out];exact hbs) PF.out.1 PF.out.2 PK.out.1 PK.out.2);go_wp2
       go_end0
       exact⟨rfl,k,S7.out,FIN.out.1,FIN.out.2⟩
     · have t0:st<m:=by omega
       have t1:m<en:=by omega
       have t2:a<st:=by omega
       have t3:st<mid:=by omega
       have t4:mid<en:=by omega
       have t5: ¬en<b:=by omega
       have u5:decide (en<b)=false:=Yk t5
       go_wp2_with fail
       go_at_call 194;refine(ZbO Zhc g o cap st m en N d HN.out _ (S1.out.holds hg HH.out rfl) (S1.out.lt hg) (by rw[HN.out];exact hsz) (by omega) (by omega) (by rw[HN.out];omega)).mono ?_;rintro e1 w1 ⟨rfl,e,S2,R2⟩;have HV:=ZZ (HALF.out _ R2);have S3:=ZZ (ZG S1.out hg S2 R2.perm.1);clear S2 R2;have ES:=ZZ (show e.size=N from HV.out.perm.1.trans HN.out)
       go_wp2_with fail
       go_at_call 192;refine(IH a st mid e _ (by omega) ES.out (S3.out.holds hg HH.out HV.out.perm.1) (S3.out.lt hg) (HV.out.left (by omega) (by omega) (by rw[ES.out];omega))).mono ?_;rintro e2 w2 ⟨rfl,f,S4,pf,sf⟩;have PF:=ZZ (And.intro pf sf);have S5:=ZZ (ZG S3.out hg S4 pf.1);clear S4 pf sf;have PK:=ZZ (And.intro (permIn_refl f mid b) (HV.out.rightNo PF.out.1 (by omega)));have FIN:=ZZ (HV.out.done (by rw[HN.out];exact hbs) PF.out.1 PF.out.2 PK.out.1 PK.out.2);go_wp2
       go_end0
       exact⟨rfl,f,S5.out,FIN.out.1,FIN.out.2⟩
     · have t0:st<m:=by omega
       have t1:m<en:=by omega
       have t2: ¬a<st:=by omega
       have u2:decide (a<st)=false:=Yk t2
       have t3:st<mid:=by omega
       have t4:mid<en:=by omega
       have t5:en<b:=by omega
       go_wp2_with fail
       go_at_call 194;refine(ZbO Zhc g o cap st m en N d HN.out _ (S1.out.holds hg HH.out rfl) (S1.out.lt hg) (by rw[HN.out];exact hsz) (by omega) (by omega) (by rw[HN.out];omega)).mono ?_;rintro e1 w1 ⟨rfl,e,S2,R2⟩;have HV:=ZZ (HALF.out _ R2);have S3:=ZZ (ZG S1.out hg S2 R2.perm.1);clear S2 R2;have ES:=ZZ (show e.size=N from HV.out.perm.1.trans HN.out);have PF:=ZZ (And.intro (permIn_refl e a mid) (HV.out.leftNo (by omega)))
       go_wp2_with fail
       go_at_call 192;refine(IH mid en b e _ (by omega) (PF.out.1.1.trans ES.out) (S3.out.holds hg HH.out (PF.out.1.1.trans HV.out.perm.1)) (S3.out.lt hg) (HV.out.right PF.out.1 (by omega) (by omega) (by rw[ES.out];omega))).mono ?_;rintro e3 w3 ⟨rfl,k,S6,pk,sk⟩;have PK:=ZZ (And.intro pk sk);have S7:=ZZ (ZG S3.out hg S6 pk.1);clear S6 pk sk;have FIN:=ZZ (HV.out.done (by rw[HN.out];exact hbs) PF.out.1 PF.out.2 PK.out.1 PK.out.2);go_wp2
       go_end0
       exact⟨rfl,k,S7.out,FIN.out.1,FIN.out.2⟩
     · have t0:st<m:=by omega
       have t1:m<en:=by omega
       have t2: ¬a<st:=by omega
       have u2:decide (a<st)=false:=Yk t2
       have t3:st<mid:=by omega
       have t4:mid<en:=by omega
       have t5: ¬en<b:=by omega
       have u5:decide (en<b)=false:=Yk t5
       go_wp2_with fail
       go_at_call 194;refine(ZbO Zhc g o cap st m en N d HN.out _ (S1.out.holds hg HH.out rfl) (S1.out.lt hg) (by rw[HN.out];exact hsz) (by omega) (by omega) (by rw[HN.out];omega)).mono ?_;rintro e1 w1 ⟨rfl,e,S2,R2⟩;have HV:=ZZ (HALF.out _ R2);have S3:=ZZ (ZG S1.out hg S2 R2.perm.1);clear S2 R2;have ES:=ZZ (show e.size=N from HV.out.perm.1.trans HN.out);have PF:=ZZ (And.intro (permIn_refl e a mid) (HV.out.leftNo (by omega)));have PK:=ZZ (And.intro (permIn_refl e mid b) (HV.out.rightNo PF.out.1 (by omega)));have FIN:=ZZ (HV.out.done (by rw[HN.out];exact hbs) PF.out.1 PF.out.2 PK.out.1 PK.out.2);go_wp2
       go_end0
       exact⟨rfl,e,S3.out,FIN.out.1,FIN.out.2⟩
theorem ZcM (g o cap N:Nat) (hsz:N<1099511627776): ∀K:Nat,ZpR g o cap N K:=by
 intro K
 induction K with
 |zero=>intro a m b d w hK _ _ _ M;have:=M.am;have:=M.mb;omega
 |succ K IH=>
  intro a m b d w hK hN hH hg M;by_cases h0:m=a+1
  · exact ZiS g o cap a m b N d hN w hH hg (by rw[hN];exact hsz) M h0
  · by_cases h1:b=m+1
    · exact Zgm g o cap a m b N d hN w hH hg (by rw[hN];exact hsz) M h0 h1
    · exact Zgi g o cap N K IH a m b d w hK hN hH hg hsz M h0 h1
end
section
open Go.RowKit Go.Sort
theorem ZgA {s B a b:Nat} (ha:a=s * (2 * B)) (hb:b=a+2 * B):b=(s+1) * (2 * B):=by rw[Nat.add_mul,Nat.one_mul, ← ha];exact hb
theorem Zh3 (g o cap N:Nat) (d:Array Sp) (hN:d.size=N) (w:World) (hH:HoldsK enc 2 w g o d) (hg:g<w.heap.size) (hsz:N<1099511627776):
 Calls Tryz.prog 181 #[.slice (some ⟨g,o,none⟩) N cap,.int .i64 N,Zhc] w fun e w'=>e=.returned (.tuple #[])∧ ∃d',Sw w g o d' w'∧PermIn 0 N d d'∧SortedIn ltO 0 N d':=by
 have HN:=ZZ hN;have HH:=ZZ hH;have S0:=ZZ (show Sw w g o d w from SWK.start hH);have P0:=ZZ (permIn_refl d 0 N);have D0:=ZZ (Zg3.zero (lt:=ltO) d 20);clear hH hN
 go_enter Tryz.func181,Tryz.ntmps181
 go_wp2
 go_loopw [7,8] (fun va vb wr=> ∃(s a b:Nat) (e:Array Sp),va=.int .i64 a∧vb=.int .i64 b∧Hid (b=a+20)∧Hid (a=s * 20)∧a≤N∧Hid (Sw w g o e wr)∧Hid (PermIn 0 N d e)∧Hid (Zg3 ltO e 20 s)) (fun va _ _=>N - (intOf va).toNat)
 case atStart=>exact⟨0,0,20,d,by go_num,by go_num,by simp[Hid],by simp[Hid],by omega,S0,P0,D0⟩
 case round=>
  clear S0 P0 D0;obtain⟨s,a,b,e,rfl,rfl,HB,HA,haN,S1,P1,D1⟩:=hrel;have ES:=ZZ (show e.size=N from P1.out.1.trans HN.out);by_cases hlt:b≤N
  · have hab:a<b:=by have:=HB.out;omega
    go_wp2_with fail
    go_at_call 191;refine(Zct g o cap a b N e ES.out _ (S1.out.holds hg HH.out P1.out.1) (S1.out.lt hg) (by rw[ES.out];exact hsz) (by omega) (by rw[ES.out];exact hlt)).mono ?_;rintro e1 w1 ⟨rfl,f,S2,pf,sf⟩;have S3:=ZZ (ZG S1.out hg S2 pf.1);have P3:=ZZ (ZbT P1.out (permIn_mono e f a b 0 N (by omega) hlt (by rw[ES.out];exact Yi _) pf));have D3:=ZZ (D1.out.next HA.out HB.out (fun q hq=>pf.2.1 q (.inl hq)) sf);clear S2 pf sf;go_wp2
    go_roundw
    case rel=>exact⟨s+1,b,b+20,f,rfl,by go_num,rfl,by have:=HA.out;have:=HB.out;show _=_;omega,hlt,S3,P3,D3⟩
    case measure=>simp[intOf];omega
  · obtain⟨wo,rfl⟩: ∃wo:World,wo=wr:=⟨_,rfl⟩
    go_wp2_with fail
    go_at_call 191;refine(Zct g o cap a N N e ES.out _ (S1.out.holds hg HH.out P1.out.1) (S1.out.lt hg) (by rw[ES.out];exact hsz) haN (by rw[ES.out];exact Yi _)).mono ?_;rintro e1 w1 ⟨rfl,f,S2,pf,sf⟩;have S3:=ZZ (ZG S1.out hg S2 pf.1);have P3:=ZZ (ZbT P1.out (permIn_mono e f a N 0 N (by omega) (Yi _) (by rw[ES.out];exact Yi _) pf));have R3:=ZZ (Zg3.runs (lt:=ltO) (d:=f) (n:=N) (B:=20) (s:=s) (a:=a) (fun t ht=>Zaa (D1.out t ht) fun q _ hq=>pf.2.1 q (.inl (by have h1:(t+1) * 20≤s * 20:=Nat.mul_le_mul_right _ ht;have:=HA.out;omega))) HA.out sf);clear S2 pf sf D1 P1 S1 ES HA HB haN hlt
    obtain⟨w2,rfl⟩: ∃w2:World,w2=w1:=⟨_,rfl⟩
    go_wp2
    go_loopw [6] (fun vB wr=> ∃(B:Nat) (e:Array Sp),vB=.int .i64 B∧20≤B∧B≤2 * N+20∧Hid (Sw w g o e wr)∧Hid (PermIn 0 N d e)∧Hid (Zf6 ltO e N B 0)) (fun vB _=>N - (intOf vB).toNat)
    case atStart=>exact⟨20,f,by go_num,by omega,by omega,S3,P3,R3⟩
    case round=>
     clear S3 P3 R3;obtain⟨B,e,rfl,B1,B2,S1,P1,R1⟩:=hrel;by_cases hlt:B<N
     · have D0:=ZZ (Zg3.zero (lt:=ltO) e (2 * B))
       obtain⟨w3,rfl⟩: ∃w3:World,w3=wr:=⟨_,rfl⟩
       go_wp2
       go_loopw [7,8] (fun va vb wr=> ∃(s a b:Nat) (e:Array Sp),va=.int .i64 a∧vb=.int .i64 b∧Hid (b=a+2 * B)∧Hid (a=s * (2 * B))∧a≤N∧Hid (Sw w g o e wr)∧Hid (PermIn 0 N d e)∧Hid (Zg3 ltO e (2 * B) s)∧Hid (Zf6 ltO e N B a)) (fun va _ _=>N - (intOf va).toNat)
       case atStart=>exact⟨0,0,2 * B,e,by go_num,by first|rfl|go_num|simp,by simp[Hid],by simp[Hid],by omega,S1,P1,D0,R1⟩
       case round=>
        clear S1 P1 D0 R1;obtain⟨s,a,b,e,rfl,rfl,HB,HA,haN,S1,P1,D1,R1⟩:=hrel;have ES:=ZZ (show e.size=N from P1.out.1.trans HN.out);by_cases hbn:b≤N
        · have hab:a+B<b:=by have:=HB.out;omega
          have HM:=ZZ (show Mrg ltO e a (a+B) b from⟨by omega,hab,by rw[ES.out];exact hbn,R1.out.first (by omega),by
           have h2:=R1.out.second;rw[Nat.min_eq_left (by have:=HB.out;omega),show a+B+B=b by have:=HB.out;omega] at h2
           exact h2⟩)
          go_wp2_with fail
          rw[show(a:Int)+(B:Int)=((a+B:Nat):Int) by omega];go_at_call 192;refine(ZcM g o cap N hsz (b - a) a (a+B) b e _ (Yi _) ES.out (S1.out.holds hg HH.out P1.out.1) (S1.out.lt hg) HM.out).mono ?_;rintro e1 w1 ⟨rfl,k,S2,pf,sf⟩;have S3:=ZZ (ZG S1.out hg S2 pf.1);have P3:=ZZ (ZbT P1.out (permIn_mono e k a b 0 N (by omega) hbn (by rw[ES.out];exact Yi _) pf));have D3:=ZZ (D1.out.next HA.out HB.out (fun q hq=>pf.2.1 q (.inl hq)) sf);have R3:=ZZ (Zf6.skip (e:=k) (b:=b) R1.out 2 HB.out (fun q hq=>pf.2.1 q (.inr hq)));clear S2 pf sf;go_wp2
          go_roundw
          case rel=>exact⟨s+1,b,b+2 * B,k,rfl,by first|rfl|go_num|simp,rfl,ZgA HA.out HB.out,hbn,S3,P3,D3,R3⟩
          case measure=>simp[intOf];omega
        · by_cases hm:a+B<N
          · have HM:=ZZ (show Mrg ltO e a (a+B) N from⟨by omega,hm,by rw[ES.out];exact Yi _,R1.out.first (by omega),by
             have h2:=R1.out.second;rw[Nat.min_eq_right (by have:=HB.out;omega)] at h2
             exact h2⟩)
            have hmz2:(a:Int)+(B:Int)<(N:Int):=by omega
            go_wp2_with fail
            rw[show(a:Int)+(B:Int)=((a+B:Nat):Int) by omega];go_at_call 192;refine(ZcM g o cap N hsz (N - a) a (a+B) N e _ (Yi _) ES.out (S1.out.holds hg HH.out P1.out.1) (S1.out.lt hg) HM.out).mono ?_;rintro e1 w1 ⟨rfl,k,S2,pf,sf⟩;have S3:=ZZ (ZG S1.out hg S2 pf.1);have P3:=ZZ (ZbT P1.out (permIn_mono e k a N 0 N (by omega) (Yi _) (by rw[ES.out];exact Yi _) pf))
            have R3:=ZZ (Zg3.runs (lt:=ltO) (d:=k) (n:=N) (B:=2 * B) (s:=s) (a:=a) (fun t ht=>Zaa (D1.out t ht) fun q _ hq=>pf.2.1 q (.inl (by
             have h1:(t+1) * (2 * B)≤s * (2 * B):=Nat.mul_le_mul_right _ ht;rw[Nat.add_mul,Nat.one_mul] at h1
             have:=HA.out;omega))) HA.out sf)
            clear S2 pf sf hmz2;go_wp2
            go_roundw
            case rel=>exact⟨2 * B,k,by first|rfl|go_num|(rw[Int.mul_comm];go_num)|simp[Int.mul_comm],by omega,by omega,S3,P3,R3⟩
            case measure=>simp[intOf];omega
          · have R3:=ZZ (Zg3.runs (lt:=ltO) (d:=e) (n:=N) (B:=2 * B) (s:=s) (a:=a) D1.out HA.out (R1.out.last (by omega)))
            have hmz2: ¬(a:Int)+(B:Int)<(N:Int):=by omega
            go_wp2
            go_roundw
            case rel=>exact⟨2 * B,e,by first|rfl|go_num|(rw[Int.mul_comm];go_num)|simp[Int.mul_comm],by omega,by omega,S1,P1,R3⟩
            case measure=>simp[intOf];omega
     · have HS:=ZZ (R1.out.all (by omega))
       go_wp2
       go_end0
       exact⟨rfl,e,S1.out,P1.out,HS.out⟩
theorem Zd8 (g o cap N:Nat) (d:Array Sp) (hN:d.size=N) (w:World) (hH:HoldsK enc 2 w g o d) (hg:g<w.heap.size) (hsz:N<1099511627776):
 Calls Tryz.prog 160 #[.slice (some ⟨g,o,none⟩) N cap,Zhc] w fun e w'=>e=.returned (.tuple #[])∧ ∃d',Sw w g o d' w'∧PermIn 0 N d d'∧SortedIn ltO 0 N d':=by
 have HN:=ZZ hN;have HH:=ZZ hH;clear hN hH
 go_enter Tryz.func160,Tryz.ntmps160
 go_wp2_with fail
 go_at_call 181;refine(Zh3 g o cap N d HN.out w HH.out hg hsz).mono ?_;rintro e1 w1 ⟨rfl,f,S2,pf,sf⟩;have R:=ZZ (And.intro S2 (And.intro pf sf));clear S2 pf sf;go_wp2
 go_end0
 exact⟨rfl,f,R.out.1,R.out.2.1,R.out.2.2⟩
theorem ZhJ (l:List Sp) (t:Nat) (h:t<l.length * 2):(spc l)[t]? =some ((flatK enc 2 l.toArray)[t]!):=by
 rw[get_flatK _ _ _ _ (by simpa using h)]
 obtain⟨k,hk,ht⟩: ∃k,k<l.length∧(t=k * 2∨t=k * 2+1):=⟨t / 2,by omega,by omega⟩
 obtain⟨h0,h1⟩:=ZkO l k hk
 have hg:l.toArray[k]! =l[k]:=by simp[hk]
 rcases ht with rfl|rfl
 · rw[show k * 2 / 2=k by omega,show k * 2 % 2=0 by omega,h0,hg]
   simp[enc]
 · rw[show(k * 2+1) / 2=k by omega,show(k * 2+1) % 2=1 by omega,h1,hg]
   simp[enc]
theorem Zkh {w:World} {g n:Nat} {cur:Array Value} {t:TypeId} {l:List Sp} (hb:w.heap[g]? =some (.cells cur t (0,0))) (hn:l.length=n) (hc:cur.toList.take (n * 2)=spc l):HoldsK enc 2 w g 0 l.toArray:=by
 intro j hj;rw[size_flatK] at hj
 have hj':j<l.length * 2:=by simpa using hj
 refine⟨?_,?_⟩
 · rw[Nat.zero_add,cell_of_row w g j cur t (0,0) hb]
   have h1:=ZhJ l j hj';rw[← hc,List.getElem?_take,if_pos (by omega)] at h1;simpa using h1
 · exact frozen_of_row w g _ cur t hb
theorem ZoZ {w W:World} {g o:Nat} {d:Array Sp} {t:TypeId} {cur:Array Value} (hb:w.heap[g]? =some (.cells cur t (0,0))) (h:Sw w g o d W): ∃cur':Array Value,W.heap[g]? =some (.cells cur' t (0,0))∧cur'.size=cur.size:=by
 obtain⟨n,os,rfl⟩:=h;have hlt:g<w.heap.size:=(Yu.1 hb).1;refine⟨putCells id o (flatK enc 2 d) cur,?_,by simp[putCells]⟩;unfold sortWorldK;rw[Zdl _ _ _ (by rw[size_putRowK];exact hlt)];unfold putRowK putRow mapBlock;show(w.heap.modify g _)[g]? =_;rw[Array.getElem?_modify,if_pos rfl,hb];rfl
theorem Zn8 {w W:World} {g o:Nat} {d:Array Sp} (h:Sw w g o d W):Only (isb g) w W:=by
 obtain⟨n,os,rfl⟩:=h;refine⟨rfl,rfl,rfl,size_sortWorldK_c enc 2 w g o n d os,fun k hk hn=>?_⟩;unfold sortWorldK;rw[Zdl _ _ _ (by rw[size_putRowK];exact hk)];unfold putRowK putRow mapBlock;show(w.heap.modify g _)[k]? =_;rw[Array.getElem?_modify,if_neg (fun e=>hn e.symm)]
theorem ZoK {w W:World} {g cap n base:Nat} {cur:Array Value} {t:TypeId} {d d':Array Sp} (hb:w.heap[g]? =some (.cells cur t (0,0))) (hbase:base≤g) (hd:d.size=n) (hs:d'.size=d.size) (hH:HoldsK enc 2 w g 0 d) (h1:n≤cap) (h2:cap≤maxLen) (h3:cur.size=cap * 2) (h:Sw w g 0 d' W):
 W.ownsRow base t 2 (.slice (some ⟨g,0,none⟩) n cap) d'.toList.length (spc d'.toList):=by
 obtain⟨cur',hb',hz⟩:=ZoZ hb h;have hlt:g<w.heap.size:=(Yu.1 hb).1;have hW:=SWK.holds h hlt hH hs
 have hl:d'.toList.length=n:=by simpa using hs.trans hd
 rw[hl];refine⟨by rw[Zar,hl],.inr ⟨g,cap,cur',rfl,hbase,hb',h1,h2,hz.trans h3,?_⟩⟩;refine List.ext_getElem? fun j=>?_;rw[List.getElem?_take]
 split
 · rename_i hj
   have h4:=(hW j (by rw[size_flatK,hs,hd];exact hj)).1;rw[Nat.zero_add,cell_of_row W g j cur' t (0,0) hb'] at h4;rw[ZhJ d'.toList j (by rw[hl];exact hj)];simpa using h4
 · rw[List.getElem?_eq_none (by rw[Zar,hl];omega)]
theorem Zl3 {N:Nat} {d d':Array Sp} (hN:d.size=N) (h:PermIn 0 N d d'):d'.toList.Perm d.toList:=by
 have h2:=h.2.2;have h1:=h.1
 rwa [show d'.extract 0 N=d' by rw[← hN, ← h1];simp,show d.extract 0 N=d by rw[← hN];simp] at h2
theorem Zim {N:Nat} {d:Array Sp} (hN:d.size=N) (h:SortedIn ltO 0 N d):Zbn d.toList:=by
 refine List.pairwise_iff_getElem.2 fun i j hi hj hij=>?_
 have hi':i<d.size:=by simpa using hi
 have hj':j<d.size:=by simpa using hj
 have:=Zdo.1 (h i j (by omega) hij (by omega))
 simpa[hi',hj'] using this
theorem ZdQ (v:Value) (l:List Sp) (B:Nat) (w:World) (h:Sl w B 2 v l.length (spc l)) (hB:B≤w.heap.size) (hl:l.length≤1000000):
 Calls Tryz.prog 156 #[v] w fun e w'=> ∃v',e=.returned v'∧w'.ownsRow w.heap.size 61 2 v' l.length (spc l)∧Only nob w w':=by
 obtain⟨i0,hi0,hz0,hz1,hz2⟩:=info_parts Zae;have HA:=ZZ h;obtain⟨A,ca,rfl,hac,ham,hx,hs⟩:=h;unfold maxLen at ham;have q29: ∀(w:World) (n:Nat),(binOp .eql 31 (.slice A n ca) (.slice none 0 0)).run Tryz.prog w=.ok (.bool A.isNone) w:=fun w n=>Go.Lib.run_eql_slice_nil w _ _ A _ _ _ _ Tryz.underlying31;rcases A with _|ad
 · have h0:l.length=0:=by
    rcases Nat.eq_zero_or_pos l.length with h0|h0
    · exact h0
    · obtain⟨b,o,hA, -⟩:=hs h0;cases hA
   obtain rfl:l=[]:=List.eq_nil_of_length_eq_zero h0;clear hs hx h0
   go_enter Tryz.func156,Tryz.ntmps156
   go_wp2;go_ret;exact⟨_,rfl,World.ownsRow_nil _ _ _ _,Only.refl _ _⟩
 · have HS:=ZZ hs
   clear hs hx
   go_enter Tryz.func156,Tryz.ntmps156
   go_wp2_with (with_reducible refine Zf (o:=⟨some 7,_,_,_,_,_⟩) _ rfl (.tmp 5) (.tmp 6) _ rfl w.heap.size 61 i0 _ 2 16 Tryz.underlying31 hi0 hz0 hz1 hz2 rfl (by decide) (.slice (some ⟨w.heap.size,0,none⟩) 0 0) 0 [] rfl ?c1 B (.slice (some ad) l.length ca) l.length (spc l) rfl ?c6 (ZY _) ?c2 ?c3 ?c4 ?c5)
   case c1=>exact ZdP w _ _
   case c6=>exact HA.out.below (((Only.refl nob w).alloc _).below hB fun _ h=>h.elim)
   case c2=>unfold maxLen;omega
   case c3=>omega
   case c4=>simp
   case c5=>
    intro v1 w1 H1 o1 _;have O1:=ZZ (Zcc o1);clear o1;go_wp2;go_ret;exact⟨_,rfl,by simpa using H1.out,O1.out⟩
theorem Zeh (w:World):Calls Tryz.prog 191 #[.slice none 0 0,.int .i64 0,.int .i64 0,Zhc] w fun e w'=>e=.returned (.tuple #[])∧w=w':=by
 go_enter Tryz.func191,Tryz.ntmps191
 go_wp2
 go_loopw [8] (fun v wr=>v=.int .i64 1∧wr=w) (fun _ _=>0)
 case atStart=>exact⟨rfl,rfl⟩
 case round=>
  obtain⟨rfl,rfl⟩:=hrel;go_wp2
  go_end0
  exact⟨rfl,rfl⟩
theorem Zgh (w:World):Calls Tryz.prog 181 #[.slice none 0 0,.int .i64 0,Zhc] w fun e w'=>e=.returned (.tuple #[])∧w=w':=by
 go_enter Tryz.func181,Tryz.ntmps181
 go_wp2
 go_loopw [7,8] (fun v u wr=>v=.int .i64 0∧u=.int .i64 20∧wr=w) (fun _ _ _=>0)
 case atStart=>exact⟨rfl,rfl,rfl⟩
 case round=>
  obtain⟨rfl,rfl,rfl⟩:=hrel
  obtain⟨w1,rfl⟩: ∃w1:World,w1=wr:=⟨_,rfl⟩
  go_wp2_with (go_at_call 191;refine(Zeh _).mono ?_;rintro e w' ⟨rfl,rfl⟩)
  go_loopw [6] (fun v wx=>v=.int .i64 20∧wx=w1) (fun _ _=>0)
  case atStart=>exact⟨rfl,rfl⟩
  case round=>
   obtain⟨rfl,rfl⟩:=hrel;go_wp2
   go_end0
   exact⟨rfl,rfl⟩
theorem ZdN (w:World):Calls Tryz.prog 160 #[.slice none 0 0,Zhc] w fun e w'=>e=.returned (.tuple #[])∧w=w':=by
 go_enter Tryz.func160,Tryz.ntmps160
 go_wp2_with (go_at_call 181;refine(Zgh _).mono ?_;rintro e w' ⟨rfl,rfl⟩)
 go_end0
 exact⟨rfl,rfl⟩
def Zmm (l:List Sp) (w:World) (e:Ending) (w':World):Prop:= ∃v' L,e=.returned v'∧ZhK l l.length L∧w'.ownsRow w.heap.size 61 2 v' L.length (spc L)∧Only nob w w'
theorem Zg8 (v:Value) (l:List Sp) (B:Nat) (w:World) (h:Sl w B 2 v l.length (spc l)) (hB:B≤w.heap.size) (hl:l.length≤1000000):
 Calls Tryz.prog 128 #[v] w (Zmm l w):=by
 have HA:=ZZ h;clear h
 go_enter Tryz.func128,Tryz.ntmps128
 go_wp2_with fail
 go_at_call 156;refine(ZdQ v l B w HA.out hB hl).mono ?_;rintro e w1 ⟨v1,rfl,hown,o⟩
 rcases hown.2 with⟨rfl,h0⟩|⟨g,cap,cur,rfl,hbase,hg,h1,h2,h3,h4⟩
 · obtain rfl:l=[]:=List.eq_nil_of_length_eq_zero h0
   have O:=ZZ o;clear o hown h0
   go_wp2_with (go_at_call 160;refine(ZdN _).mono ?_;rintro e w' ⟨rfl,rfl⟩)
   go_ret;exact⟨_,[],rfl,⟨List.Pairwise.nil,List.Perm.refl _⟩,World.ownsRow_nil _ _ _ _,O.out⟩
 · have HH:=Zkh (l:=l) hg rfl h4
   have hlt:g<w1.heap.size:=(Yu.1 hg).1;have HF:=ZZ (fun (d':Array Sp) (W:World) (S:Sw w1 g 0 d' W) (hs:d'.size=l.toArray.size)=>ZoK (base:=w.heap.size) hg hbase (d:=l.toArray) (n:=l.length) (by simp) hs HH h1 h2 h3 S);have HHH:=ZZ HH;have O:=ZZ o;clear o hown HH h1 h2 h3 h4 hg hbase
   go_wp2_with fail
   go_at_call 160;refine(Zd8 g 0 cap l.length l.toArray (by simp) w1 HHH.out hlt (by omega)).mono ?_;rintro e w2 ⟨rfl,d',S,pf,sf⟩;have HO:=ZZ (HF.out d' w2 S pf.1);have HP:=ZZ (show ZhK l l.length d'.toList from⟨Zim (by rw[pf.1];simp) sf,by have:=Zl3 (N:=l.length) (by simp) pf;simpa using this⟩);have O2:=ZZ (O.out.andThen (Zn8 S) (fun i hi e=>by have:=HF.out d' w2 S pf.1;have hb:=(Zr this (k:=g) rfl).1;unfold isb at e;omega));clear S pf sf;go_wp2;go_ret;exact⟨_,d'.toList,rfl,HP.out,by have:=HO.out;simpa using this,O2.out⟩
theorem Zku:SpTotal:=by
 intro v l B w h hB hlen hf;have HA:=ZZ h;obtain⟨A,ca,rfl,hac,ham, -⟩:=h;unfold maxLen at ham
 go_enter Tryz.func86,Tryz.ntmps86
 go_wp2_with fail
 go_loopw [3,8] (fun n i wr=> ∃k:Nat,k≤l.length∧i=.int .i64 k∧n=.int .i64 (Za2 (l.take k))∧Only nob w wr) (fun _ i _=>l.length - (intOf i).toNat)
 case atStart=>exact⟨0,Yt _,rfl,rfl,Only.refl _ _⟩
 case round=>
  obtain⟨k,hk,rfl,rfl,hO⟩:=hrel;have HX:=ZZ hO;by_cases hlt:k<l.length
  · obtain⟨x,hx⟩: ∃x,l[k]? =some x:=⟨_,Ya hlt⟩
    obtain⟨b,o,rfl,hb,c0,c1⟩:=Zy HA.out (hO.below hB fun _ h=>h.elim) hx;have HXX:=ZZ hx;have hfx:=hf.get hx;have hr:=Zgd (l.take k)
    obtain⟨T,hT⟩: ∃T,T=Za2 (l.take k):=⟨_,rfl⟩
    rw[← hT] at hr ⊢;have HT:=ZZ hT;clear hO hx hT;by_cases hp:x.ok
    · have HP:=ZZ hp
      have hb1:1≤x.2∧x.2≤1099511627776:=by unfold Sp.ok Za6 at hp;omega
      have HS:=ZZ (Zj9 HXX.out hp)
      have HE:=ZZ (show Za2 (l.take (k+1))=min (T+x.2) 4611686018427387904 by
       by_cases hc:4611686018427387904<T+x.2
       · rw[HS.out.2 (by rw[← HT.out];exact hc)];unfold Zea;omega
       · rw[HS.out.1 (by rw[← HT.out];unfold Zea;omega), ← HT.out];omega)
      clear hp
      go_wp2_with fail
      refine(Zbs HP.out _).mono ?_;rintro e w1 ⟨rfl,g⟩;have HB:=ZZ ((Zb1.new wr x).grw g);have HO:=ZZ ((HX.out.alloc _).trans g.only);clear g;obtain⟨b0,b1⟩:=HB.out;go_wp2
      go_roundw
      case rel=>exact⟨k+1,by omega,by go_num,by rw[HE.out],HO.out⟩
      case measure=>simp[intOf];omega
    · have HP:=ZZ hp
      have HE:=ZZ (ZiU HXX.out hp);clear hp
      go_wp2_with fail
      refine(Zej hfx HP.out _).mono ?_;rintro e w1 ⟨rfl,g⟩;have HO:=ZZ ((HX.out.alloc _).trans g.only);clear g;go_wp2
      go_roundw
      case rel=>exact⟨k+1,by omega,by go_num,by rw[HE.out,HT.out],HO.out⟩
      case measure=>simp[intOf];omega
  · obtain rfl:k=l.length:=by omega
    have HE:=ZZ (show l.take l.length=l from List.take_length);clear hO;go_wp2;go_ret;exact⟨by show Ending.returned (Value.int .i64 (Za2 (l.take l.length)))=_;rw[HE.out],HX.out⟩
structure Up2 (L:List Sp) (k:Nat) (z:Int):Prop where
 apart:Z7 (L.take k)
 ends: ∀y∈L.take k,y.1+y.2≤z
 last:z=0∨ ∃(j:Nat) (y:Sp),j<k∧L[j]? =some y∧y.1+y.2=z
 lo:0≤z
 hi:z≤1099511627776
theorem Up2.start (L:List Sp):Up2 L 0 0:=⟨by simp[Z7],by simp,.inl rfl,by omega,by omega⟩
theorem Up2.next {L:List Sp} {k:Nat} {z:Int} {x:Sp} (h:Up2 L k z) (hx:L[k]? =some x) (hok:x.ok) (hz:z≤x.1):Up2 L (k+1) (x.1+x.2):=by
 have hb:=hok;unfold Sp.ok Za6 at hb;refine⟨?_,fun y hy=>?_,.inr ⟨k,x,by omega,hx,rfl⟩,by omega,by omega⟩
 · rw[ZC hx]
   exact Zh4 h.apart hok fun y hy=>Int.le_trans (h.ends y hy) hz
 · rw[ZC hx] at hy
   rcases Yq.1 hy with hy|hy
   · have:=h.ends y hy;omega
   · rw[Ys.1 hy];omega
theorem Up2.not {L:List Sp} {k:Nat} {z:Int} {x:Sp} (h:Up2 L k z) (hs:Zbn L) (hx:L[k]? =some x) (hok:x.ok) (hz:x.1<z): ¬Z7 L:=by
 rcases h.last with h0|⟨j,y,hj,hy,he⟩
 · have:=hok.1;omega
 · have hle:Sp.le y x:=by
    obtain⟨h1,rfl⟩:=Yj.1 hx;obtain⟨h2,rfl⟩:=Yj.1 hy;exact List.pairwise_iff_getElem.1 hs j k _ _ hj
   exact Zkw hx hy hj (by unfold Sp.le at hle;omega) (by omega)
theorem Zj1:SpApart:=by
 intro v l B w h hB hlen hf
 obtain⟨r,hr⟩: ∃r,decide (Z7 l)=r:=⟨_,rfl⟩
 rw[hr];have HR:=ZZ hr;have HA:=ZZ h;have HF:=ZZ hf;clear h hr hf
 go_enter Tryz.func173,Tryz.ntmps173
 go_wp2_with fail
 go_at_call 128;refine(Zg8 v l B w HA.out hB (by omega)).mono ?_;rintro e w1 ⟨v1,L,rfl,hL,hown,o⟩
 have hll:L.length=l.length:=by rw[hL.2.length_eq,List.take_length]
 have hperm:L.Perm l:=by have:=hL.2;rwa [List.take_length] at this
 have HS:=ZZ (Sl.of_own hown hown.1);have HSO:=ZZ hL.1
 have HRL:=ZZ (show ∀b:Bool,(Z7 L↔b=true)→r=b from fun b hb=>by
  rw[← HR.out]
  cases b with
  |true=>exact Yl ((ZeE hperm).1 (hb.2 rfl))
  |false=>exact Yk fun hh=>by have:=hb.1 ((ZeE hperm).2 hh);cases this)
 have HFL:=ZZ (show ZfO L from fun x hx=>HF.out x (hperm.mem_iff.1 hx));have O1:=ZZ o;obtain⟨A,ca,rfl,hac,ham⟩:=Zl hown;unfold maxLen at ham
 have hln:L.length≤40000:=by omega
 clear hL hown o hperm hll HR HF;have hU:=ZZ (Up2.start L);go_wp2
 go_loopw [3,9] (fun n i wr=> ∃(k:Nat) (z:Int),k≤L.length∧i=.int .i64 k∧n=.int .i64 z∧Only nob w1 wr∧Hid (Up2 L k z)) (fun _ i _=>L.length - (intOf i).toNat)
 case atStart=>exact⟨0,0,Yt _,rfl,rfl,Only.refl _ _,hU⟩
 case round=>
  clear hU;obtain⟨k,z,hk,rfl,rfl,hO,HU⟩:=hrel;have HX:=ZZ hO;by_cases hlt:k<L.length
  · obtain⟨x,hx⟩: ∃x,L[k]? =some x:=⟨_,Ya hlt⟩
    obtain⟨b,o,rfl,hb,c0,c1⟩:=Zy HS.out hO.whole hx;have HXX:=ZZ hx;have hfx:=HFL.out.get hx;clear hO hx;by_cases hp:x.ok
    · have HP:=ZZ hp
      have hb1:0≤x.1∧x.1≤1099511627776∧1≤x.2∧x.2≤1099511627776:=by unfold Sp.ok Za6 at hp;omega
      clear hp;by_cases hz:x.1<z
      · have HE:=ZZ (HRL.out false ⟨fun h=>absurd h (HU.out.not HSO.out HXX.out HP.out hz),fun h=>by cases h⟩)
        go_wp2_with fail
        refine(Zbs HP.out _).mono ?_;rintro e w2 ⟨rfl,g⟩;have HB:=ZZ ((Zb1.new wr x).grw g);have HO:=ZZ ((HX.out.alloc _).trans g.only);clear g;obtain⟨b0,b1⟩:=HB.out;go_wp2;go_ret;exact⟨Za HE.out.symm,O1.out.trans HO.out⟩
      · have HE:=ZZ (HU.out.next HXX.out HP.out (by omega))
        go_wp2_with fail
        refine(Zbs HP.out _).mono ?_;rintro e w2 ⟨rfl,g⟩;have HB:=ZZ ((Zb1.new wr x).grw g);have HO:=ZZ ((HX.out.alloc _).trans g.only);clear g;obtain⟨b0,b1⟩:=HB.out
        go_wp2_with fail
        go_at_call 89;refine(ZaE x _ HP.out).mono ?_;rintro e w3 ⟨rfl,g⟩;have HO2:=ZZ (HO.out.trans g.only);clear g b0 b1;go_wp2
        go_roundw
        case rel=>exact⟨k+1,x.1+x.2,by omega,by go_num,rfl,HO2.out,HE⟩
        case measure=>simp[intOf];omega
    · have HP:=ZZ hp
      have HE:=ZZ (HRL.out false ⟨fun h=>absurd h (Zke HXX.out hp),fun h=>by cases h⟩);clear hp
      go_wp2_with fail
      refine(Zej hfx HP.out _).mono ?_;rintro e w2 ⟨rfl,g⟩;have HO:=ZZ ((HX.out.alloc _).trans g.only);clear g;go_wp2;go_ret;exact⟨Za HE.out.symm,O1.out.trans HO.out⟩
  · obtain rfl:k=L.length:=by omega
    have HE:=ZZ (HRL.out true ⟨fun _=>rfl,fun _=>by have:=HU.out.apart;rwa [List.take_length] at this⟩);clear hO;go_wp2;go_ret;exact⟨Za HE.out.symm,O1.out.trans HX.out⟩
def okL (l:List Sp):List Sp:=l.filter fun x=>decide x.ok
theorem ZnW {l:List Sp} {k:Nat} {x:Sp} (h:l[k]? =some x) (hx:x.ok):okL (l.take (k+1))=okL (l.take k)++[x]:=by
 rw[ZC h];unfold okL;rw[List.filter_append];simp[hx]
theorem Zo9 {l:List Sp} {k:Nat} {x:Sp} (h:l[k]? =some x) (hx: ¬x.ok):okL (l.take (k+1))=okL (l.take k):=by
 rw[ZC h];unfold okL;rw[List.filter_append];simp[hx]
theorem ZjE (l:List Sp):(okL l).length≤l.length:=List.length_filter_le _ _
theorem ZoS {l:List Sp}: ∀x∈okL l,Sp.ok x:=fun x hx=>by simpa using(List.mem_filter.1 hx).2
theorem Zni (l:List Sp) (p:Int):cov (okL l) p↔cov l p:=
 ⟨fun ⟨x,hx,hp⟩=>⟨x,(List.mem_filter.1 hx).1,hp⟩,fun ⟨x,hx,hp⟩=>⟨x,List.mem_filter.2 ⟨hx,by simpa using hp.1⟩,hp⟩⟩
theorem Zfh (v:Value) (l:List Sp) (B:Nat) (w:World) (h:Sl w B 2 v l.length (spc l)) (hB:B≤w.heap.size) (hlen:l.length≤40000) (hf:ZfO l):
 Calls Tryz.prog 129 #[v] w fun e w'=> ∃v',e=.returned v'∧w'.ownsRow w.heap.size 61 2 v' (okL l).length (spc (okL l))∧Only nob w w':=by
 obtain⟨i0,hi0,hz0,hz1,hz2⟩:=info_parts Zae;have HA:=ZZ h;obtain⟨A,ca,rfl,hac,ham, -⟩:=h;unfold maxLen at ham
 go_enter Tryz.func129,Tryz.ntmps129
 go_wp2_with fail
 go_loopw [3,8] (fun n i wr=> ∃k:Nat,k≤l.length∧i=.int .i64 k∧Hid (wr.ownsRow w.heap.size 61 2 n (okL (l.take k)).length (spc (okL (l.take k))))∧Only nob w wr) (fun _ i _=>l.length - (intOf i).toNat)
 case atStart=>exact⟨0,Yt _,rfl,World.ownsRow_nil _ _ _ _,Only.refl _ _⟩
 case round=>
  obtain⟨k,hk,rfl,HW,hO⟩:=hrel;have HX:=ZZ hO;by_cases hlt:k<l.length
  · obtain⟨x,hx⟩: ∃x,l[k]? =some x:=⟨_,Ya hlt⟩
    obtain⟨b,o,rfl,hb,c0,c1⟩:=Zy HA.out (hO.below hB fun _ h=>h.elim) hx;have HXX:=ZZ hx;have hfx:=hf.get hx
    have hkl:(okL (l.take k)).length≤40000:=by have:=ZjE (l.take k);have:=List.length_take_le k l;omega
    have hws:w.heap.size≤wr.heap.size:=hO.size;clear hO hx;by_cases hp:x.ok
    · have HP:=ZZ hp
      have HE:=ZZ (ZnW HXX.out hp);clear hp
      go_wp2_with fail
      refine(Zbs HP.out _).mono ?_;rintro e w1 ⟨rfl,g⟩;have HB:=ZZ ((Zb1.new wr x).grw g);have HO:=ZZ ((HX.out.alloc _).trans g.only);have HW1:=ZZ (Zb (HW.out.alloc (.cells #[.int .i64 x.1,.int .i64 x.2] 61)) g.only fun _ _ h=>h);have hw1:w.heap.size≤w1.heap.size:=HO.out.size;clear g;obtain⟨b0,b1⟩:=HB.out
      obtain⟨K,hK⟩: ∃K,K=okL (l.take k):=⟨_,rfl⟩
      rw[← hK] at HW1 HE hkl
      obtain⟨n,hn⟩: ∃n,n=K.length:=⟨_,rfl⟩
      rw[← hn] at HW1 hkl;have HN:=ZZ hn;obtain⟨A1,c1',rfl,hc1,hm1⟩:=Zl HW1.out;unfold maxLen at hm1;clear hK hn HW
      go_wp2_with (with_reducible refine Zf (o:=⟨some 17,_,_,_,_,_⟩) _ rfl (.tmp 14) (.tmp 16) _ rfl w.heap.size 61 i0 _ 2 16 Tryz.underlying31 hi0 hz0 hz1 hz2 rfl (by decide) (.slice A1 n c1') n (spc K) rfl ?d1 (w1.heap.size+1) (.slice (some ⟨w1.heap.size,0,none⟩) 1 1) 1 (spc [x]) rfl ?d6 (ZY _) ?d2 ?d3 ?d4 ?d5)
      case d1=>exact HW1.out.alloc _
      case d6=>
       have:=Sl.of_blk (size:=2) (n:=1) (c:=1) (Blk.new w1 61 #[.int .i64 x.1,.int .i64 x.2]) rfl (Yi _) (by decide)
       simpa[spc] using this
      case d2=>unfold maxLen;omega
      case d3=>omega
      case d4=>simp;omega
      case d5=>
       intro v1 w2 H1 o1 _;have HO2:=ZZ (Zbi (HO.out.alloc (.cells #[.int .i64 x.1,.int .i64 x.2] 61)) (HW1.out.alloc (.cells #[.int .i64 x.1,.int .i64 x.2] 61)) o1 (Yi _))
       have HW2:=ZZ (show w2.ownsRow w.heap.size 61 2 v1 (okL (l.take (k+1))).length (spc (okL (l.take (k+1)))) by
        rw[HE.out,Z9,Yr, ← HN.out]
        exact H1.out)
       clear H1 o1;go_wp2
       go_roundw
       case rel=>exact⟨k+1,by omega,by go_num,HW2,HO2.out⟩
       case measure=>simp[intOf];omega
    · have HP:=ZZ hp
      have HE:=ZZ (Zo9 HXX.out hp);clear hp
      go_wp2_with fail
      refine(Zej hfx HP.out _).mono ?_;rintro e w1 ⟨rfl,g⟩;have HO:=ZZ ((HX.out.alloc _).trans g.only);have HW1:=ZZ (Zb (HW.out.alloc (.cells #[.int .i64 x.1,.int .i64 x.2] 61)) g.only fun _ _ h=>h);clear g;go_wp2
      go_roundw
      case rel=>exact⟨k+1,by omega,by go_num,by rw[HE.out];exact HW1,HO.out⟩
      case measure=>simp[intOf];omega
  · obtain rfl:k=l.length:=by omega
    have HE:=ZZ (show l.take l.length=l from List.take_length);clear hO;go_wp2;go_ret;exact⟨_,rfl,by have:=HW.out;rwa [HE.out] at this,HX.out⟩
def Zc1 (O:List Sp) (a b:Int):List Sp:=if a<b then O++[(a,b - a)] else O
theorem ZgO (v:Value) (O:List Sp) (a b:Int) (B:Nat) (w:World) (h:w.ownsRow B 61 2 v O.length (spc O)) (hB:B≤w.heap.size) (hn:O.length≤1000000) (ha:0≤a∧a≤1099511627776) (hb:0≤b∧b≤1099511627776):
 Calls Tryz.prog 90 #[v,.int .i64 a,.int .i64 b] w fun e w'=> ∃v',e=.returned v'∧w'.ownsRow B 61 2 v' (Zc1 O a b).length (spc (Zc1 O a b))∧Only (fun k=>v.ownBlock=some k) w w'∧(v'.ownBlock=v.ownBlock∨ ∃k,v'.ownBlock=some k∧w.heap.size≤k):=by
 obtain⟨i0,hi0,hz0,hz1,hz2⟩:=info_parts Zae;have HW:=ZZ h;obtain⟨A,c,rfl,hc,hm⟩:=Zl h;unfold maxLen at hm;by_cases hab:a<b
 · have HE:=ZZ (show Zc1 O a b=O++[(a,b - a)] by unfold Zc1;rw[if_pos hab])
   obtain⟨n,hn1⟩: ∃n,n=O.length:=⟨_,rfl⟩
   rw[← hn1] at HW hc hn ⊢;have HN:=ZZ hn1
   have hab': ¬b≤a:=by omega
   clear h hn1
   go_enter Tryz.func90,Tryz.ntmps90
   go_wp2_with (with_reducible refine Zf (o:=⟨some 18,_,_,_,_,_⟩) _ rfl (.tmp 11) (.tmp 17) _ rfl B 61 i0 _ 2 16 Tryz.underlying31 hi0 hz0 hz1 hz2 rfl (by decide) (.slice A n c) n (spc O) rfl ?d1 (w.heap.size+1) (.slice (some ⟨w.heap.size,0,none⟩) 1 1) 1 (spc [(a,b - a)]) rfl ?d6 (ZY _) ?d2 ?d3 ?d4 ?d5)
   case d1=>exact HW.out.alloc _
   case d6=>
    have:=Sl.of_blk (size:=2) (n:=1) (c:=1) (Blk.new w 61 #[.int .i64 a,.int .i64 (b - a)]) rfl (Yi _) (by decide)
    simpa[spc] using this
   case d2=>unfold maxLen;omega
   case d3=>omega
   case d4=>first|omega|(simp;omega)
   case d5=>
    intro v1 w1 H1 o1 hv;have HO:=ZZ ((((Only.refl (fun k=>(Value.slice A n c).ownBlock=some k) w)).alloc _).trans o1)
    have HW1:=ZZ (show w1.ownsRow B 61 2 v1 (Zc1 O a b).length (spc (Zc1 O a b)) by
     rw[HE.out,Z9,Yr, ← HN.out]
     exact H1.out)
    have HV:=ZZ (show v1.ownBlock=(Value.slice A n c).ownBlock∨ ∃k,v1.ownBlock=some k∧w.heap.size≤k from by
     rcases hv with e|e
     · exact .inl e
     · exact .inr ⟨_,e,by first|omega|(simp;omega)⟩)
    clear H1 o1 hv;go_wp2;go_ret;exact⟨_,rfl,HW1.out,HO.out,HV.out⟩
 · have HE:=ZZ (show Zc1 O a b=O by unfold Zc1;rw[if_neg hab])
   have hab':b≤a:=by omega
   clear h
   go_enter Tryz.func90,Tryz.ntmps90
   go_wp2;go_ret;exact⟨_,rfl,by rw[HE.out];exact HW.out,Only.refl _ _,.inl rfl⟩
def ZdA (L:List Sp) (k:Nat) (r:Sp):Prop:=(k=0∧L[0]? =some r)∨(1≤k∧Merge (L.take k) [] r∧ ∃x,L[0]? =some x∧r.1=x.1)
theorem ZdA.ok {L:List Sp} {k:Nat} {r:Sp} (h:ZdA L k r) (hL: ∀x∈L,Sp.ok x):r.ok:=by
 rcases h with⟨_,h⟩|⟨_,h,_⟩
 · exact hL r (Yn h)
 · exact h.joined.1 r (by simp)
theorem ZdA.le {L:List Sp} {k:Nat} {r x:Sp} (h:ZdA L k r) (hs:Zbn L) (hx:L[k]? =some x):r.1≤x.1:=by
 have key: ∀y,L[0]? =some y→y.1≤x.1:=by
  intro y hy;obtain⟨h1,rfl⟩:=Yj.1 hx;obtain⟨h2,rfl⟩:=Yj.1 hy;rcases Nat.eq_zero_or_pos k with h0|h0
  · subst h0;exact Int.le_refl _
  · have:=List.pairwise_iff_getElem.1 hs 0 k h2 h1 h0
    unfold Sp.le at this;omega
 rcases h with⟨_,h⟩|⟨_,_,y,hy,he⟩
 · exact key _ h
 · rw[he];exact key _ hy
theorem ZdA.next {L:List Sp} {k:Nat} {r x:Sp} {s:Int} (h:ZdA L k r) (hs:Zbn L) (hL: ∀x∈L,Sp.ok x) (hx:L[k]? =some x) (hle: ¬r.1+r.2<x.1) (hq:s=max (r.1+r.2) (x.1+x.2) - r.1):ZdA L (k+1) (r.1,s):=by
 have hxo:=hL x (Yn hx);have hr:=h.le hs hx
 rcases h with⟨rfl,h⟩|⟨h1,hm,y,hy,he⟩
 · obtain rfl:r=x:=by rw[h] at hx;exact Yo hx
   refine .inr ⟨by omega,?_,r,h,rfl⟩
   have hss:s=r.2:=by omega
   rw[ZC h,hss];exact Merge.first (fun p=>by simp[cov]) hxo
 · refine .inr ⟨by omega,?_,y,hy,he⟩
   rw[ZC hx];exact hm.grow hxo hr (by omega) hq
theorem ZdA.merge {L:List Sp} {k:Nat} {r:Sp} (h:ZdA L k r) (hk:1≤k):Merge (L.take k) [] r:=by
 rcases h with⟨h0,_⟩|⟨_,h,_⟩
 · omega
 · exact h
def ZkE (L:List Sp) (w:World) (e:Ending) (w':World):Prop:= ∃(r:Sp) (k:Nat),e=.returned (.tuple #[.agg #[.int .i64 r.1,.int .i64 r.2],.int .i64 k])∧1≤k∧k≤L.length∧Merge (L.take k) [] r∧(∀x,L[k]? =some x→r.1+r.2<x.1)∧Only nob w w'
theorem Zky {r x:Sp} (hr:r.ok) (hx:x.ok):0≤r.1∧r.1≤1099511627776∧1≤r.2∧r.2≤1099511627776∧0≤x.1∧x.1≤1099511627776∧1≤x.2∧x.2≤1099511627776:=by unfold Sp.ok Za6 at hr hx;omega
theorem ZjK (v:Value) (L:List Sp) (B:Nat) (w:World) (h:Sl w B 2 v L.length (spc L)) (hB:B≤w.heap.size) (hlen:L.length≤1000000) (hn:0<L.length) (hs:Zbn L) (hL: ∀x∈L,Sp.ok x):
 Calls Tryz.prog 130 #[v] w (ZkE L w):=by
 have HA:=ZZ h;have HS:=ZZ hs;have HL:=ZZ hL;obtain⟨A,ca,rfl,hac,ham, -⟩:=h;unfold maxLen at ham
 obtain⟨x0,hx0⟩: ∃x,L[0]? =some x:=⟨_,Ya hn⟩
 have R0:=ZZ (show ZdA L 0 x0 from .inl ⟨rfl,hx0⟩);obtain⟨b,o,rfl,hb,c0,c1⟩:=Zy HA.out (Below.refl _ _) hx0;have hbw:b<w.heap.size:=Yv hb hB;rw[Nat.zero_mul,Nat.add_zero] at c0 c1;clear hs hL hx0
 go_enter Tryz.func130,Tryz.ntmps130
 go_wp2
 have K0: ∃W0,((w.alloc (.cells #[.int .i64 0,.int .i64 0] 61)).alloc (.cells #[.int .i64 x0.1,.int .i64 x0.2] 61))=W0∧Hid (Only nob w W0∧Blk W0 w.heap.size 61 #[.int .i64 0,.int .i64 0]∧Blk W0 (w.heap.size+1) 61 #[.int .i64 x0.1,.int .i64 x0.2]):=by
  refine⟨_,rfl,((Only.refl nob w).alloc _).alloc _,(Blk.new w _ _).alloc _,?_⟩;exact Blk.newAt _ _ _ _ (by simp)
 obtain⟨W0,hW0,H0⟩:=K0;rw[hW0];clear hW0 c0 c1
 go_loopw [12] (fun i wr=> ∃(k:Nat) (r:Sp),i=.int .i64 k∧k≤L.length∧Hid (ZdA L k r)∧Hid (Only nob w wr∧Blk wr w.heap.size 61 #[.int .i64 0,.int .i64 0]∧Blk wr (w.heap.size+1) 61 #[.int .i64 r.1,.int .i64 r.2])) (fun i _=>L.length - (intOf i).toNat)
 case atStart=>exact⟨0,x0,rfl,by omega,R0,H0⟩
 case round=>
  clear R0 H0;obtain⟨k,r,rfl,hk,R1,H1⟩:=hrel;have RO:=ZZ (R1.out.ok HL.out);by_cases hlt:k<L.length
  · obtain⟨x,hx⟩: ∃x,L[k]? =some x:=⟨_,Ya hlt⟩
    obtain⟨b',o',e',hb',c0,c1⟩:=Zy HA.out (H1.out.1.below hB fun _ h=>h.elim) hx
    obtain⟨rfl,rfl⟩:b=b'∧o=o':=by simpa using e'
    have HX:=ZZ hx;have XO:=ZZ (HL.out x (Yn hx));have hnum:=Zky RO.out XO.out;clear hx hb' e'
    go_upto_region 5 with fail
    have K1: ∃W1,(wr.alloc (.cells #[.int .i64 x.1,.int .i64 x.2] 61))=W1∧Hid (Only nob w W1∧Blk W1 w.heap.size 61 #[.int .i64 0,.int .i64 0]∧Blk W1 (w.heap.size+1) 61 #[.int .i64 r.1,.int .i64 r.2]∧Blk W1 wr.heap.size 61 #[.int .i64 x.1,.int .i64 x.2]):=
     ⟨_,rfl,H1.out.1.alloc _,H1.out.2.1.alloc _,H1.out.2.2.alloc _,Blk.new _ _ _⟩
    obtain⟨W1,hW1,H2⟩:=K1;rw[hW1];clear hW1 c0 c1;have d0: ∀n os,(grow (W1.drewN n) os).cell? ⟨wr.heap.size,0,none⟩=some (.int .i64 x.1):=fun n os=>(Zp n os).only.keeps (H2.out.2.2.2.cell 0);have e0: ∀n os,(grow (W1.drewN n) os).cell? ⟨w.heap.size+1,0,none⟩=some (.int .i64 r.1):=fun n os=>(Zp n os).only.keeps (H2.out.2.2.1.cell 0);have e1: ∀n os,(grow (W1.drewN n) os).cell? ⟨w.heap.size+1,1,none⟩=some (.int .i64 r.2):=fun n os=>(Zp n os).only.keeps (H2.out.2.2.1.cell 1);have mixed:=Zao;by_cases hcut:r.1+r.2<x.1
    · have k1:1≤k:=by
       rcases R1.out with⟨h0,h1⟩|⟨h0,_⟩
       · subst h0
         have:=HX.out
         rw[h1] at this;obtain rfl:=Yo this;omega
       · exact h0
      go_quiet_grown (first|(go_at_call 89;with_reducible refine Zab (ZaE _ _ RO.out)))
      obtain⟨W3,hW3,HG⟩:=Zs W1 nq osq;rw[hW3];clear hW3 d0 e0 e1 mixed;have f0:W3.cell? ⟨w.heap.size+1,0,none⟩=some (.int .i64 r.1):=HG.out.only.keeps (H2.out.2.2.1.cell 0);have f1:W3.cell? ⟨w.heap.size+1,1,none⟩=some (.int .i64 r.2):=HG.out.only.keeps (H2.out.2.2.1.cell 1);have B2:=ZZ (H2.out.2.1.keep HG.out.only id);have g0:W3.cell? ⟨w.heap.size,0,none⟩=some (.int .i64 0):=B2.out.cell 0;have g1:W3.cell? ⟨w.heap.size,1,none⟩=some (.int .i64 0):=B2.out.cell 1;have g2:=B2.out.free 0;have g3:=B2.out.free 1;have HO:=ZZ (H2.out.1.trans HG.out.only);go_wp2
      have K4: ∃W4,((W3.setCell ⟨w.heap.size,0,none⟩ (.int .i64 r.1)).setCell ⟨w.heap.size,1,none⟩ (.int .i64 r.2))=W4∧Only nob w W4∧Blk W4 w.heap.size 61 #[.int .i64 r.1,.int .i64 r.2]:=
       ⟨_,rfl,(HO.out.setCell (p:=⟨w.heap.size,0,none⟩) (fun h=>absurd h (Nat.lt_irrefl _)) _).setCell (p:=⟨w.heap.size,1,none⟩) (fun h=>absurd h (Nat.lt_irrefl _)) _,by simpa using(B2.out.put 0 (.int .i64 r.1)).put 1 (.int .i64 r.2)⟩
      obtain⟨W4,hW4,O4,B4⟩:=K4;rw[hW4];have h0:=B4.cell 0;have h1:=B4.cell 1;simp at h0 h1;refine bodyPost_ret (v:=.tuple #[.agg #[.int .i64 r.1,.int .i64 r.2],.int .i64 k]) (by simp[results,Tryz.results130,go_sem,h0,h1]) rfl ⟨r,k,rfl,k1,hk,R1.out.merge k1,fun y hy=>?_,O4⟩
      have:=HX.out
      rw[hy] at this;obtain rfl:=Yo this;exact hcut
    · have hcut':decide (r.1+r.2<x.1)=false:=Yk hcut
      go_quiet_grown (first|(go_at_call 89;with_reducible refine Zab (ZaE _ _ RO.out)))
      obtain⟨W3,hW3,HG⟩:=Zs W1 nq osq;rw[hW3];clear hW3 d0 e0 e1 hcut';have d0: ∀n os,(grow (W3.drewN n) os).cell? ⟨wr.heap.size,0,none⟩=some (.int .i64 x.1):=fun n os=>(Zp n os).only.keeps (HG.out.only.keeps (H2.out.2.2.2.cell 0));have d1: ∀n os,(grow (W3.drewN n) os).cell? ⟨wr.heap.size,1,none⟩=some (.int .i64 x.2):=fun n os=>(Zp n os).only.keeps (HG.out.only.keeps (H2.out.2.2.2.cell 1));have e0: ∀n os,(grow (W3.drewN n) os).cell? ⟨w.heap.size+1,0,none⟩=some (.int .i64 r.1):=fun n os=>(Zp n os).only.keeps (HG.out.only.keeps (H2.out.2.2.1.cell 0));have e1: ∀n os,(grow (W3.drewN n) os).cell? ⟨w.heap.size+1,1,none⟩=some (.int .i64 r.2):=fun n os=>(Zp n os).only.keeps (HG.out.only.keeps (H2.out.2.2.1.cell 1))
      have hw7:IntKind.i64.wrap (max (r.1+r.2) (x.1+x.2) - r.1)=max (r.1+r.2) (x.1+x.2) - r.1:=by rw[IntKind.wrap_i64];omega
      go_wp2_with fail
      refine ZbR 9 Zao (by kernel_rfl) ?_;simp only[List.take_succ_cons,List.take_zero,List.drop_succ_cons,List.drop_zero]
      repeat (quiet_step (first|(go_at_call 89;with_reducible refine Zab (ZaE _ _ RO.out))|(go_at_call 89;with_reducible refine Zab (ZaE _ _ XO.out))))
      refine wpQuiet_nil ?_;rintro w' ⟨⟨nq,osq⟩,rfl⟩;obtain⟨W5,hW5,HG5⟩:=Zs W3 nq osq;rw[hW5];clear hW5 d0 d1 e0 e1;have B5:=ZZ ((H2.out.2.2.1.keep HG.out.only id).keep HG5.out.only id);have f1:W5.cell? ⟨w.heap.size+1,1,none⟩=some (.int .i64 r.2):=B5.out.cell 1;have f2:=B5.out.free 1;have HS5:=ZZ (show Only nob w W5∧Blk W5 w.heap.size 61 #[.int .i64 0,.int .i64 0] from⟨(H2.out.1.trans HG.out.only).trans HG5.out.only,(H2.out.2.1.keep HG.out.only id).keep HG5.out.only id⟩);have HR:=ZZ (R1.out.next (s:=max (r.1+r.2) (x.1+x.2) - r.1) HS.out HL.out HX.out (by omega) rfl)
      have HF:=ZZ (show Only nob w (W5.setCell ⟨w.heap.size+1,1,none⟩ (.int .i64 (max (r.1+r.2) (x.1+x.2) - r.1)))∧Blk (W5.setCell ⟨w.heap.size+1,1,none⟩ (.int .i64 (max (r.1+r.2) (x.1+x.2) - r.1))) w.heap.size 61 #[.int .i64 0,.int .i64 0]∧Blk (W5.setCell ⟨w.heap.size+1,1,none⟩ (.int .i64 (max (r.1+r.2) (x.1+x.2) - r.1))) (w.heap.size+1) 61 #[.int .i64 r.1,.int .i64 (max (r.1+r.2) (x.1+x.2) - r.1)] from
       ⟨HS5.out.1.setCell (p:=⟨w.heap.size+1,1,none⟩) (fun h=>absurd h (by simp)) _,HS5.out.2.other (p:=⟨w.heap.size+1,1,none⟩) (by simp) _,by simpa using B5.out.put 1 (.int .i64 (max (r.1+r.2) (x.1+x.2) - r.1))⟩)
      clear mixed hw7;go_wp2
      go_roundw
      case rel=>exact⟨k+1,_,by go_num,by omega,HR,HF⟩
      case measure=>simp[intOf];omega
  · obtain rfl:k=L.length:=by omega
    have HM:=ZZ (R1.out.merge (by omega));have f0:=H1.out.2.2.cell 0;have f1:=H1.out.2.2.cell 1;have g0:=H1.out.2.1.cell 0;have g1:=H1.out.2.1.cell 1;have g2:=H1.out.2.1.free 0;have g3:=H1.out.2.1.free 1;simp at f0 f1 g0 g1;go_wp2
    have K4: ∃W4,((wr.setCell ⟨w.heap.size,0,none⟩ (.int .i64 r.1)).setCell ⟨w.heap.size,1,none⟩ (.int .i64 r.2))=W4∧Only nob w W4∧Blk W4 w.heap.size 61 #[.int .i64 r.1,.int .i64 r.2]:=
     ⟨_,rfl,(H1.out.1.setCell (p:=⟨w.heap.size,0,none⟩) (fun h=>absurd h (Nat.lt_irrefl _)) _).setCell (p:=⟨w.heap.size,1,none⟩) (fun h=>absurd h (Nat.lt_irrefl _)) _,by simpa using(H1.out.2.1.put 0 (.int .i64 r.1)).put 1 (.int .i64 r.2)⟩
    obtain⟨W4,hW4,O4,B4⟩:=K4;rw[hW4];have h0:=B4.cell 0;have h1:=B4.cell 1;simp at h0 h1;refine bodyPost_ret (v:=.tuple #[.agg #[.int .i64 r.1,.int .i64 r.2],.int .i64 L.length]) (by simp[results,Tryz.results130,go_sem,h0,h1]) rfl ⟨r,L.length,rfl,hn,Yi _,HM.out,fun y hy=>?_,O4⟩;rw[List.getElem?_eq_none (Yi _)] at hy
    cases hy
end
end Go.Proofs.YtknoncenblehkaaGreatDoor
