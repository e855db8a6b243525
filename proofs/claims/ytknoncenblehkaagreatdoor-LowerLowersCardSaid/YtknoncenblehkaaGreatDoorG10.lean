/- Contracts of package span: May, end, Has, Meets, Within. Eac -/
import Derived.Test.YtknoncenblehkaaGreatDoorG08
import Derived.Shelf.SlSortCmp.QuietGrown
import Derived.Sort.Grow
set_option maxRecDepth 100000
set_option maxHeartbeats 32000000
set_option linter.unusedSimpArgs false
set_option linter.unusedVariables false
namespace Go.Proofs.YtknoncenblehkaaGreatDoor
open Go.RowKit Go.Sort
def Grw (w w':World):Prop:= ∃q os,w'=grow (w.drewN q) os
theorem Zdl (w:World) (os:Array Obj) (k:Nat) (h:k<w.heap.size):(grow w os).heap[k]? =w.heap[k]? :=by
 unfold grow;exact Array.getElem?_append_left h
theorem Zac (w:World) (o:Obj):Grw w (w.alloc o):=⟨0,#[o],by rw[alloc_eq_grow];rfl⟩
theorem Zjb (w:World) (n:Nat):Grw w (w.drewN n):=⟨n,#[],by rw[grow_empty]⟩
theorem ZaV {a b c:World} (h:Grw a b) (g:Grw b c):Grw a c:=by
 obtain⟨q,os,rfl⟩:=h;obtain⟨r,os',rfl⟩:=g;refine⟨q+r,os++os',?_⟩;show grow (grow ((a.drewN q).drewN r) os) os'=_;rw[grow_grow,World.drewN_drewN]
theorem Zp {w:World} (n:Nat) (os:Array Obj):Grw w (grow (w.drewN n) os):=⟨n,os,rfl⟩
theorem Grw.only {w w':World} (h:Grw w w'):Only nob w w':=by
 obtain⟨q,os,rfl⟩:=h;exact⟨rfl,rfl,rfl,by unfold grow;simp[World.drewN],fun k hk _=>Zdl _ _ _ hk⟩
theorem Zab {P:Program} {f:FuncId} {args:Array Value} {w:World} {n:Nat} {os:Array Obj} {v:Value}
 (h:Calls P f args (grow (w.drewN n) os) fun e w'=>e=.returned v∧Grw (grow (w.drewN n) os) w'):Calls P f args (grow (w.drewN n) os) fun e w''=>e=.returned v∧ ∃p:GrownBy,w''=grow (w.drewN p.n) p.os:=
 Calls.grown_of h
theorem ZbX (x:Sp) (hx:Fit x) (w:World):Calls Tryz.prog 87 #[.agg #[.int .i64 x.1,.int .i64 x.2]] w fun e w'=>e=.returned (.bool (decide x.ok))∧Grw w w':=by
 unfold Fit at hx;by_cases h1:0≤x.1
 · by_cases h2:1≤x.2
   · by_cases h3:x.1≤1099511627776
     · by_cases h4:x.2≤1099511627776 - x.1
       case' pos=>have HK:=ZZ (Yl (p:=x.ok) ⟨h1,h2,h3,h4⟩)
       case' neg=>have HK:=ZZ (Yk (p:=x.ok) fun h=>h4 h.2.2.2)
       all_goals
        go_enter Tryz.func87,Tryz.ntmps87
        go_wp2;go_ret;exact⟨Za (by rw[HK.out]),Zac _ _⟩
     · have HK:=ZZ (Yk (p:=x.ok) fun h=>h3 h.2.2.1)
       have h4: ¬x.2≤1099511627776 - x.1:=by omega
       go_enter Tryz.func87,Tryz.ntmps87
       go_wp2;go_ret;exact⟨Za (by rw[HK.out]),Zac _ _⟩
   · have HK:=ZZ (Yk (p:=x.ok) fun h=>h2 h.2.1)
     go_enter Tryz.func87,Tryz.ntmps87
     go_wp2;go_ret;exact⟨Za (by rw[HK.out]),Zac _ _⟩
 · have HK:=ZZ (Yk (p:=x.ok) fun h=>h1 h.1)
   go_enter Tryz.func87,Tryz.ntmps87
   go_wp2;go_ret;exact⟨Za (by rw[HK.out]),Zac _ _⟩
theorem ZaE (x:Sp) (w:World) (h:x.ok):Calls Tryz.prog 89 #[.agg #[.int .i64 x.1,.int .i64 x.2]] w fun e w'=>e=.returned (.int .i64 (x.1+x.2))∧Grw w w':=by
 have h1:0≤x.1∧x.1≤1099511627776∧1≤x.2∧x.2≤1099511627776:=by unfold Sp.ok Za6 at h;omega
 clear h
 go_enter Tryz.func89,Tryz.ntmps89
 go_wp2;go_ret;exact⟨rfl,Zac _ _⟩
theorem Zbs {x:Sp} (h:x.ok) (w:World):Calls Tryz.prog 87 #[.agg #[.int .i64 x.1,.int .i64 x.2]] w fun e w'=>e=.returned (.bool true)∧Grw w w':=by
 have:=ZbX x (.of_ok h) w
 rwa [Yl h] at this
theorem Zej {x:Sp} (hx:Fit x) (h: ¬x.ok) (w:World):Calls Tryz.prog 87 #[.agg #[.int .i64 x.1,.int .i64 x.2]] w fun e w'=>e=.returned (.bool false)∧Grw w w':=by
 have:=ZbX x hx w
 rwa [Yk h] at this
theorem Zs (W:World) (n:Nat) (os:Array Obj): ∃W3,grow (W.drewN n) os=W3∧Hid (Grw W W3):=⟨_,rfl,Zp n os⟩
theorem Zao:Tryz.prog.follows .mixedOrders=true:=by kernel_rfl
def Zb1 (w:World) (b:Nat) (x:Sp):Prop:=w.cell? ⟨b,0,none⟩=some (.int .i64 x.1)∧w.cell? ⟨b,1,none⟩=some (.int .i64 x.2)
theorem Zb1.grw {w w':World} {b:Nat} {x:Sp} (h:Zb1 w b x) (g:Grw w w'):Zb1 w' b x:=⟨g.only.keeps h.1,g.only.keeps h.2⟩
theorem Zb1.new (w:World) (x:Sp):Zb1 (w.alloc (.cells #[.int .i64 x.1,.int .i64 x.2] 61)) w.heap.size x:=by
 have h:=Blk.new w 61 #[.int .i64 x.1,.int .i64 x.2];exact⟨h.cell 0,h.cell 1⟩
theorem Zb1.all {w:World} {b:Nat} {x:Sp} (h:Zb1 w b x):(∀n os,(grow (w.drewN n) os).cell? ⟨b,0,none⟩=some (.int .i64 x.1))∧(∀n os,(grow (w.drewN n) os).cell? ⟨b,1,none⟩=some (.int .i64 x.2)):=
 ⟨fun n os=>(h.grw (Zp n os)).1,fun n os=>(h.grw (Zp n os)).2⟩
theorem ZfV (w:World) (x y:Sp): ∃W,((w.alloc (.cells #[.int .i64 x.1,.int .i64 x.2] 61)).alloc (.cells #[.int .i64 y.1,.int .i64 y.2] 61))=W∧Hid (Grw w W∧Zb1 W w.heap.size x∧Zb1 W (w.heap.size+1) y):=by
 refine⟨_,rfl,ZaV (Zac _ _) (Zac _ _),(Zb1.new w x).grw (Zac _ _),?_⟩
 have:=Zb1.new (w.alloc (.cells #[.int .i64 x.1,.int .i64 x.2] 61)) y
 rwa [World.size_alloc] at this
theorem Zi4 {x y:Sp} (hx:x.ok) (hy:y.ok):Sp.within x y↔y.1≤x.1∧x.1+x.2≤y.1+y.2:=by
 unfold Sp.within Sp.has;simp only[hx,hy,true_and];unfold Sp.ok at hx hy;omega
theorem ZiL (x y:Sp) (hx:Fit x) (hy:Fit y) (w:World):
 Calls Tryz.prog 125 #[.agg #[.int .i64 x.1,.int .i64 x.2],.agg #[.int .i64 y.1,.int .i64 y.2]] w fun e w'=>e=.returned (.bool (decide (Sp.within x y)))∧Grw w w':=by
 have bd: ∀{z:Sp},z.ok→0≤z.1∧z.1≤1099511627776∧1≤z.2∧z.2≤1099511627776:=fun h=>by unfold Sp.ok Za6 at h;omega
 obtain⟨W,hW,HW⟩:=ZfV w x y;have HWE:=ZZ hW;clear hW;by_cases h0:x.ok
 · have HX:=ZZ h0
   have b1:=bd h0;by_cases h1:y.ok
   · have HY:=ZZ h1
     have b2:=bd h1
     have ways:(y.1≤x.1∧x.1+x.2≤y.1+y.2∧Hid (decide (Sp.within x y)=true))∨(y.1≤x.1∧decide (x.1+x.2≤y.1+y.2)=false∧Hid (decide (Sp.within x y)=false))∨(decide (y.1≤x.1)=false∧Hid (decide (Sp.within x y)=false)):=by
      have hm:=Zi4 h0 h1;by_cases h2:y.1≤x.1
      · by_cases h3:x.1+x.2≤y.1+y.2
        · exact .inl ⟨h2,h3,Yl (hm.2 ⟨h2,h3⟩)⟩
        · exact .inr (.inl ⟨h2,Yk h3,Yk fun h=>h3 (hm.1 h).2⟩)
      · exact .inr (.inr ⟨Yk h2,Yk fun h=>h2 (hm.1 h).1⟩)
     clear h0 h1 bd
     rcases ways with⟨h2,h3,HK⟩|⟨h2,h3,HK⟩|⟨h2,HK⟩
     all_goals
      rw[HK.out]
      go_enter Tryz.func125,Tryz.ntmps125
      go_wp2_with fail
      rw[HWE.out];obtain⟨-,z1,z2⟩:=HW.out;obtain⟨c0,c1⟩:=z1.all;obtain⟨d0,d1⟩:=z2.all;clear z1 z2;have mixed:=Zao
      go_quiet_grown (first|(go_at_call 87;with_reducible refine Zab (Zbs HX.out _))|(go_at_call 87;with_reducible refine Zab (Zbs HY.out _))|(go_at_call 89;with_reducible refine Zab (ZaE x _ HX.out))|(go_at_call 89;with_reducible refine Zab (ZaE y _ HY.out)))
      clear c0 c1 d0 d1 mixed;obtain⟨W3,hW3,HG⟩:=Zs W nq osq;rw[hW3];clear hW3;go_wp2;go_ret;exact⟨rfl,ZaV HW.out.1 HG.out⟩
   · have HY:=ZZ h1
     have HK:=ZZ (Yk (p:=Sp.within x y) fun h=>h1 h.2.1);clear h0 h1 bd;rw[HK.out]
     go_enter Tryz.func125,Tryz.ntmps125
     go_wp2_with fail
     rw[HWE.out];obtain⟨-,z1,z2⟩:=HW.out;obtain⟨c0,c1⟩:=z1.all;obtain⟨d0,d1⟩:=z2.all;clear z1 z2;have mixed:=Zao
     go_quiet_grown (first|(go_at_call 87;with_reducible refine Zab (Zbs HX.out _))|(go_at_call 87;with_reducible refine Zab (Zej hy HY.out _)))
     clear c0 c1 d0 d1 mixed;obtain⟨W3,hW3,HG⟩:=Zs W nq osq;rw[hW3];clear hW3;go_wp2;go_ret;exact⟨rfl,ZaV HW.out.1 HG.out⟩
 · have HX:=ZZ h0
   have HK:=ZZ (Yk (p:=Sp.within x y) fun h=>h0 h.1);clear h0 bd;rw[HK.out]
   go_enter Tryz.func125,Tryz.ntmps125
   go_wp2_with fail
   rw[HWE.out];obtain⟨-,z1,z2⟩:=HW.out;obtain⟨c0,c1⟩:=z1.all;obtain⟨d0,d1⟩:=z2.all;clear z1 z2;have mixed:=Zao
   go_quiet_grown (first|(go_at_call 87;with_reducible refine Zab (Zej hx HX.out _)))
   clear c0 c1 d0 d1 mixed;obtain⟨W3,hW3,HG⟩:=Zs W nq osq;rw[hW3];clear hW3;go_wp2;go_ret;exact⟨rfl,ZaV HW.out.1 HG.out⟩
theorem Zpi:SpMay:=fun x hx w=>(ZbX x hx w).mono fun _ _ ⟨h,g⟩=>⟨h,g.only⟩
theorem ZhT:SpWithin:=fun x y hx hy w=>(ZiL x y hx hy w).mono fun _ _ ⟨h,g⟩=>⟨h,g.only⟩
end Go.Proofs.YtknoncenblehkaaGreatDoor
