/- Package state: New. -/
import Derived.Test.YtknoncenblehkaaGreatDoorG26
set_option maxRecDepth 100000
set_option maxHeartbeats 32000000
set_option linter.unusedSimpArgs false
set_option linter.unusedVariables false
namespace Go.Proofs.YtknoncenblehkaaGreatDoor
open Go.RowKit
theorem Zl6 (c:Cf) (w:World) (hc:CFit c) (h:c.ok):Calls Tryz.prog 20 #[.agg #[.int .i64 c.semi,.int .i64 c.large,.int .i64 c.slots,.int .i64 c.limit]] w fun e w'=>
 ∃vw vf vs,e=.returned (.tuple #[.agg #[.int .i64 c.semi,.int .i64 c.large,.int .i64 c.slots,.int .i64 c.limit,.bool false,vw,.int .i64 0,.slice none 0 0,vf,vs],.int .i64 0])∧Rd w' w'.heap.size (Zmv c) vw (.slice none 0 0) vf vs∧w'.ownsRow w.heap.size 57 1 vw (Zk c).toNat (u64s (List.replicate (Zk c).toNat 0))∧w'.ownsRow w.heap.size 63 3 vs (List.replicate c.slots.toNat ((false,0,0):Slt)).length (slc (List.replicate c.slots.toNat ((false,0,0):Slt)))∧Only nob w w':=by
 obtain⟨W,hW,HB⟩: ∃W,(w.alloc (.cells #[.int .i64 c.semi,.int .i64 c.large,.int .i64 c.slots,.int .i64 c.limit] 23))=W∧Hid (Only nob w W∧CBox W w.heap.size c):=⟨_,rfl,ZZ ⟨ZN w c,CBox.new w c⟩⟩
 have HW:=ZZ hW;obtain⟨W2,hW2,HB2⟩:=ZI W;have HW2:=ZZ hW2
 have hsz:W.heap.size=w.heap.size+1:=by rw[← hW];simp
 rw[hsz] at HB2;have O2:=ZZ (HB.out.1.trans HB2.out.1);have X2:=ZZ (HB.out.2.keep HB2.out.1);have hw:=Zcd h;have h':=h;unfold Cf.ok at h';have HCK:=ZZ (Zbh c W2 hc);rw[Yl h] at HCK
 have HRT:=ZZ (show ∀w,Calls Tryz.prog 53 #[.int .i64 c.slots] w fun e w'=> ∃A k,e=.returned (.tuple #[.slice A (List.replicate c.slots.toNat ((false,0,0):Slt)).length k,.int .i64 0])∧w'.ownsRow w.heap.size 63 3 (.slice A (List.replicate c.slots.toNat ((false,0,0):Slt)).length k) (List.replicate c.slots.toNat ((false,0,0):Slt)).length (slc (List.replicate c.slots.toNat ((false,0,0):Slt)))∧Only nob w w' from fun w=>(ZjP c.slots w).mono fun e w' ⟨v',h1,h3,h4⟩=>by
  have e1:Zpp c.slots=0:=if_pos (by omega);have e2:Zom c.slots=(List.replicate c.slots.toNat ((false,0,0):Slt)):=if_pos (by omega);rw[e1] at h1;rw[e2] at h3;obtain⟨A,k,rfl, -, -⟩:=Zl h3
  exact⟨A,k,h1,h3,h4⟩)
 obtain⟨n,hn⟩: ∃n,n=(Zk c).toNat:=⟨_,rfl⟩
 have hmk:=Zfk n (by omega)
 have HWD:=ZZ (show ∀w,Calls Tryz.prog 54 #[.agg #[.int .i64 c.semi,.int .i64 c.large,.int .i64 c.slots,.int .i64 c.limit]] w fun e w'=>e=.returned (.int .i64 ((n:Nat):Int))∧Only nob w w' from fun w=>by
  have e:((n:Nat):Int)=Zk c:=by rw[hn];omega
  rw[e]
  exact Zkt Zku c w hc)
 have HLA:=ZZ (show ∀w,Calls Tryz.prog 56 #[.agg #[.int .i64 c.semi,.int .i64 c.large,.int .i64 c.slots,.int .i64 c.limit]] w fun e w'=>e=.returned (.agg #[.int .i64 (Ze c).1,.int .i64 (Ze c).2])∧Only nob w w' from fun w=>Zf8 c w hc);have hlf:=(ZbC c false).2.2
 have HGP:=ZZ (show ∀w,Calls Tryz.prog 55 #[.agg #[.int .i64 (Ze c).1,.int .i64 (Ze c).2],.slice none 0 0] w fun e w'=> ∃A k,e=.returned (.slice A (frN c).length k)∧Sl w' w'.heap.size 2 (.slice A (frN c).length k) (frN c).length (spc (frN c))∧Only nob w w' from fun w=>(ZkU (Ze c) (.slice none 0 0) [] w.heap.size w Sl.nil_ (Yi _) (by simp) (fun _ h=>by cases h) hlf).mono fun e w' ⟨v',O,h1,h2,h3,h4,h5⟩=>by
  have:=ZmX h h2 h3
  subst this;obtain⟨A,k,rfl, -, -⟩:=h4.form
  exact⟨A,k,h1,h4,h5⟩)
 have HNZ:=ZZ (ZjS h);have HN:=ZZ hn;have HOK:=ZZ h
 obtain⟨x,hx⟩: ∃x,x=(Ze c).1:=⟨_,rfl⟩
 obtain⟨y,hy⟩: ∃x,x=(Ze c).2:=⟨_,rfl⟩
 rw[← hx, ← hy] at HLA HGP
 obtain⟨FL,hFL⟩: ∃FL,FL=frN c:=⟨_,rfl⟩
 have HFL:=ZZ hFL;rw[← hFL] at HGP HNZ
 obtain⟨SL,hSL⟩: ∃SL,SL=List.replicate c.slots.toNat ((false,0,0):Slt):=⟨_,rfl⟩
 have HSL:=ZZ hSL;rw[← hSL] at HRT;obtain⟨c0,c1,c2,c3⟩:=X2.out;clear hW hW2 hsz h hc hw h' hn hx hy hFL hSL hlf
 go_enter Tryz.func20,Tryz.ntmps20
 go_upto_region 1 with fail
 rw[HW.out,HW2.out]
 go_wp2_with fail
 go_at_call 52;refine HCK.out.mono ?_;rintro e w3 ⟨rfl,o⟩;have O3:=ZZ (O2.out.trans o);have B3:=ZZ (HB2.out.2.keep o id);have X3:=ZZ (X2.out.keep o);clear o c0 c1 c2 c3;obtain⟨c0,c1,c2,c3⟩:=X3.out
 go_wp2_with fail
 go_at_call 53;refine(HRT.out _).mono ?_;rintro e WS ⟨As,ks,rfl,hs,o⟩;have O4:=ZZ (O3.out.trans o);have B4:=ZZ (B3.out.keep o id);have X4:=ZZ (X3.out.keep o);have S4:=ZZ (Sl.of_own hs hs.1);have W4:=ZZ (Zak (base':=w.heap.size) hs fun j e=>Yh O3.out.size (Zr hs e).1);clear o c0 c1 c2 c3 hs;obtain⟨c0,c1,c2,c3⟩:=X4.out
 obtain⟨p,hp⟩: ∃p,p=w.heap.size:=⟨_,rfl⟩
 have HP:=ZZ hp;rw[← hp] at c0 c1 c2 c3 B4;clear hp
 go_upto_region 4 with fail
 rw[← HP.out]
 go_cut [6] (fun s6 wx=> ∃bq rg A k,s6=.pointer (some ⟨bq,0,none⟩)∧Hid (Only nob WS wx∧Blk wx bq 34 #[.int .i64 c.semi,.int .i64 c.large,.int .i64 c.slots,.int .i64 c.limit,.bool false,.slice (some ⟨rg,0,none⟩) n n,.int .i64 0,.slice none 0 0,.slice A FL.length k,.slice As SL.length ks]∧Blk wx rg 57 (u64s (List.replicate n 0)).toArray∧Sl wx wx.heap.size 2 (.slice A FL.length k) FL.length (spc FL)∧WS.heap.size≤rg))
 case first=>
  have O0:=ZZ (show Only nob WS WS.drew from(Only.refl nob WS).drewN 1);refine wp_region_held_drew (S:=fun w':World=>w'.cell? ⟨p,0,none⟩=some (.int .i64 c.semi)∧w'.cell? ⟨p,1,none⟩=some (.int .i64 c.large)∧w'.cell? ⟨p,2,none⟩=some (.int .i64 c.slots)∧w'.cell? ⟨p,3,none⟩=some (.int .i64 c.limit)) (by kernel_rfl) ?_ (fun hHeld=>?_)
  · exact⟨c0,c1,c2,c3⟩
  revert O0 hHeld;generalize WS.drew=W;intro O hHeld
  repeat' first
   |(have:=N2
     go_simp;go_at_call 54;refine(HWD.out _).mono ?_;rintro e W ⟨rfl,o⟩;have O:=ZZ (O.out.trans o)
     try have BX:=ZZ (BX.out.keep o id)
     try have RW:=ZZ (RW.out.keep o id)
     try have FR:=ZZ ((FR.out.below o.whole).more o.size)
     clear o;clear N2;have E2:=True.intro;refine hK.out _ _ ⟨O.out.keeps c0,O.out.keeps c1,O.out.keeps c2,O.out.keeps c3⟩ (fun hHeld2=>?_);clear hK K hHeld;have hHeld:=hHeld2;clear hHeld2
     try simp only[Act.put,Yb,Yd,Yc,Yg,Ye,Yf])
   |(have:=N3
     obtain⟨WRW,rfl⟩: ∃x:World,x=W:=⟨_,rfl⟩
     obtain⟨W,hW,HB⟩:=Zx n WRW;have HWE:=ZZ hW;clear hW;go_simp
     with_reducible rw[HWE.out]
     clear HWE;have HRG:=ZZ O.out.size;have O:=ZZ (O.out.trans HB.out.1)
     try have BX:=ZZ (BX.out.keep HB.out.1 id)
     try have RW:=ZZ (RW.out.keep HB.out.1 id)
     try have FR:=ZZ ((FR.out.below HB.out.1.whole).more HB.out.1.size)
     have RW:=ZZ HB.out.2;clear HB;clear N3;have E3:=True.intro;refine hK.out _ _ ⟨O.out.keeps c0,O.out.keeps c1,O.out.keeps c2,O.out.keeps c3⟩ (fun hHeld2=>?_);clear hK K hHeld;have hHeld:=hHeld2;clear hHeld2
     try simp only[Act.put,Yb,Yd,Yc,Yg,Ye,Yf])
   |(have:=N5
     go_simp;go_at_call 56;refine(HLA.out _).mono ?_;rintro e W ⟨rfl,o⟩;have O:=ZZ (O.out.trans o)
     try have BX:=ZZ (BX.out.keep o id)
     try have RW:=ZZ (RW.out.keep o id)
     try have FR:=ZZ ((FR.out.below o.whole).more o.size)
     clear o;clear N5;have E5:=True.intro;refine hK.out _ _ ⟨O.out.keeps c0,O.out.keeps c1,O.out.keeps c2,O.out.keeps c3⟩ (fun hHeld2=>?_);clear hK K hHeld;have hHeld:=hHeld2;clear hHeld2
     try simp only[Act.put,Yb,Yd,Yc,Yg,Ye,Yf])
   |(have:=N6
     go_simp;go_at_call 55;refine(HGP.out _).mono ?_;rintro e W ⟨Ag,kg,rfl,hg,o⟩;have O:=ZZ (O.out.trans o)
     try have BX:=ZZ (BX.out.keep o id)
     try have RW:=ZZ (RW.out.keep o id)
     try have FR:=ZZ ((FR.out.below o.whole).more o.size)
     have FR:=ZZ (hg);clear o hg;clear N6;have E6:=True.intro;refine hK.out _ _ ⟨O.out.keeps c0,O.out.keeps c1,O.out.keeps c2,O.out.keeps c3⟩ (fun hHeld2=>?_);clear hK K hHeld;have hHeld:=hHeld2;clear hHeld2
     try simp only[Act.put,Yb,Yd,Yc,Yg,Ye,Yf])
   |(have:=N9
     obtain⟨W,hW,HB⟩:=ZI W;have HWE:=ZZ hW;clear hW;go_simp
     with_reducible rw[HWE.out]
     clear HWE;have HBQ:=ZZ O.out.size;have O:=ZZ (O.out.trans HB.out.1)
     try have BX:=ZZ (BX.out.keep HB.out.1 id)
     try have RW:=ZZ (RW.out.keep HB.out.1 id)
     try have FR:=ZZ ((FR.out.below HB.out.1.whole).more HB.out.1.size)
     have BX:=ZZ HB.out.2;clear HB;clear N9;have E9:=True.intro;refine hK.out _ _ ⟨O.out.keeps c0,O.out.keeps c1,O.out.keeps c2,O.out.keeps c3⟩ (fun hHeld2=>?_);clear hK K hHeld;have hHeld:=hHeld2;clear hHeld2
     try simp only[Act.put,Yb,Yd,Yc,Yg,Ye,Yf])
   |(have:=N10
     obtain⟨s0,s1,s2,s3,s4,s5,s6,s7,s8,s9⟩:=Zg BX.out;obtain⟨f0,f1,f2,f3,f4,f5,f6,f7,f8,f9⟩:=Zv BX.out;go_simp;clear s0 s1 s2 s3 s4 s5 s6 s7 s8 s9 f0 f1 f2 f3 f4 f5 f6 f7 f8 f9;obtain⟨W,hW,oA,oB,B9⟩:=Z6 O.out HBQ.out BX.out (.int .i64 c.semi) (.int .i64 c.large) (.int .i64 c.slots) (.int .i64 c.limit) (.bool false) (.slice (some ⟨WRW.heap.size,0,none⟩) n n) (.int .i64 0) (.slice none 0 0) (.slice Ag FL.length kg) (.slice As SL.length ks)
     with_reducible rw[hW]
     have O:=ZZ oA;have RW:=ZZ (RW.out.keep oB (BX.out.ne RW.out (by decide)).symm);have FR:=ZZ (ZeM HNZ.out FR.out BX.out oB (Yi _));have BX:=ZZ B9;clear hW oA oB B9;clear N10;have E10:=True.intro;refine hK.out _ _ ⟨O.out.keeps c0,O.out.keeps c1,O.out.keeps c2,O.out.keeps c3⟩ (fun hHeld2=>?_);clear hK K hHeld;have hHeld:=hHeld2;clear hHeld2
     try simp only[Act.put,Yb,Yd,Yc,Yg,Ye,Yf])
   |(fail_if_success have:=hK
     fail_if_success have:=T0
     refine wpAnyH_take (i:=0) (v:=?_) rfl (by kernel_rfl) (by kernel_rfl) (by kernel_rfl) (fun _ _ _ h=>h) (Or.inl ⟨by rfl,?_⟩) hHeld ?_;rotate_left
     · intro w hSw;(try dsimp only at hSw);go_simp;first|done|with_reducible rfl
     try simp only[Act.put,Yb,Yd,Yc,Yg,Ye,Yf]
     have T0:=True.intro)
   |(fail_if_success have:=hK
     fail_if_success have:=T1
     refine wpAnyH_take (i:=1) (v:=?_) rfl (by kernel_rfl) (by kernel_rfl) (by kernel_rfl) (fun _ _ _ h=>h) (Or.inl ⟨by rfl,?_⟩) hHeld ?_;rotate_left
     · intro w hSw;(try dsimp only at hSw);go_simp;first|done|with_reducible rfl
     try simp only[Act.put,Yb,Yd,Yc,Yg,Ye,Yf]
     have T1:=True.intro)
   |(fail_if_success have:=hK
     fail_if_success have:=T4
     refine wpAnyH_take (i:=4) (v:=?_) rfl (by kernel_rfl) (by kernel_rfl) (by kernel_rfl) (fun _ _ _ h=>h) (Or.inl ⟨by rfl,?_⟩) hHeld ?_;rotate_left
     · intro w hSw;(try dsimp only at hSw);go_simp;first|done|with_reducible rfl
     try simp only[Act.put,Yb,Yd,Yc,Yg,Ye,Yf]
     have T4:=True.intro)
   |(fail_if_success have:=hK
     fail_if_success have:=T7
     refine wpAnyH_take (i:=7) (v:=?_) rfl (by kernel_rfl) (by kernel_rfl) (by kernel_rfl) (fun _ _ _ h=>h) (Or.inl ⟨by rfl,?_⟩) hHeld ?_;rotate_left
     · intro w hSw;(try dsimp only at hSw);go_simp;first|done|with_reducible rfl
     try simp only[Act.put,Yb,Yd,Yc,Yg,Ye,Yf]
     have T7:=True.intro)
   |(have:=E2
     have:=E3
     have:=E5
     have:=E6
     fail_if_success have:=hK
     fail_if_success have:=T8
     refine wpAnyH_take (i:=8) (v:=?_) rfl (by kernel_rfl) (by kernel_rfl) (by kernel_rfl) (fun _ _ _ h=>h) (Or.inl ⟨by rfl,?_⟩) hHeld ?_;rotate_left
     · intro w hSw;(try dsimp only at hSw);go_simp;first|done|with_reducible rfl
     try simp only[Act.put,Yb,Yd,Yc,Yg,Ye,Yf]
     have T8:=True.intro)
   |(have:=E2
     have:=E3
     have:=E5
     have:=E6
     have:=E9
     have:=E10
     fail_if_success have:=hK
     refine wpAnyH_done (by kernel_rfl) ?_ _;go_wp2
     go_meet
     exact⟨_,_,_,_,rfl,ZZ ⟨O.out,BX.out,RW.out,FR.out,HRG.out⟩⟩)
   |(have:=E2
     have:=E3
     have:=E5
     have:=E6
     have:=E9
     fail_if_success have:=hK
     refine wpAnyH_ready (rs:=[10]) (by kernel_rfl) (by simp) (AllReadyH.cons rfl (fun K hK=>have N10:=True.intro;?_) AllReadyH.nil))
   |(have:=E2
     have:=E3
     have:=E5
     have:=E6
     fail_if_success have:=hK
     refine wpAnyH_ready (rs:=[9]) (by kernel_rfl) (by simp) (AllReadyH.cons rfl (fun K hK=>have N9:=True.intro;?_) AllReadyH.nil))
   |(have:=E2
     have:=E3
     have:=E5
     have:=E9
     fail_if_success have:=hK
     refine wpAnyH_ready (rs:=[6]) (by kernel_rfl) (by simp) (AllReadyH.cons rfl (fun K hK=>have N6:=True.intro;?_) AllReadyH.nil))
   |(have:=E2
     have:=E5
     have:=E6
     have:=E9
     fail_if_success have:=hK
     refine wpAnyH_ready (rs:=[3]) (by kernel_rfl) (by simp) (AllReadyH.cons rfl (fun K hK=>have N3:=True.intro;?_) AllReadyH.nil))
   |(have:=E2
     have:=E3
     have:=E5
     fail_if_success have:=hK
     refine wpAnyH_ready (rs:=[6,9]) (by kernel_rfl) (by simp) (AllReadyH.cons rfl (fun K hK=>have N6:=True.intro;?_) (AllReadyH.cons rfl (fun K hK=>have N9:=True.intro;?_) AllReadyH.nil)))
   |(have:=E2
     have:=E3
     have:=E9
     fail_if_success have:=hK
     refine wpAnyH_ready (rs:=[5]) (by kernel_rfl) (by simp) (AllReadyH.cons rfl (fun K hK=>have N5:=True.intro;?_) AllReadyH.nil))
   |(have:=E2
     have:=E5
     have:=E6
     fail_if_success have:=hK
     refine wpAnyH_ready (rs:=[3,9]) (by kernel_rfl) (by simp) (AllReadyH.cons rfl (fun K hK=>have N3:=True.intro;?_) (AllReadyH.cons rfl (fun K hK=>have N9:=True.intro;?_) AllReadyH.nil)))
   |(have:=E2
     have:=E5
     have:=E9
     fail_if_success have:=hK
     refine wpAnyH_ready (rs:=[3,6]) (by kernel_rfl) (by simp) (AllReadyH.cons rfl (fun K hK=>have N3:=True.intro;?_) (AllReadyH.cons rfl (fun K hK=>have N6:=True.intro;?_) AllReadyH.nil)))
   |(have:=E2
     have:=E3
     fail_if_success have:=hK
     refine wpAnyH_ready (rs:=[5,9]) (by kernel_rfl) (by simp) (AllReadyH.cons rfl (fun K hK=>have N5:=True.intro;?_) (AllReadyH.cons rfl (fun K hK=>have N9:=True.intro;?_) AllReadyH.nil)))
   |(have:=E2
     have:=E5
     fail_if_success have:=hK
     refine wpAnyH_ready (rs:=[3,6,9]) (by kernel_rfl) (by simp) (AllReadyH.cons rfl (fun K hK=>have N3:=True.intro;?_) (AllReadyH.cons rfl (fun K hK=>have N6:=True.intro;?_) (AllReadyH.cons rfl (fun K hK=>have N9:=True.intro;?_) AllReadyH.nil))))
   |(have:=E2
     have:=E9
     fail_if_success have:=hK
     refine wpAnyH_ready (rs:=[3,5]) (by kernel_rfl) (by simp) (AllReadyH.cons rfl (fun K hK=>have N3:=True.intro;?_) (AllReadyH.cons rfl (fun K hK=>have N5:=True.intro;?_) AllReadyH.nil)))
   |(have:=E2
     fail_if_success have:=hK
     refine wpAnyH_ready (rs:=[3,5,9]) (by kernel_rfl) (by simp) (AllReadyH.cons rfl (fun K hK=>have N3:=True.intro;?_) (AllReadyH.cons rfl (fun K hK=>have N5:=True.intro;?_) (AllReadyH.cons rfl (fun K hK=>have N9:=True.intro;?_) AllReadyH.nil))))
   |(have:=E9
     fail_if_success have:=hK
     refine wpAnyH_ready (rs:=[2]) (by kernel_rfl) (by simp) (AllReadyH.cons rfl (fun K hK=>have N2:=True.intro;?_) AllReadyH.nil))
   |(fail_if_success have:=hK
     refine wpAnyH_ready (rs:=[2,9]) (by kernel_rfl) (by simp) (AllReadyH.cons rfl (fun K hK=>have N2:=True.intro;?_) (AllReadyH.cons rfl (fun K hK=>have N9:=True.intro;?_) AllReadyH.nil)))
 case rest=>
 obtain⟨bq,rg,A,k,rfl,HC⟩:=hcut;clear c0 c1 c2 c3 hmk
 obtain⟨W5,rfl⟩: ∃W5:World,W5=wc:=⟨_,rfl⟩
 obtain⟨d0,d1,d2,d3,d4,d5,d6,d7,d8,d9⟩:=Zg HC.out.2.1;have B5:=ZZ (B4.out.keep HC.out.1 id);obtain⟨s0,s1,s2,s3,s4,s5,s6,s7,s8,s9⟩:=Zg B5.out;obtain⟨f0,f1,f2,f3,f4,f5,f6,f7,f8,f9⟩:=Zv B5.out;go_wp2;clear s0 s1 s2 s3 s4 s5 s6 s7 s8 s9 f0 f1 f2 f3 f4 f5 f6 f7 f8 f9 d0 d1 d2 d3 d4 d5 d6 d7 d8 d9;obtain⟨W7,hW7,O7,OI7,B7⟩:=Z6 (O4.out.trans HC.out.1) (by have:=HP.out;omega) B5.out (.int .i64 c.semi) (.int .i64 c.large) (.int .i64 c.slots) (.int .i64 c.limit) (.bool false) (.slice (some ⟨rg,0,none⟩) n n) (.int .i64 0) (.slice none 0 0) (.slice A FL.length k) (.slice As SL.length ks)
 with_reducible rw[hW7]
 obtain⟨h0,h1,h2,h3,h4,h5,h6,h7,h8,h9⟩:=Zg B7;have hs5:Sl W5 W5.heap.size 3 (.slice As SL.length ks) SL.length (slc SL):=(S4.out.below HC.out.1.whole).more HC.out.1.size;have r1:Blk W7 rg 57 (u64s (List.replicate n 0)).toArray:=HC.out.2.2.1.keep OI7 (HC.out.2.2.1.ne B5.out (by decide));have r2:=ZeM HNZ.out HC.out.2.2.2.1 B5.out OI7 (Yi _);have r3:=ZnL HSL.out hs5 B5.out OI7 (Yi _);have hrd:=Zje (w:=W7) HOK.out HN.out r1 (by rw[← HFL.out];exact r2) (by rw[← HSL.out];exact r3)
 have ho1:W7.ownsRow w.heap.size 57 1 (.slice (some ⟨rg,0,none⟩) n n) (Zk c).toNat (u64s (List.replicate (Zk c).toNat 0)):=by
  rw[← HN.out];have hcw:=(Zcd HOK.out).2.2;have hnn:=HN.out;have hge:w.heap.size≤rg:=Yh O4.out.size HC.out.2.2.2.2;exact⟨by simp[u64s],.inr ⟨rg,n,_,rfl,hge,r1,Yi _,by unfold maxLen;omega,by simp[u64s],by simp[u64s]⟩⟩
 have ho2:W7.ownsRow w.heap.size 63 3 (.slice As SL.length ks) (List.replicate c.slots.toNat ((false,0,0):Slt)).length (slc (List.replicate c.slots.toNat ((false,0,0):Slt))):=by
  have h1:=Zb W4.out HC.out.1 fun _ _ h=>h;rw[← HSL.out]
  exact Zb h1 OI7 fun j e e2=>by
   rcases h1.2 with⟨e3, -⟩|⟨g,cap,cur,e3, -,hg, -⟩
   · rw[e3] at e;cases e
   · rw[e3] at e
     have e4:g=j:=by simpa[Value.ownBlock] using e
     exact Blk.ne (show Blk W5 g 63 cur from hg) B5.out (by decide) (e4.trans e2)
 exact bodyPost_ret (v:=.tuple #[.agg #[.int .i64 c.semi,.int .i64 c.large,.int .i64 c.slots,.int .i64 c.limit,.bool false,.slice (some ⟨rg,0,none⟩) n n,.int .i64 0,.slice none 0 0,.slice A FL.length k,.slice As SL.length ks],.int .i64 0]) (by simp[results,Tryz.results20,go_sem,h0,h1,h2,h3,h4,h5,h6,h7,h8,h9]) rfl ⟨_,_,_,rfl,hrd,ho1,ho2,O7⟩
end Go.Proofs.YtknoncenblehkaaGreatDoor
