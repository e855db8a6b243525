/- The document's own answer: a new heap. -/
import Derived.Test.YtknoncenblehkaaGreatDoorG26
set_option maxRecDepth 100000
set_option maxHeartbeats 32000000
set_option linter.unusedSimpArgs false
set_option linter.unusedVariables false
namespace Go.Proofs.YtknoncenblehkaaGreatDoor
open Go.RowKit
theorem ZnD (c:Cf) (w:World) (hc:CFit c) (h:c.ok):Calls Tryz.prog 23 #[.agg #[.int .i64 c.semi,.int .i64 c.large,.int .i64 c.slots,.int .i64 c.limit]] w fun e w'=>
 ∃vw vf vs,e=.returned (.tuple #[.agg #[.int .i64 c.semi,.int .i64 c.large,.int .i64 c.slots,.int .i64 c.limit,.bool false,vw,.int .i64 0,.slice none 0 0,vf,vs],.int .i64 0])∧Rd w' w'.heap.size (Zmv c) vw (.slice none 0 0) vf vs∧w'.ownsRow w.heap.size 63 3 vs c.slots.toNat (slc (List.replicate c.slots.toNat ((false,0,0):Slt)))∧Only nob w w':=by
 obtain⟨W,hW,HB⟩: ∃W,(w.alloc (.cells #[.int .i64 c.semi,.int .i64 c.large,.int .i64 c.slots,.int .i64 c.limit] 23))=W∧Hid (Only nob w W∧CBox W w.heap.size c):=⟨_,rfl,ZZ ⟨ZN w c,CBox.new w c⟩⟩
 have HW:=ZZ hW;obtain⟨W2,hW2,HB2⟩:=ZI W;have HW2:=ZZ hW2
 have hsz:W.heap.size=w.heap.size+1:=by rw[← hW];simp
 rw[hsz] at HB2;have O2:=ZZ (HB.out.1.trans HB2.out.1);have X2:=ZZ (HB.out.2.keep HB2.out.1);have hw:=Zcd h;have h':=h;unfold Cf.ok at h';have HCK:=ZZ (ZaN c W2);rw[Yl h] at HCK
 obtain⟨n,hn⟩: ∃n,n=(Zk c).toNat:=⟨_,rfl⟩
 obtain⟨m,hm⟩: ∃n,n=c.slots.toNat:=⟨_,rfl⟩
 have hmk:=Zfk n (by omega)
 have hmc:c.slots=(m:Int):=by omega
 have hmks: ∀w:World,(Instr.makeSlice 32 (.int .i64 c.slots) (.int .i64 c.slots)).run Tryz.prog w=.ok (.slice (some ⟨w.heap.size,0,none⟩) m m) (w.alloc (.cells (slc (List.replicate m ((false,0,0):Slt))).toArray 63)):=fun w=>by
  have:=Zeo m (by omega) w
  rw[← hmc] at this;exact this
 have HWD:=ZZ (show ∀w,Calls Tryz.prog 59 #[.agg #[.int .i64 c.semi,.int .i64 c.large,.int .i64 c.slots,.int .i64 c.limit]] w fun e w'=>e=.returned (.int .i64 ((n:Nat):Int))∧Only nob w w' from fun w=>by
  have e:((n:Nat):Int)=Zk c:=by rw[hn];omega
  rw[e]
  exact Zfw c w)
 have HLA:=ZZ (show ∀w,Calls Tryz.prog 29 #[.agg #[.int .i64 c.semi,.int .i64 c.large,.int .i64 c.slots,.int .i64 c.limit]] w fun e w'=>e=.returned (.agg #[.int .i64 (Ze c).1,.int .i64 (Ze c).2])∧Only nob w w' from fun w=>ZcR c w);have HNZ:=ZZ (ZjS h);have HN:=ZZ hn;have HM:=ZZ hm;have HMB:=ZZ (show m≤1024 by omega);have HOK:=ZZ h
 obtain⟨x,hx⟩: ∃x,x=(Ze c).1:=⟨_,rfl⟩
 obtain⟨y,hy⟩: ∃x,x=(Ze c).2:=⟨_,rfl⟩
 have HXY:=ZZ (show Ze c=(x,y) by rw[hx,hy]);rw[← hx, ← hy] at HLA;obtain⟨c0,c1,c2,c3⟩:=X2.out;clear hW hW2 hsz h hc hw h' hn hm hx hy hmc
 go_enter Tryz.func23,Tryz.ntmps23
 go_upto_region 1 with fail
 rw[HW.out,HW2.out]
 go_wp2_with fail
 go_at_call 26;refine HCK.out.mono ?_;rintro e WS ⟨rfl,o⟩;have O4:=ZZ (O2.out.trans o);have B4:=ZZ (HB2.out.2.keep o id);have X4:=ZZ (X2.out.keep o);clear o c0 c1 c2 c3;obtain⟨c0,c1,c2,c3⟩:=X4.out
 obtain⟨p,hp⟩: ∃p,p=w.heap.size:=⟨_,rfl⟩
 have HP:=ZZ hp;rw[← hp] at c0 c1 c2 c3 B4;clear hp
 go_upto_region 3 with fail
 rw[← HP.out]
 go_cut [4] (fun s4 wx=> ∃bq rg sg,s4=.pointer (some ⟨bq,0,none⟩)∧Hid (Only nob WS wx∧WS.heap.size≤bq∧Blk wx bq 34 #[.int .i64 c.semi,.int .i64 c.large,.int .i64 c.slots,.int .i64 c.limit,.bool false,.slice (some ⟨rg,0,none⟩) n n,.int .i64 0,.slice none 0 0,.slice none 0 0,.slice (some ⟨sg,0,none⟩) m m]∧Blk wx rg 57 (u64s (List.replicate n 0)).toArray∧Blk wx sg 63 (slc (List.replicate m ((false,0,0):Slt))).toArray∧WS.heap.size≤sg))
 case first=>
  have O0:=ZZ (show Only nob WS WS.drew from(Only.refl nob WS).drewN 1);refine wp_region_held_drew (S:=fun w':World=>w'.cell? ⟨p,0,none⟩=some (.int .i64 c.semi)∧w'.cell? ⟨p,1,none⟩=some (.int .i64 c.large)∧w'.cell? ⟨p,2,none⟩=some (.int .i64 c.slots)∧w'.cell? ⟨p,3,none⟩=some (.int .i64 c.limit)) (by kernel_rfl) ?_ (fun hHeld=>?_)
  · exact⟨c0,c1,c2,c3⟩
  refine wpAnyH_take (i:=0) (v:=?_) rfl (by kernel_rfl) (by kernel_rfl) (by kernel_rfl) (fun _ _ _ h=>h) (Or.inl ⟨by rfl,?_⟩) hHeld ?_;rotate_left
  · intro w hSw;(try dsimp only at hSw);go_simp;first|done|with_reducible rfl
  try simp only[Act.put,Yb,Yd,Yc,Yg,Ye,Yf]
  refine wpAnyH_take (i:=1) (v:=?_) rfl (by kernel_rfl) (by kernel_rfl) (by kernel_rfl) (fun _ _ _ h=>h) (Or.inl ⟨by rfl,?_⟩) hHeld ?_;rotate_left
  · intro w hSw;(try dsimp only at hSw);go_simp;first|done|with_reducible rfl
  try simp only[Act.put,Yb,Yd,Yc,Yg,Ye,Yf]
  refine wpAnyH_take (i:=4) (v:=?_) rfl (by kernel_rfl) (by kernel_rfl) (by kernel_rfl) (fun _ _ _ h=>h) (Or.inl ⟨by rfl,?_⟩) hHeld ?_;rotate_left
  · intro w hSw;(try dsimp only at hSw);go_simp;first|done|with_reducible rfl
  try simp only[Act.put,Yb,Yd,Yc,Yg,Ye,Yf]
  refine wpAnyH_take (i:=5) (v:=?_) rfl (by kernel_rfl) (by kernel_rfl) (by kernel_rfl) (fun _ _ _ h=>h) (Or.inl ⟨by rfl,?_⟩) hHeld ?_;rotate_left
  · intro w hSw;(try dsimp only at hSw);go_simp;first|done|with_reducible rfl
  try simp only[Act.put,Yb,Yd,Yc,Yg,Ye,Yf]
  refine wpAnyH_ready (rs:=[2,6,8]) (by kernel_rfl) (by simp) ?_;refine(AllReadyH.cons rfl (fun K hK=>?_) (AllReadyH.cons rfl (fun K hK=>?_) (AllReadyH.cons rfl (fun K hK=>?_) AllReadyH.nil)))
  · skip
    go_simp;go_at_call 59;refine(HWD.out _).mono ?_;rintro e w1 ⟨rfl,o⟩;have O1:=ZZ (O0.out.trans o);clear o;refine hK.out _ _ ⟨O1.out.keeps c0,O1.out.keeps c1,O1.out.keeps c2,O1.out.keeps c3⟩ (fun hHeld2=>?_);clear hK K hHeld;have hHeld:=hHeld2;clear hHeld2
    try simp only[Act.put,Yb,Yd,Yc,Yg,Ye,Yf]
    refine wpAnyH_ready (rs:=[3,6,8]) (by kernel_rfl) (by simp) ?_;refine(AllReadyH.cons rfl (fun K hK=>?_) (AllReadyH.cons rfl (fun K hK=>?_) (AllReadyH.cons rfl (fun K hK=>?_) AllReadyH.nil)))
    · skip
      obtain⟨W2,hW2,HB2⟩:=Zx n w1;have O2:=ZZ (O1.out.trans HB2.out.1);have RW:=ZZ HB2.out.2;have HWE:=ZZ hW2;clear hW2;go_simp
      with_reducible rw[HWE.out]
      clear HWE;refine hK.out _ _ ⟨O2.out.keeps c0,O2.out.keeps c1,O2.out.keeps c2,O2.out.keeps c3⟩ (fun hHeld2=>?_);clear hK K hHeld;have hHeld:=hHeld2;clear hHeld2
      try simp only[Act.put,Yb,Yd,Yc,Yg,Ye,Yf]
      refine wpAnyH_ready (rs:=[6,8]) (by kernel_rfl) (by simp) ?_;refine(AllReadyH.cons rfl (fun K hK=>?_) (AllReadyH.cons rfl (fun K hK=>?_) AllReadyH.nil))
      · skip
        obtain⟨W3,hW3,HB3⟩:=ZS m W2;have O3:=ZZ (O2.out.trans HB3.out.1);have RW:=ZZ (RW.out.keep HB3.out.1 id);have SL:=ZZ HB3.out.2;have HSG:=ZZ (O2.out.size);have HWE:=ZZ hW3;clear hW3;go_simp
        with_reducible rw[HWE.out]
        clear HWE;refine hK.out _ _ ⟨O3.out.keeps c0,O3.out.keeps c1,O3.out.keeps c2,O3.out.keeps c3⟩ (fun hHeld2=>?_);clear hK K hHeld;have hHeld:=hHeld2;clear hHeld2
        try simp only[Act.put,Yb,Yd,Yc,Yg,Ye,Yf]
        refine wpAnyH_take (i:=7) (v:=?_) rfl (by kernel_rfl) (by kernel_rfl) (by kernel_rfl) (fun _ _ _ h=>h) (Or.inl ⟨by rfl,?_⟩) hHeld ?_;rotate_left
        · intro w hSw;(try dsimp only at hSw);go_simp;first|done|with_reducible rfl
        try simp only[Act.put,Yb,Yd,Yc,Yg,Ye,Yf]
        refine wpAnyH_ready (rs:=[8]) (by kernel_rfl) (by simp) ?_;refine(AllReadyH.cons rfl (fun K hK=>?_) AllReadyH.nil);obtain⟨W4,hW4,HB4⟩:=ZI W3;have O4:=ZZ (O3.out.trans HB4.out.1);have RW:=ZZ (RW.out.keep HB4.out.1 id);have SL:=ZZ (SL.out.keep HB4.out.1 id);have BX:=ZZ HB4.out.2;have HBQ:=ZZ (O3.out.size);have HWE:=ZZ hW4;clear hW4;go_simp
        with_reducible rw[HWE.out]
        clear HWE;refine hK.out _ _ ⟨O4.out.keeps c0,O4.out.keeps c1,O4.out.keeps c2,O4.out.keeps c3⟩ (fun hHeld2=>?_);clear hK K hHeld;have hHeld:=hHeld2;clear hHeld2
        try simp only[Act.put,Yb,Yd,Yc,Yg,Ye,Yf]
        refine wpAnyH_ready (rs:=[9]) (by kernel_rfl) (by simp) ?_;refine(AllReadyH.cons rfl (fun K hK=>?_) AllReadyH.nil);obtain⟨s0,s1,s2,s3,s4,s5,s6,s7,s8,s9⟩:=Zg BX.out;obtain⟨f0,f1,f2,f3,f4,f5,f6,f7,f8,f9⟩:=Zv BX.out;go_simp;clear s0 s1 s2 s3 s4 s5 s6 s7 s8 s9 f0 f1 f2 f3 f4 f5 f6 f7 f8 f9;obtain⟨W5,hW5,oA,oB,B9⟩:=Z6 O4.out (O3.out.size) BX.out (.int .i64 c.semi) (.int .i64 c.large) (.int .i64 c.slots) (.int .i64 c.limit) (.bool false) (.slice (some ⟨w1.heap.size,0,none⟩) n n) (.int .i64 0) (.slice none 0 0) (.slice none 0 0) (.slice (some ⟨W2.heap.size,0,none⟩) m m)
        with_reducible rw[hW5]
        have O5:=ZZ oA;have RW:=ZZ (RW.out.keep oB (BX.out.ne RW.out (by decide)).symm);have SL:=ZZ (SL.out.keep oB (BX.out.ne SL.out (by decide)).symm);have BX:=ZZ B9;clear hW5 oA oB B9;refine hK.out _ _ ⟨O5.out.keeps c0,O5.out.keeps c1,O5.out.keeps c2,O5.out.keeps c3⟩ (fun hHeld2=>?_);clear hK K hHeld;have hHeld:=hHeld2;clear hHeld2
        try simp only[Act.put,Yb,Yd,Yc,Yg,Ye,Yf]
        refine wpAnyH_done (by kernel_rfl) ?_ _;go_wp2
        go_meet
        exact⟨_,_,_,rfl,ZZ ⟨O5.out,HBQ.out,BX.out,RW.out,SL.out,HSG.out⟩⟩
      · skip
        obtain⟨W3,hW3,HB3⟩:=ZI W2;have O3:=ZZ (O2.out.trans HB3.out.1);have RW:=ZZ (RW.out.keep HB3.out.1 id);have BX:=ZZ HB3.out.2;have HBQ:=ZZ (O2.out.size);have HWE:=ZZ hW3;clear hW3;go_simp
        with_reducible rw[HWE.out]
        clear HWE;refine hK.out _ _ ⟨O3.out.keeps c0,O3.out.keeps c1,O3.out.keeps c2,O3.out.keeps c3⟩ (fun hHeld2=>?_);clear hK K hHeld;have hHeld:=hHeld2;clear hHeld2
        try simp only[Act.put,Yb,Yd,Yc,Yg,Ye,Yf]
        refine wpAnyH_ready (rs:=[6]) (by kernel_rfl) (by simp) ?_;refine(AllReadyH.cons rfl (fun K hK=>?_) AllReadyH.nil);obtain⟨W4,hW4,HB4⟩:=ZS m W3;have O4:=ZZ (O3.out.trans HB4.out.1);have RW:=ZZ (RW.out.keep HB4.out.1 id);have BX:=ZZ (BX.out.keep HB4.out.1 id);have SL:=ZZ HB4.out.2;have HSG:=ZZ (O3.out.size);have HWE:=ZZ hW4;clear hW4;go_simp
        with_reducible rw[HWE.out]
        clear HWE;refine hK.out _ _ ⟨O4.out.keeps c0,O4.out.keeps c1,O4.out.keeps c2,O4.out.keeps c3⟩ (fun hHeld2=>?_);clear hK K hHeld;have hHeld:=hHeld2;clear hHeld2
        try simp only[Act.put,Yb,Yd,Yc,Yg,Ye,Yf]
        refine wpAnyH_take (i:=7) (v:=?_) rfl (by kernel_rfl) (by kernel_rfl) (by kernel_rfl) (fun _ _ _ h=>h) (Or.inl ⟨by rfl,?_⟩) hHeld ?_;rotate_left
        · intro w hSw;(try dsimp only at hSw);go_simp;first|done|with_reducible rfl
        try simp only[Act.put,Yb,Yd,Yc,Yg,Ye,Yf]
        refine wpAnyH_ready (rs:=[9]) (by kernel_rfl) (by simp) ?_;refine(AllReadyH.cons rfl (fun K hK=>?_) AllReadyH.nil);obtain⟨s0,s1,s2,s3,s4,s5,s6,s7,s8,s9⟩:=Zg BX.out;obtain⟨f0,f1,f2,f3,f4,f5,f6,f7,f8,f9⟩:=Zv BX.out;go_simp;clear s0 s1 s2 s3 s4 s5 s6 s7 s8 s9 f0 f1 f2 f3 f4 f5 f6 f7 f8 f9;obtain⟨W5,hW5,oA,oB,B9⟩:=Z6 O4.out (O2.out.size) BX.out (.int .i64 c.semi) (.int .i64 c.large) (.int .i64 c.slots) (.int .i64 c.limit) (.bool false) (.slice (some ⟨w1.heap.size,0,none⟩) n n) (.int .i64 0) (.slice none 0 0) (.slice none 0 0) (.slice (some ⟨W3.heap.size,0,none⟩) m m)
        with_reducible rw[hW5]
        have O5:=ZZ oA;have RW:=ZZ (RW.out.keep oB (BX.out.ne RW.out (by decide)).symm);have SL:=ZZ (SL.out.keep oB (BX.out.ne SL.out (by decide)).symm);have BX:=ZZ B9;clear hW5 oA oB B9;refine hK.out _ _ ⟨O5.out.keeps c0,O5.out.keeps c1,O5.out.keeps c2,O5.out.keeps c3⟩ (fun hHeld2=>?_);clear hK K hHeld;have hHeld:=hHeld2;clear hHeld2
        try simp only[Act.put,Yb,Yd,Yc,Yg,Ye,Yf]
        refine wpAnyH_done (by kernel_rfl) ?_ _;go_wp2
        go_meet
        exact⟨_,_,_,rfl,ZZ ⟨O5.out,HBQ.out,BX.out,RW.out,SL.out,HSG.out⟩⟩
    · skip
      obtain⟨W2,hW2,HB2⟩:=ZS m w1;have O2:=ZZ (O1.out.trans HB2.out.1);have SL:=ZZ HB2.out.2;have HSG:=ZZ (O1.out.size);have HWE:=ZZ hW2;clear hW2;go_simp
      with_reducible rw[HWE.out]
      clear HWE;refine hK.out _ _ ⟨O2.out.keeps c0,O2.out.keeps c1,O2.out.keeps c2,O2.out.keeps c3⟩ (fun hHeld2=>?_);clear hK K hHeld;have hHeld:=hHeld2;clear hHeld2
      try simp only[Act.put,Yb,Yd,Yc,Yg,Ye,Yf]
      refine wpAnyH_ready (rs:=[3,8]) (by kernel_rfl) (by simp) ?_;refine(AllReadyH.cons rfl (fun K hK=>?_) (AllReadyH.cons rfl (fun K hK=>?_) AllReadyH.nil))
      · skip
        obtain⟨W3,hW3,HB3⟩:=Zx n W2;have O3:=ZZ (O2.out.trans HB3.out.1);have SL:=ZZ (SL.out.keep HB3.out.1 id);have RW:=ZZ HB3.out.2;have HWE:=ZZ hW3;clear hW3;go_simp
        with_reducible rw[HWE.out]
        clear HWE;refine hK.out _ _ ⟨O3.out.keeps c0,O3.out.keeps c1,O3.out.keeps c2,O3.out.keeps c3⟩ (fun hHeld2=>?_);clear hK K hHeld;have hHeld:=hHeld2;clear hHeld2
        try simp only[Act.put,Yb,Yd,Yc,Yg,Ye,Yf]
        refine wpAnyH_take (i:=7) (v:=?_) rfl (by kernel_rfl) (by kernel_rfl) (by kernel_rfl) (fun _ _ _ h=>h) (Or.inl ⟨by rfl,?_⟩) hHeld ?_;rotate_left
        · intro w hSw;(try dsimp only at hSw);go_simp;first|done|with_reducible rfl
        try simp only[Act.put,Yb,Yd,Yc,Yg,Ye,Yf]
        refine wpAnyH_ready (rs:=[8]) (by kernel_rfl) (by simp) ?_;refine(AllReadyH.cons rfl (fun K hK=>?_) AllReadyH.nil);obtain⟨W4,hW4,HB4⟩:=ZI W3;have O4:=ZZ (O3.out.trans HB4.out.1);have SL:=ZZ (SL.out.keep HB4.out.1 id);have RW:=ZZ (RW.out.keep HB4.out.1 id);have BX:=ZZ HB4.out.2;have HBQ:=ZZ (O3.out.size);have HWE:=ZZ hW4;clear hW4;go_simp
        with_reducible rw[HWE.out]
        clear HWE;refine hK.out _ _ ⟨O4.out.keeps c0,O4.out.keeps c1,O4.out.keeps c2,O4.out.keeps c3⟩ (fun hHeld2=>?_);clear hK K hHeld;have hHeld:=hHeld2;clear hHeld2
        try simp only[Act.put,Yb,Yd,Yc,Yg,Ye,Yf]
        refine wpAnyH_ready (rs:=[9]) (by kernel_rfl) (by simp) ?_;refine(AllReadyH.cons rfl (fun K hK=>?_) AllReadyH.nil);obtain⟨s0,s1,s2,s3,s4,s5,s6,s7,s8,s9⟩:=Zg BX.out;obtain⟨f0,f1,f2,f3,f4,f5,f6,f7,f8,f9⟩:=Zv BX.out;go_simp;clear s0 s1 s2 s3 s4 s5 s6 s7 s8 s9 f0 f1 f2 f3 f4 f5 f6 f7 f8 f9;obtain⟨W5,hW5,oA,oB,B9⟩:=Z6 O4.out (O3.out.size) BX.out (.int .i64 c.semi) (.int .i64 c.large) (.int .i64 c.slots) (.int .i64 c.limit) (.bool false) (.slice (some ⟨W2.heap.size,0,none⟩) n n) (.int .i64 0) (.slice none 0 0) (.slice none 0 0) (.slice (some ⟨w1.heap.size,0,none⟩) m m)
        with_reducible rw[hW5]
        have O5:=ZZ oA;have SL:=ZZ (SL.out.keep oB (BX.out.ne SL.out (by decide)).symm);have RW:=ZZ (RW.out.keep oB (BX.out.ne RW.out (by decide)).symm);have BX:=ZZ B9;clear hW5 oA oB B9;refine hK.out _ _ ⟨O5.out.keeps c0,O5.out.keeps c1,O5.out.keeps c2,O5.out.keeps c3⟩ (fun hHeld2=>?_);clear hK K hHeld;have hHeld:=hHeld2;clear hHeld2
        try simp only[Act.put,Yb,Yd,Yc,Yg,Ye,Yf]
        refine wpAnyH_done (by kernel_rfl) ?_ _;go_wp2
        go_meet
        exact⟨_,_,_,rfl,ZZ ⟨O5.out,HBQ.out,BX.out,RW.out,SL.out,HSG.out⟩⟩
      · skip
        obtain⟨W3,hW3,HB3⟩:=ZI W2;have O3:=ZZ (O2.out.trans HB3.out.1);have SL:=ZZ (SL.out.keep HB3.out.1 id);have BX:=ZZ HB3.out.2;have HBQ:=ZZ (O2.out.size);have HWE:=ZZ hW3;clear hW3;go_simp
        with_reducible rw[HWE.out]
        clear HWE;refine hK.out _ _ ⟨O3.out.keeps c0,O3.out.keeps c1,O3.out.keeps c2,O3.out.keeps c3⟩ (fun hHeld2=>?_);clear hK K hHeld;have hHeld:=hHeld2;clear hHeld2
        try simp only[Act.put,Yb,Yd,Yc,Yg,Ye,Yf]
        refine wpAnyH_ready (rs:=[3]) (by kernel_rfl) (by simp) ?_;refine(AllReadyH.cons rfl (fun K hK=>?_) AllReadyH.nil);obtain⟨W4,hW4,HB4⟩:=Zx n W3;have O4:=ZZ (O3.out.trans HB4.out.1);have SL:=ZZ (SL.out.keep HB4.out.1 id);have BX:=ZZ (BX.out.keep HB4.out.1 id);have RW:=ZZ HB4.out.2;have HWE:=ZZ hW4;clear hW4;go_simp
        with_reducible rw[HWE.out]
        clear HWE;refine hK.out _ _ ⟨O4.out.keeps c0,O4.out.keeps c1,O4.out.keeps c2,O4.out.keeps c3⟩ (fun hHeld2=>?_);clear hK K hHeld;have hHeld:=hHeld2;clear hHeld2
        try simp only[Act.put,Yb,Yd,Yc,Yg,Ye,Yf]
        refine wpAnyH_take (i:=7) (v:=?_) rfl (by kernel_rfl) (by kernel_rfl) (by kernel_rfl) (fun _ _ _ h=>h) (Or.inl ⟨by rfl,?_⟩) hHeld ?_;rotate_left
        · intro w hSw;(try dsimp only at hSw);go_simp;first|done|with_reducible rfl
        try simp only[Act.put,Yb,Yd,Yc,Yg,Ye,Yf]
        refine wpAnyH_ready (rs:=[9]) (by kernel_rfl) (by simp) ?_;refine(AllReadyH.cons rfl (fun K hK=>?_) AllReadyH.nil);obtain⟨s0,s1,s2,s3,s4,s5,s6,s7,s8,s9⟩:=Zg BX.out;obtain⟨f0,f1,f2,f3,f4,f5,f6,f7,f8,f9⟩:=Zv BX.out;go_simp;clear s0 s1 s2 s3 s4 s5 s6 s7 s8 s9 f0 f1 f2 f3 f4 f5 f6 f7 f8 f9;obtain⟨W5,hW5,oA,oB,B9⟩:=Z6 O4.out (O2.out.size) BX.out (.int .i64 c.semi) (.int .i64 c.large) (.int .i64 c.slots) (.int .i64 c.limit) (.bool false) (.slice (some ⟨W3.heap.size,0,none⟩) n n) (.int .i64 0) (.slice none 0 0) (.slice none 0 0) (.slice (some ⟨w1.heap.size,0,none⟩) m m)
        with_reducible rw[hW5]
        have O5:=ZZ oA;have SL:=ZZ (SL.out.keep oB (BX.out.ne SL.out (by decide)).symm);have RW:=ZZ (RW.out.keep oB (BX.out.ne RW.out (by decide)).symm);have BX:=ZZ B9;clear hW5 oA oB B9;refine hK.out _ _ ⟨O5.out.keeps c0,O5.out.keeps c1,O5.out.keeps c2,O5.out.keeps c3⟩ (fun hHeld2=>?_);clear hK K hHeld;have hHeld:=hHeld2;clear hHeld2
        try simp only[Act.put,Yb,Yd,Yc,Yg,Ye,Yf]
        refine wpAnyH_done (by kernel_rfl) ?_ _;go_wp2
        go_meet
        exact⟨_,_,_,rfl,ZZ ⟨O5.out,HBQ.out,BX.out,RW.out,SL.out,HSG.out⟩⟩
    · skip
      obtain⟨W2,hW2,HB2⟩:=ZI w1;have O2:=ZZ (O1.out.trans HB2.out.1);have BX:=ZZ HB2.out.2;have HBQ:=ZZ (O1.out.size);have HWE:=ZZ hW2;clear hW2;go_simp
      with_reducible rw[HWE.out]
      clear HWE;refine hK.out _ _ ⟨O2.out.keeps c0,O2.out.keeps c1,O2.out.keeps c2,O2.out.keeps c3⟩ (fun hHeld2=>?_);clear hK K hHeld;have hHeld:=hHeld2;clear hHeld2
      try simp only[Act.put,Yb,Yd,Yc,Yg,Ye,Yf]
      refine wpAnyH_ready (rs:=[3,6]) (by kernel_rfl) (by simp) ?_;refine(AllReadyH.cons rfl (fun K hK=>?_) (AllReadyH.cons rfl (fun K hK=>?_) AllReadyH.nil))
      · skip
        obtain⟨W3,hW3,HB3⟩:=Zx n W2;have O3:=ZZ (O2.out.trans HB3.out.1);have BX:=ZZ (BX.out.keep HB3.out.1 id);have RW:=ZZ HB3.out.2;have HWE:=ZZ hW3;clear hW3;go_simp
        with_reducible rw[HWE.out]
        clear HWE;refine hK.out _ _ ⟨O3.out.keeps c0,O3.out.keeps c1,O3.out.keeps c2,O3.out.keeps c3⟩ (fun hHeld2=>?_);clear hK K hHeld;have hHeld:=hHeld2;clear hHeld2
        try simp only[Act.put,Yb,Yd,Yc,Yg,Ye,Yf]
        refine wpAnyH_ready (rs:=[6]) (by kernel_rfl) (by simp) ?_;refine(AllReadyH.cons rfl (fun K hK=>?_) AllReadyH.nil);obtain⟨W4,hW4,HB4⟩:=ZS m W3;have O4:=ZZ (O3.out.trans HB4.out.1);have BX:=ZZ (BX.out.keep HB4.out.1 id);have RW:=ZZ (RW.out.keep HB4.out.1 id);have SL:=ZZ HB4.out.2;have HSG:=ZZ (O3.out.size);have HWE:=ZZ hW4;clear hW4;go_simp
        with_reducible rw[HWE.out]
        clear HWE;refine hK.out _ _ ⟨O4.out.keeps c0,O4.out.keeps c1,O4.out.keeps c2,O4.out.keeps c3⟩ (fun hHeld2=>?_);clear hK K hHeld;have hHeld:=hHeld2;clear hHeld2
        try simp only[Act.put,Yb,Yd,Yc,Yg,Ye,Yf]
        refine wpAnyH_take (i:=7) (v:=?_) rfl (by kernel_rfl) (by kernel_rfl) (by kernel_rfl) (fun _ _ _ h=>h) (Or.inl ⟨by rfl,?_⟩) hHeld ?_;rotate_left
        · intro w hSw;(try dsimp only at hSw);go_simp;first|done|with_reducible rfl
        try simp only[Act.put,Yb,Yd,Yc,Yg,Ye,Yf]
        refine wpAnyH_ready (rs:=[9]) (by kernel_rfl) (by simp) ?_;refine(AllReadyH.cons rfl (fun K hK=>?_) AllReadyH.nil);obtain⟨s0,s1,s2,s3,s4,s5,s6,s7,s8,s9⟩:=Zg BX.out;obtain⟨f0,f1,f2,f3,f4,f5,f6,f7,f8,f9⟩:=Zv BX.out;go_simp;clear s0 s1 s2 s3 s4 s5 s6 s7 s8 s9 f0 f1 f2 f3 f4 f5 f6 f7 f8 f9;obtain⟨W5,hW5,oA,oB,B9⟩:=Z6 O4.out (O1.out.size) BX.out (.int .i64 c.semi) (.int .i64 c.large) (.int .i64 c.slots) (.int .i64 c.limit) (.bool false) (.slice (some ⟨W2.heap.size,0,none⟩) n n) (.int .i64 0) (.slice none 0 0) (.slice none 0 0) (.slice (some ⟨W3.heap.size,0,none⟩) m m)
        with_reducible rw[hW5]
        have O5:=ZZ oA;have RW:=ZZ (RW.out.keep oB (BX.out.ne RW.out (by decide)).symm);have SL:=ZZ (SL.out.keep oB (BX.out.ne SL.out (by decide)).symm);have BX:=ZZ B9;clear hW5 oA oB B9;refine hK.out _ _ ⟨O5.out.keeps c0,O5.out.keeps c1,O5.out.keeps c2,O5.out.keeps c3⟩ (fun hHeld2=>?_);clear hK K hHeld;have hHeld:=hHeld2;clear hHeld2
        try simp only[Act.put,Yb,Yd,Yc,Yg,Ye,Yf]
        refine wpAnyH_done (by kernel_rfl) ?_ _;go_wp2
        go_meet
        exact⟨_,_,_,rfl,ZZ ⟨O5.out,HBQ.out,BX.out,RW.out,SL.out,HSG.out⟩⟩
      · skip
        obtain⟨W3,hW3,HB3⟩:=ZS m W2;have O3:=ZZ (O2.out.trans HB3.out.1);have BX:=ZZ (BX.out.keep HB3.out.1 id);have SL:=ZZ HB3.out.2;have HSG:=ZZ (O2.out.size);have HWE:=ZZ hW3;clear hW3;go_simp
        with_reducible rw[HWE.out]
        clear HWE;refine hK.out _ _ ⟨O3.out.keeps c0,O3.out.keeps c1,O3.out.keeps c2,O3.out.keeps c3⟩ (fun hHeld2=>?_);clear hK K hHeld;have hHeld:=hHeld2;clear hHeld2
        try simp only[Act.put,Yb,Yd,Yc,Yg,Ye,Yf]
        refine wpAnyH_ready (rs:=[3]) (by kernel_rfl) (by simp) ?_;refine(AllReadyH.cons rfl (fun K hK=>?_) AllReadyH.nil);obtain⟨W4,hW4,HB4⟩:=Zx n W3;have O4:=ZZ (O3.out.trans HB4.out.1);have BX:=ZZ (BX.out.keep HB4.out.1 id);have SL:=ZZ (SL.out.keep HB4.out.1 id);have RW:=ZZ HB4.out.2;have HWE:=ZZ hW4;clear hW4;go_simp
        with_reducible rw[HWE.out]
        clear HWE;refine hK.out _ _ ⟨O4.out.keeps c0,O4.out.keeps c1,O4.out.keeps c2,O4.out.keeps c3⟩ (fun hHeld2=>?_);clear hK K hHeld;have hHeld:=hHeld2;clear hHeld2
        try simp only[Act.put,Yb,Yd,Yc,Yg,Ye,Yf]
        refine wpAnyH_take (i:=7) (v:=?_) rfl (by kernel_rfl) (by kernel_rfl) (by kernel_rfl) (fun _ _ _ h=>h) (Or.inl ⟨by rfl,?_⟩) hHeld ?_;rotate_left
        · intro w hSw;(try dsimp only at hSw);go_simp;first|done|with_reducible rfl
        try simp only[Act.put,Yb,Yd,Yc,Yg,Ye,Yf]
        refine wpAnyH_ready (rs:=[9]) (by kernel_rfl) (by simp) ?_;refine(AllReadyH.cons rfl (fun K hK=>?_) AllReadyH.nil);obtain⟨s0,s1,s2,s3,s4,s5,s6,s7,s8,s9⟩:=Zg BX.out;obtain⟨f0,f1,f2,f3,f4,f5,f6,f7,f8,f9⟩:=Zv BX.out;go_simp;clear s0 s1 s2 s3 s4 s5 s6 s7 s8 s9 f0 f1 f2 f3 f4 f5 f6 f7 f8 f9;obtain⟨W5,hW5,oA,oB,B9⟩:=Z6 O4.out (O1.out.size) BX.out (.int .i64 c.semi) (.int .i64 c.large) (.int .i64 c.slots) (.int .i64 c.limit) (.bool false) (.slice (some ⟨W3.heap.size,0,none⟩) n n) (.int .i64 0) (.slice none 0 0) (.slice none 0 0) (.slice (some ⟨W2.heap.size,0,none⟩) m m)
        with_reducible rw[hW5]
        have O5:=ZZ oA;have SL:=ZZ (SL.out.keep oB (BX.out.ne SL.out (by decide)).symm);have RW:=ZZ (RW.out.keep oB (BX.out.ne RW.out (by decide)).symm);have BX:=ZZ B9;clear hW5 oA oB B9;refine hK.out _ _ ⟨O5.out.keeps c0,O5.out.keeps c1,O5.out.keeps c2,O5.out.keeps c3⟩ (fun hHeld2=>?_);clear hK K hHeld;have hHeld:=hHeld2;clear hHeld2
        try simp only[Act.put,Yb,Yd,Yc,Yg,Ye,Yf]
        refine wpAnyH_done (by kernel_rfl) ?_ _;go_wp2
        go_meet
        exact⟨_,_,_,rfl,ZZ ⟨O5.out,HBQ.out,BX.out,RW.out,SL.out,HSG.out⟩⟩
  · skip
    obtain⟨W1,hW1,HB1⟩:=Zc3 m WS;have O1:=ZZ (O0.out.trans HB1.out.1);have SL:=ZZ HB1.out.2;have HSG:=ZZ (Yi WS.heap.size);have HWE:=ZZ hW1;clear hW1;go_simp
    with_reducible rw[HWE.out]
    clear HWE;refine hK.out _ _ ⟨O1.out.keeps c0,O1.out.keeps c1,O1.out.keeps c2,O1.out.keeps c3⟩ (fun hHeld2=>?_);clear hK K hHeld;have hHeld:=hHeld2;clear hHeld2
    try simp only[Act.put,Yb,Yd,Yc,Yg,Ye,Yf]
    refine wpAnyH_ready (rs:=[2,8]) (by kernel_rfl) (by simp) ?_;refine(AllReadyH.cons rfl (fun K hK=>?_) (AllReadyH.cons rfl (fun K hK=>?_) AllReadyH.nil))
    · skip
      go_simp;go_at_call 59;refine(HWD.out _).mono ?_;rintro e w2 ⟨rfl,o⟩;have O2:=ZZ (O1.out.trans o);have SL:=ZZ (SL.out.keep o id);clear o;refine hK.out _ _ ⟨O2.out.keeps c0,O2.out.keeps c1,O2.out.keeps c2,O2.out.keeps c3⟩ (fun hHeld2=>?_);clear hK K hHeld;have hHeld:=hHeld2;clear hHeld2
      try simp only[Act.put,Yb,Yd,Yc,Yg,Ye,Yf]
      refine wpAnyH_ready (rs:=[3,8]) (by kernel_rfl) (by simp) ?_;refine(AllReadyH.cons rfl (fun K hK=>?_) (AllReadyH.cons rfl (fun K hK=>?_) AllReadyH.nil))
      · skip
        obtain⟨W3,hW3,HB3⟩:=Zx n w2;have O3:=ZZ (O2.out.trans HB3.out.1);have SL:=ZZ (SL.out.keep HB3.out.1 id);have RW:=ZZ HB3.out.2;have HWE:=ZZ hW3;clear hW3;go_simp
        with_reducible rw[HWE.out]
        clear HWE;refine hK.out _ _ ⟨O3.out.keeps c0,O3.out.keeps c1,O3.out.keeps c2,O3.out.keeps c3⟩ (fun hHeld2=>?_);clear hK K hHeld;have hHeld:=hHeld2;clear hHeld2
        try simp only[Act.put,Yb,Yd,Yc,Yg,Ye,Yf]
        refine wpAnyH_take (i:=7) (v:=?_) rfl (by kernel_rfl) (by kernel_rfl) (by kernel_rfl) (fun _ _ _ h=>h) (Or.inl ⟨by rfl,?_⟩) hHeld ?_;rotate_left
        · intro w hSw;(try dsimp only at hSw);go_simp;first|done|with_reducible rfl
        try simp only[Act.put,Yb,Yd,Yc,Yg,Ye,Yf]
        refine wpAnyH_ready (rs:=[8]) (by kernel_rfl) (by simp) ?_;refine(AllReadyH.cons rfl (fun K hK=>?_) AllReadyH.nil);obtain⟨W4,hW4,HB4⟩:=ZI W3;have O4:=ZZ (O3.out.trans HB4.out.1);have SL:=ZZ (SL.out.keep HB4.out.1 id);have RW:=ZZ (RW.out.keep HB4.out.1 id);have BX:=ZZ HB4.out.2;have HBQ:=ZZ (O3.out.size);have HWE:=ZZ hW4;clear hW4;go_simp
        with_reducible rw[HWE.out]
        clear HWE;refine hK.out _ _ ⟨O4.out.keeps c0,O4.out.keeps c1,O4.out.keeps c2,O4.out.keeps c3⟩ (fun hHeld2=>?_);clear hK K hHeld;have hHeld:=hHeld2;clear hHeld2
        try simp only[Act.put,Yb,Yd,Yc,Yg,Ye,Yf]
        refine wpAnyH_ready (rs:=[9]) (by kernel_rfl) (by simp) ?_;refine(AllReadyH.cons rfl (fun K hK=>?_) AllReadyH.nil);obtain⟨s0,s1,s2,s3,s4,s5,s6,s7,s8,s9⟩:=Zg BX.out;obtain⟨f0,f1,f2,f3,f4,f5,f6,f7,f8,f9⟩:=Zv BX.out;go_simp;clear s0 s1 s2 s3 s4 s5 s6 s7 s8 s9 f0 f1 f2 f3 f4 f5 f6 f7 f8 f9;obtain⟨W5,hW5,oA,oB,B9⟩:=Z6 O4.out (O3.out.size) BX.out (.int .i64 c.semi) (.int .i64 c.large) (.int .i64 c.slots) (.int .i64 c.limit) (.bool false) (.slice (some ⟨w2.heap.size,0,none⟩) n n) (.int .i64 0) (.slice none 0 0) (.slice none 0 0) (.slice (some ⟨WS.heap.size,0,none⟩) m m)
        with_reducible rw[hW5]
        have O5:=ZZ oA;have SL:=ZZ (SL.out.keep oB (BX.out.ne SL.out (by decide)).symm);have RW:=ZZ (RW.out.keep oB (BX.out.ne RW.out (by decide)).symm);have BX:=ZZ B9;clear hW5 oA oB B9;refine hK.out _ _ ⟨O5.out.keeps c0,O5.out.keeps c1,O5.out.keeps c2,O5.out.keeps c3⟩ (fun hHeld2=>?_);clear hK K hHeld;have hHeld:=hHeld2;clear hHeld2
        try simp only[Act.put,Yb,Yd,Yc,Yg,Ye,Yf]
        refine wpAnyH_done (by kernel_rfl) ?_ _;go_wp2
        go_meet
        exact⟨_,_,_,rfl,ZZ ⟨O5.out,HBQ.out,BX.out,RW.out,SL.out,HSG.out⟩⟩
      · skip
        obtain⟨W3,hW3,HB3⟩:=ZI w2;have O3:=ZZ (O2.out.trans HB3.out.1);have SL:=ZZ (SL.out.keep HB3.out.1 id);have BX:=ZZ HB3.out.2;have HBQ:=ZZ (O2.out.size);have HWE:=ZZ hW3;clear hW3;go_simp
        with_reducible rw[HWE.out]
        clear HWE;refine hK.out _ _ ⟨O3.out.keeps c0,O3.out.keeps c1,O3.out.keeps c2,O3.out.keeps c3⟩ (fun hHeld2=>?_);clear hK K hHeld;have hHeld:=hHeld2;clear hHeld2
        try simp only[Act.put,Yb,Yd,Yc,Yg,Ye,Yf]
        refine wpAnyH_ready (rs:=[3]) (by kernel_rfl) (by simp) ?_;refine(AllReadyH.cons rfl (fun K hK=>?_) AllReadyH.nil);obtain⟨W4,hW4,HB4⟩:=Zx n W3;have O4:=ZZ (O3.out.trans HB4.out.1);have SL:=ZZ (SL.out.keep HB4.out.1 id);have BX:=ZZ (BX.out.keep HB4.out.1 id);have RW:=ZZ HB4.out.2;have HWE:=ZZ hW4;clear hW4;go_simp
        with_reducible rw[HWE.out]
        clear HWE;refine hK.out _ _ ⟨O4.out.keeps c0,O4.out.keeps c1,O4.out.keeps c2,O4.out.keeps c3⟩ (fun hHeld2=>?_);clear hK K hHeld;have hHeld:=hHeld2;clear hHeld2
        try simp only[Act.put,Yb,Yd,Yc,Yg,Ye,Yf]
        refine wpAnyH_take (i:=7) (v:=?_) rfl (by kernel_rfl) (by kernel_rfl) (by kernel_rfl) (fun _ _ _ h=>h) (Or.inl ⟨by rfl,?_⟩) hHeld ?_;rotate_left
        · intro w hSw;(try dsimp only at hSw);go_simp;first|done|with_reducible rfl
        try simp only[Act.put,Yb,Yd,Yc,Yg,Ye,Yf]
        refine wpAnyH_ready (rs:=[9]) (by kernel_rfl) (by simp) ?_;refine(AllReadyH.cons rfl (fun K hK=>?_) AllReadyH.nil);obtain⟨s0,s1,s2,s3,s4,s5,s6,s7,s8,s9⟩:=Zg BX.out;obtain⟨f0,f1,f2,f3,f4,f5,f6,f7,f8,f9⟩:=Zv BX.out;go_simp;clear s0 s1 s2 s3 s4 s5 s6 s7 s8 s9 f0 f1 f2 f3 f4 f5 f6 f7 f8 f9;obtain⟨W5,hW5,oA,oB,B9⟩:=Z6 O4.out (O2.out.size) BX.out (.int .i64 c.semi) (.int .i64 c.large) (.int .i64 c.slots) (.int .i64 c.limit) (.bool false) (.slice (some ⟨W3.heap.size,0,none⟩) n n) (.int .i64 0) (.slice none 0 0) (.slice none 0 0) (.slice (some ⟨WS.heap.size,0,none⟩) m m)
        with_reducible rw[hW5]
        have O5:=ZZ oA;have SL:=ZZ (SL.out.keep oB (BX.out.ne SL.out (by decide)).symm);have RW:=ZZ (RW.out.keep oB (BX.out.ne RW.out (by decide)).symm);have BX:=ZZ B9;clear hW5 oA oB B9;refine hK.out _ _ ⟨O5.out.keeps c0,O5.out.keeps c1,O5.out.keeps c2,O5.out.keeps c3⟩ (fun hHeld2=>?_);clear hK K hHeld;have hHeld:=hHeld2;clear hHeld2
        try simp only[Act.put,Yb,Yd,Yc,Yg,Ye,Yf]
        refine wpAnyH_done (by kernel_rfl) ?_ _;go_wp2
        go_meet
        exact⟨_,_,_,rfl,ZZ ⟨O5.out,HBQ.out,BX.out,RW.out,SL.out,HSG.out⟩⟩
    · skip
      obtain⟨W2,hW2,HB2⟩:=ZI W1;have O2:=ZZ (O1.out.trans HB2.out.1);have SL:=ZZ (SL.out.keep HB2.out.1 id);have BX:=ZZ HB2.out.2;have HBQ:=ZZ (O1.out.size);have HWE:=ZZ hW2;clear hW2;go_simp
      with_reducible rw[HWE.out]
      clear HWE;refine hK.out _ _ ⟨O2.out.keeps c0,O2.out.keeps c1,O2.out.keeps c2,O2.out.keeps c3⟩ (fun hHeld2=>?_);clear hK K hHeld;have hHeld:=hHeld2;clear hHeld2
      try simp only[Act.put,Yb,Yd,Yc,Yg,Ye,Yf]
      refine wpAnyH_ready (rs:=[2]) (by kernel_rfl) (by simp) ?_;refine(AllReadyH.cons rfl (fun K hK=>?_) AllReadyH.nil);go_simp;go_at_call 59;refine(HWD.out _).mono ?_;rintro e w3 ⟨rfl,o⟩;have O3:=ZZ (O2.out.trans o);have SL:=ZZ (SL.out.keep o id);have BX:=ZZ (BX.out.keep o id);clear o;refine hK.out _ _ ⟨O3.out.keeps c0,O3.out.keeps c1,O3.out.keeps c2,O3.out.keeps c3⟩ (fun hHeld2=>?_);clear hK K hHeld;have hHeld:=hHeld2;clear hHeld2
      try simp only[Act.put,Yb,Yd,Yc,Yg,Ye,Yf]
      refine wpAnyH_ready (rs:=[3]) (by kernel_rfl) (by simp) ?_;refine(AllReadyH.cons rfl (fun K hK=>?_) AllReadyH.nil);obtain⟨W4,hW4,HB4⟩:=Zx n w3;have O4:=ZZ (O3.out.trans HB4.out.1);have SL:=ZZ (SL.out.keep HB4.out.1 id);have BX:=ZZ (BX.out.keep HB4.out.1 id);have RW:=ZZ HB4.out.2;have HWE:=ZZ hW4;clear hW4;go_simp
      with_reducible rw[HWE.out]
      clear HWE;refine hK.out _ _ ⟨O4.out.keeps c0,O4.out.keeps c1,O4.out.keeps c2,O4.out.keeps c3⟩ (fun hHeld2=>?_);clear hK K hHeld;have hHeld:=hHeld2;clear hHeld2
      try simp only[Act.put,Yb,Yd,Yc,Yg,Ye,Yf]
      refine wpAnyH_take (i:=7) (v:=?_) rfl (by kernel_rfl) (by kernel_rfl) (by kernel_rfl) (fun _ _ _ h=>h) (Or.inl ⟨by rfl,?_⟩) hHeld ?_;rotate_left
      · intro w hSw;(try dsimp only at hSw);go_simp;first|done|with_reducible rfl
      try simp only[Act.put,Yb,Yd,Yc,Yg,Ye,Yf]
      refine wpAnyH_ready (rs:=[9]) (by kernel_rfl) (by simp) ?_;refine(AllReadyH.cons rfl (fun K hK=>?_) AllReadyH.nil);obtain⟨s0,s1,s2,s3,s4,s5,s6,s7,s8,s9⟩:=Zg BX.out;obtain⟨f0,f1,f2,f3,f4,f5,f6,f7,f8,f9⟩:=Zv BX.out;go_simp;clear s0 s1 s2 s3 s4 s5 s6 s7 s8 s9 f0 f1 f2 f3 f4 f5 f6 f7 f8 f9;obtain⟨W5,hW5,oA,oB,B9⟩:=Z6 O4.out (O1.out.size) BX.out (.int .i64 c.semi) (.int .i64 c.large) (.int .i64 c.slots) (.int .i64 c.limit) (.bool false) (.slice (some ⟨w3.heap.size,0,none⟩) n n) (.int .i64 0) (.slice none 0 0) (.slice none 0 0) (.slice (some ⟨WS.heap.size,0,none⟩) m m)
      with_reducible rw[hW5]
      have O5:=ZZ oA;have SL:=ZZ (SL.out.keep oB (BX.out.ne SL.out (by decide)).symm);have RW:=ZZ (RW.out.keep oB (BX.out.ne RW.out (by decide)).symm);have BX:=ZZ B9;clear hW5 oA oB B9;refine hK.out _ _ ⟨O5.out.keeps c0,O5.out.keeps c1,O5.out.keeps c2,O5.out.keeps c3⟩ (fun hHeld2=>?_);clear hK K hHeld;have hHeld:=hHeld2;clear hHeld2
      try simp only[Act.put,Yb,Yd,Yc,Yg,Ye,Yf]
      refine wpAnyH_done (by kernel_rfl) ?_ _;go_wp2
      go_meet
      exact⟨_,_,_,rfl,ZZ ⟨O5.out,HBQ.out,BX.out,RW.out,SL.out,HSG.out⟩⟩
  · skip
    obtain⟨W1,hW1,HB1⟩:=ZdO WS;have O1:=ZZ (O0.out.trans HB1.out.1);have BX:=ZZ HB1.out.2;have HBQ:=ZZ (Yi WS.heap.size);have HWE:=ZZ hW1;clear hW1;go_simp
    with_reducible rw[HWE.out]
    clear HWE;refine hK.out _ _ ⟨O1.out.keeps c0,O1.out.keeps c1,O1.out.keeps c2,O1.out.keeps c3⟩ (fun hHeld2=>?_);clear hK K hHeld;have hHeld:=hHeld2;clear hHeld2
    try simp only[Act.put,Yb,Yd,Yc,Yg,Ye,Yf]
    refine wpAnyH_ready (rs:=[2,6]) (by kernel_rfl) (by simp) ?_;refine(AllReadyH.cons rfl (fun K hK=>?_) (AllReadyH.cons rfl (fun K hK=>?_) AllReadyH.nil))
    · skip
      go_simp;go_at_call 59;refine(HWD.out _).mono ?_;rintro e w2 ⟨rfl,o⟩;have O2:=ZZ (O1.out.trans o);have BX:=ZZ (BX.out.keep o id);clear o;refine hK.out _ _ ⟨O2.out.keeps c0,O2.out.keeps c1,O2.out.keeps c2,O2.out.keeps c3⟩ (fun hHeld2=>?_);clear hK K hHeld;have hHeld:=hHeld2;clear hHeld2
      try simp only[Act.put,Yb,Yd,Yc,Yg,Ye,Yf]
      refine wpAnyH_ready (rs:=[3,6]) (by kernel_rfl) (by simp) ?_;refine(AllReadyH.cons rfl (fun K hK=>?_) (AllReadyH.cons rfl (fun K hK=>?_) AllReadyH.nil))
      · skip
        obtain⟨W3,hW3,HB3⟩:=Zx n w2;have O3:=ZZ (O2.out.trans HB3.out.1);have BX:=ZZ (BX.out.keep HB3.out.1 id);have RW:=ZZ HB3.out.2;have HWE:=ZZ hW3;clear hW3;go_simp
        with_reducible rw[HWE.out]
        clear HWE;refine hK.out _ _ ⟨O3.out.keeps c0,O3.out.keeps c1,O3.out.keeps c2,O3.out.keeps c3⟩ (fun hHeld2=>?_);clear hK K hHeld;have hHeld:=hHeld2;clear hHeld2
        try simp only[Act.put,Yb,Yd,Yc,Yg,Ye,Yf]
        refine wpAnyH_ready (rs:=[6]) (by kernel_rfl) (by simp) ?_;refine(AllReadyH.cons rfl (fun K hK=>?_) AllReadyH.nil);obtain⟨W4,hW4,HB4⟩:=ZS m W3;have O4:=ZZ (O3.out.trans HB4.out.1);have BX:=ZZ (BX.out.keep HB4.out.1 id);have RW:=ZZ (RW.out.keep HB4.out.1 id);have SL:=ZZ HB4.out.2;have HSG:=ZZ (O3.out.size);have HWE:=ZZ hW4;clear hW4;go_simp
        with_reducible rw[HWE.out]
        clear HWE;refine hK.out _ _ ⟨O4.out.keeps c0,O4.out.keeps c1,O4.out.keeps c2,O4.out.keeps c3⟩ (fun hHeld2=>?_);clear hK K hHeld;have hHeld:=hHeld2;clear hHeld2
        try simp only[Act.put,Yb,Yd,Yc,Yg,Ye,Yf]
        refine wpAnyH_take (i:=7) (v:=?_) rfl (by kernel_rfl) (by kernel_rfl) (by kernel_rfl) (fun _ _ _ h=>h) (Or.inl ⟨by rfl,?_⟩) hHeld ?_;rotate_left
        · intro w hSw;(try dsimp only at hSw);go_simp;first|done|with_reducible rfl
        try simp only[Act.put,Yb,Yd,Yc,Yg,Ye,Yf]
        refine wpAnyH_ready (rs:=[9]) (by kernel_rfl) (by simp) ?_;refine(AllReadyH.cons rfl (fun K hK=>?_) AllReadyH.nil);obtain⟨s0,s1,s2,s3,s4,s5,s6,s7,s8,s9⟩:=Zg BX.out;obtain⟨f0,f1,f2,f3,f4,f5,f6,f7,f8,f9⟩:=Zv BX.out;go_simp;clear s0 s1 s2 s3 s4 s5 s6 s7 s8 s9 f0 f1 f2 f3 f4 f5 f6 f7 f8 f9;obtain⟨W5,hW5,oA,oB,B9⟩:=Z6 O4.out (Yi WS.heap.size) BX.out (.int .i64 c.semi) (.int .i64 c.large) (.int .i64 c.slots) (.int .i64 c.limit) (.bool false) (.slice (some ⟨w2.heap.size,0,none⟩) n n) (.int .i64 0) (.slice none 0 0) (.slice none 0 0) (.slice (some ⟨W3.heap.size,0,none⟩) m m)
        with_reducible rw[hW5]
        have O5:=ZZ oA;have RW:=ZZ (RW.out.keep oB (BX.out.ne RW.out (by decide)).symm);have SL:=ZZ (SL.out.keep oB (BX.out.ne SL.out (by decide)).symm);have BX:=ZZ B9;clear hW5 oA oB B9;refine hK.out _ _ ⟨O5.out.keeps c0,O5.out.keeps c1,O5.out.keeps c2,O5.out.keeps c3⟩ (fun hHeld2=>?_);clear hK K hHeld;have hHeld:=hHeld2;clear hHeld2
        try simp only[Act.put,Yb,Yd,Yc,Yg,Ye,Yf]
        refine wpAnyH_done (by kernel_rfl) ?_ _;go_wp2
        go_meet
        exact⟨_,_,_,rfl,ZZ ⟨O5.out,HBQ.out,BX.out,RW.out,SL.out,HSG.out⟩⟩
      · skip
        obtain⟨W3,hW3,HB3⟩:=ZS m w2;have O3:=ZZ (O2.out.trans HB3.out.1);have BX:=ZZ (BX.out.keep HB3.out.1 id);have SL:=ZZ HB3.out.2;have HSG:=ZZ (O2.out.size);have HWE:=ZZ hW3;clear hW3;go_simp
        with_reducible rw[HWE.out]
        clear HWE;refine hK.out _ _ ⟨O3.out.keeps c0,O3.out.keeps c1,O3.out.keeps c2,O3.out.keeps c3⟩ (fun hHeld2=>?_);clear hK K hHeld;have hHeld:=hHeld2;clear hHeld2
        try simp only[Act.put,Yb,Yd,Yc,Yg,Ye,Yf]
        refine wpAnyH_ready (rs:=[3]) (by kernel_rfl) (by simp) ?_;refine(AllReadyH.cons rfl (fun K hK=>?_) AllReadyH.nil);obtain⟨W4,hW4,HB4⟩:=Zx n W3;have O4:=ZZ (O3.out.trans HB4.out.1);have BX:=ZZ (BX.out.keep HB4.out.1 id);have SL:=ZZ (SL.out.keep HB4.out.1 id);have RW:=ZZ HB4.out.2;have HWE:=ZZ hW4;clear hW4;go_simp
        with_reducible rw[HWE.out]
        clear HWE;refine hK.out _ _ ⟨O4.out.keeps c0,O4.out.keeps c1,O4.out.keeps c2,O4.out.keeps c3⟩ (fun hHeld2=>?_);clear hK K hHeld;have hHeld:=hHeld2;clear hHeld2
        try simp only[Act.put,Yb,Yd,Yc,Yg,Ye,Yf]
        refine wpAnyH_take (i:=7) (v:=?_) rfl (by kernel_rfl) (by kernel_rfl) (by kernel_rfl) (fun _ _ _ h=>h) (Or.inl ⟨by rfl,?_⟩) hHeld ?_;rotate_left
        · intro w hSw;(try dsimp only at hSw);go_simp;first|done|with_reducible rfl
        try simp only[Act.put,Yb,Yd,Yc,Yg,Ye,Yf]
        refine wpAnyH_ready (rs:=[9]) (by kernel_rfl) (by simp) ?_;refine(AllReadyH.cons rfl (fun K hK=>?_) AllReadyH.nil);obtain⟨s0,s1,s2,s3,s4,s5,s6,s7,s8,s9⟩:=Zg BX.out;obtain⟨f0,f1,f2,f3,f4,f5,f6,f7,f8,f9⟩:=Zv BX.out;go_simp;clear s0 s1 s2 s3 s4 s5 s6 s7 s8 s9 f0 f1 f2 f3 f4 f5 f6 f7 f8 f9;obtain⟨W5,hW5,oA,oB,B9⟩:=Z6 O4.out (Yi WS.heap.size) BX.out (.int .i64 c.semi) (.int .i64 c.large) (.int .i64 c.slots) (.int .i64 c.limit) (.bool false) (.slice (some ⟨W3.heap.size,0,none⟩) n n) (.int .i64 0) (.slice none 0 0) (.slice none 0 0) (.slice (some ⟨w2.heap.size,0,none⟩) m m)
        with_reducible rw[hW5]
        have O5:=ZZ oA;have SL:=ZZ (SL.out.keep oB (BX.out.ne SL.out (by decide)).symm);have RW:=ZZ (RW.out.keep oB (BX.out.ne RW.out (by decide)).symm);have BX:=ZZ B9;clear hW5 oA oB B9;refine hK.out _ _ ⟨O5.out.keeps c0,O5.out.keeps c1,O5.out.keeps c2,O5.out.keeps c3⟩ (fun hHeld2=>?_);clear hK K hHeld;have hHeld:=hHeld2;clear hHeld2
        try simp only[Act.put,Yb,Yd,Yc,Yg,Ye,Yf]
        refine wpAnyH_done (by kernel_rfl) ?_ _;go_wp2
        go_meet
        exact⟨_,_,_,rfl,ZZ ⟨O5.out,HBQ.out,BX.out,RW.out,SL.out,HSG.out⟩⟩
    · skip
      obtain⟨W2,hW2,HB2⟩:=ZS m W1;have O2:=ZZ (O1.out.trans HB2.out.1);have BX:=ZZ (BX.out.keep HB2.out.1 id);have SL:=ZZ HB2.out.2;have HSG:=ZZ (O1.out.size);have HWE:=ZZ hW2;clear hW2;go_simp
      with_reducible rw[HWE.out]
      clear HWE;refine hK.out _ _ ⟨O2.out.keeps c0,O2.out.keeps c1,O2.out.keeps c2,O2.out.keeps c3⟩ (fun hHeld2=>?_);clear hK K hHeld;have hHeld:=hHeld2;clear hHeld2
      try simp only[Act.put,Yb,Yd,Yc,Yg,Ye,Yf]
      refine wpAnyH_ready (rs:=[2]) (by kernel_rfl) (by simp) ?_;refine(AllReadyH.cons rfl (fun K hK=>?_) AllReadyH.nil);go_simp;go_at_call 59;refine(HWD.out _).mono ?_;rintro e w3 ⟨rfl,o⟩;have O3:=ZZ (O2.out.trans o);have BX:=ZZ (BX.out.keep o id);have SL:=ZZ (SL.out.keep o id);clear o;refine hK.out _ _ ⟨O3.out.keeps c0,O3.out.keeps c1,O3.out.keeps c2,O3.out.keeps c3⟩ (fun hHeld2=>?_);clear hK K hHeld;have hHeld:=hHeld2;clear hHeld2
      try simp only[Act.put,Yb,Yd,Yc,Yg,Ye,Yf]
      refine wpAnyH_ready (rs:=[3]) (by kernel_rfl) (by simp) ?_;refine(AllReadyH.cons rfl (fun K hK=>?_) AllReadyH.nil);obtain⟨W4,hW4,HB4⟩:=Zx n w3;have O4:=ZZ (O3.out.trans HB4.out.1);have BX:=ZZ (BX.out.keep HB4.out.1 id);have SL:=ZZ (SL.out.keep HB4.out.1 id);have RW:=ZZ HB4.out.2;have HWE:=ZZ hW4;clear hW4;go_simp
      with_reducible rw[HWE.out]
      clear HWE;refine hK.out _ _ ⟨O4.out.keeps c0,O4.out.keeps c1,O4.out.keeps c2,O4.out.keeps c3⟩ (fun hHeld2=>?_);clear hK K hHeld;have hHeld:=hHeld2;clear hHeld2
      try simp only[Act.put,Yb,Yd,Yc,Yg,Ye,Yf]
      refine wpAnyH_take (i:=7) (v:=?_) rfl (by kernel_rfl) (by kernel_rfl) (by kernel_rfl) (fun _ _ _ h=>h) (Or.inl ⟨by rfl,?_⟩) hHeld ?_;rotate_left
      · intro w hSw;(try dsimp only at hSw);go_simp;first|done|with_reducible rfl
      try simp only[Act.put,Yb,Yd,Yc,Yg,Ye,Yf]
      refine wpAnyH_ready (rs:=[9]) (by kernel_rfl) (by simp) ?_;refine(AllReadyH.cons rfl (fun K hK=>?_) AllReadyH.nil);obtain⟨s0,s1,s2,s3,s4,s5,s6,s7,s8,s9⟩:=Zg BX.out;obtain⟨f0,f1,f2,f3,f4,f5,f6,f7,f8,f9⟩:=Zv BX.out;go_simp;clear s0 s1 s2 s3 s4 s5 s6 s7 s8 s9 f0 f1 f2 f3 f4 f5 f6 f7 f8 f9;obtain⟨W5,hW5,oA,oB,B9⟩:=Z6 O4.out (Yi WS.heap.size) BX.out (.int .i64 c.semi) (.int .i64 c.large) (.int .i64 c.slots) (.int .i64 c.limit) (.bool false) (.slice (some ⟨w3.heap.size,0,none⟩) n n) (.int .i64 0) (.slice none 0 0) (.slice none 0 0) (.slice (some ⟨W1.heap.size,0,none⟩) m m)
      with_reducible rw[hW5]
      have O5:=ZZ oA;have SL:=ZZ (SL.out.keep oB (BX.out.ne SL.out (by decide)).symm);have RW:=ZZ (RW.out.keep oB (BX.out.ne RW.out (by decide)).symm);have BX:=ZZ B9;clear hW5 oA oB B9;refine hK.out _ _ ⟨O5.out.keeps c0,O5.out.keeps c1,O5.out.keeps c2,O5.out.keeps c3⟩ (fun hHeld2=>?_);clear hK K hHeld;have hHeld:=hHeld2;clear hHeld2
      try simp only[Act.put,Yb,Yd,Yc,Yg,Ye,Yf]
      refine wpAnyH_done (by kernel_rfl) ?_ _;go_wp2
      go_meet
      exact⟨_,_,_,rfl,ZZ ⟨O5.out,HBQ.out,BX.out,RW.out,SL.out,HSG.out⟩⟩
 case rest=>
 obtain⟨bq,rg,sg,rfl,HC⟩:=hcut;clear hmk hmks
 obtain⟨W5,rfl⟩: ∃W5:World,W5=wc:=⟨_,rfl⟩
 have X5:=ZZ (X4.out.keep HC.out.1);have B5:=ZZ (B4.out.keep HC.out.1 id);have hbq:=HC.out.2.1;clear c0 c1 c2 c3;obtain⟨c0,c1,c2,c3⟩:=X5.out;rw[← HP.out] at c0 c1 c2 c3;obtain⟨d0,d1,d2,d3,d4,d5,d6,d7,d8,d9⟩:=Zg HC.out.2.2.1;by_cases hl:0<c.large
 · have q8:=HC.out.2.2.1.free 8
   go_wp2_with fail
   go_at_call 29;refine(HLA.out _).mono ?_;rintro e w6 ⟨rfl,o⟩;obtain⟨W6,hW6,HB6⟩:=Z8 w6 x y;have HW6:=ZZ hW6;have o6:=o.trans HB6.out.1;have D6:=ZZ (HC.out.2.2.1.keep o6 id);have R6:=ZZ (HC.out.2.2.2.1.keep o6 id);have S6:=ZZ (HC.out.2.2.2.2.1.keep o6 id);have B6:=ZZ (B5.out.keep o6 id);have O6:=ZZ (O4.out.trans (HC.out.1.trans o6));have hws:w.heap.size≤WS.heap.size:=O4.out.size;have k8:W6.cell? ⟨bq,8,none⟩=some (.slice none 0 0):=D6.out.cell 8;have l8:=D6.out.free 8;have k8':=k8;have l8':=l8;rw[← hW6] at k8' l8';clear hW6 o o6 c0 c1 c2 c3 d0 d1 d2 d3 d4 d5 d6 d7 d8 d9 q8
   go_upto_region 6 with fail
   rw[HW6.out];clear k8' l8'
   obtain⟨W8,hW8,o8⟩: ∃W8,W6.setCell ⟨bq,8,none⟩ (.slice (some ⟨w6.heap.size,0,none⟩) 1 1)=W8∧Only (isb bq) W6 W8:=⟨_,rfl,Zc W6 bq 8 _⟩
   have hD8:Blk (W6.setCell ⟨bq,8,none⟩ (.slice (some ⟨w6.heap.size,0,none⟩) 1 1)) bq 34 #[.int .i64 c.semi,.int .i64 c.large,.int .i64 c.slots,.int .i64 c.limit,.bool false,.slice (some ⟨rg,0,none⟩) n n,.int .i64 0,.slice none 0 0,.slice (some ⟨w6.heap.size,0,none⟩) 1 1,.slice (some ⟨sg,0,none⟩) m m]:=by simpa using D6.out.put 8 (.slice (some ⟨w6.heap.size,0,none⟩) 1 1)
   rw[hW8] at hD8;have HW8:=ZZ hW8;rw[HW8.out];have D8:=ZZ hD8;have O8:=ZZ (show Only nob w W8 from by rw[← hW8];exact O6.out.setCell (p:=⟨bq,8,none⟩) (fun hlt=>absurd (Yh hws hbq) (Nat.not_le_of_lt hlt)) _);have R8:=ZZ (R6.out.keep o8 (R6.out.ne D6.out (by decide)));have S8:=ZZ (S6.out.keep o8 (S6.out.ne D6.out (by decide)));have F8:=ZZ (HB6.out.2.1.keep o8 (HB6.out.2.1.ne D6.out (by decide)))
   have hp1:p+1≠bq:=by have:=B4.out.lt;omega
   have B8:=ZZ (B6.out.keep o8 hp1);clear hW8 o8 hD8 k8 l8;obtain⟨d0,d1,d2,d3,d4,d5,d6,d7,d8,d9⟩:=Zg D8.out;obtain⟨s0,s1,s2,s3,s4,s5,s6,s7,s8,s9⟩:=Zg B8.out;obtain⟨f0,f1,f2,f3,f4,f5,f6,f7,f8,f9⟩:=Zv B8.out;go_wp2;clear s0 s1 s2 s3 s4 s5 s6 s7 s8 s9 f0 f1 f2 f3 f4 f5 f6 f7 f8 f9 d0 d1 d2 d3 d4 d5 d6 d7 d8 d9;obtain⟨W7,hW7,O7,OI7,B7⟩:=Z6 (O8.out) (by have:=HP.out;omega) B8.out (.int .i64 c.semi) (.int .i64 c.large) (.int .i64 c.slots) (.int .i64 c.limit) (.bool false) (.slice (some ⟨rg,0,none⟩) n n) (.int .i64 0) (.slice none 0 0) (.slice (some ⟨w6.heap.size,0,none⟩) 1 1) (.slice (some ⟨sg,0,none⟩) m m)
   with_reducible rw[hW7]
   obtain⟨h0,h1,h2,h3,h4,h5,h6,h7,h8,h9⟩:=Zg B7;have r1:Blk W7 rg 57 (u64s (List.replicate n 0)).toArray:=(R8.out).keep OI7 ((R8.out).ne B8.out (by decide));have r3:Blk W7 sg 63 (slc (List.replicate m ((false,0,0):Slt))).toArray:=(S8.out).keep OI7 ((S8.out).ne B8.out (by decide));have s3':=Sl.of_blk (size:=3) (n:=m) (c:=m) r3 (by simp[ZaP]) (Yi _) (by have:=HMB.out;unfold maxLen;omega)
   have s3'':Sl W7 W7.heap.size 3 (.slice (some ⟨sg,0,none⟩) m m) (List.replicate c.slots.toNat ((false,0,0):Slt)).length (slc (List.replicate c.slots.toNat ((false,0,0):Slt))):=by
    rw[← HM.out,List.length_replicate];exact s3'
   have ho2:W7.ownsRow w.heap.size 63 3 (.slice (some ⟨sg,0,none⟩) m m) c.slots.toNat (slc (List.replicate c.slots.toNat ((false,0,0):Slt))):=by
    rw[← HM.out];have hge:w.heap.size≤sg:=Yh O4.out.size HC.out.2.2.2.2.2;have hmb:=HMB.out
    have hln:(slc (List.replicate m ((false,0,0):Slt))).length=m * 3:=by rw[ZaP,List.length_replicate]
    exact⟨hln,.inr ⟨sg,m,_,rfl,hge,r3,Yi _,by unfold maxLen;omega,by rw[List.size_toArray,hln],by rw[List.take_of_length_le (by simp[hln])]⟩⟩
   have hfr:Sl W7 W7.heap.size 2 (.slice (some ⟨w6.heap.size,0,none⟩) 1 1) (frN c).length (spc (frN c)):=by
    have hfn:frN c=[(x,y)]:=by unfold frN;rw[if_pos hl,HXY.out]
    rw[hfn];exact Sl.of_blk (size:=2) (n:=1) (c:=1) (F8.out.keep OI7 (F8.out.ne B8.out (by decide))) (by simp) (Yi _) (by unfold maxLen;omega)
   have hrd:=Zje (w:=W7) HOK.out HN.out r1 hfr s3'';exact bodyPost_ret (v:=.tuple #[.agg #[.int .i64 c.semi,.int .i64 c.large,.int .i64 c.slots,.int .i64 c.limit,.bool false,.slice (some ⟨rg,0,none⟩) n n,.int .i64 0,.slice none 0 0,.slice (some ⟨w6.heap.size,0,none⟩) 1 1,.slice (some ⟨sg,0,none⟩) m m],.int .i64 0]) (by simp[results,Tryz.results23,go_sem,h0,h1,h2,h3,h4,h5,h6,h7,h8,h9]) rfl ⟨_,_,_,rfl,hrd,ho2,O7⟩
 · have B6:=B5
   obtain⟨s0,s1,s2,s3,s4,s5,s6,s7,s8,s9⟩:=Zg B5.out;obtain⟨f0,f1,f2,f3,f4,f5,f6,f7,f8,f9⟩:=Zv B5.out
   go_upto_region 6 with fail
   clear c0 c1 c2 c3;go_wp2;clear s0 s1 s2 s3 s4 s5 s6 s7 s8 s9 f0 f1 f2 f3 f4 f5 f6 f7 f8 f9 d0 d1 d2 d3 d4 d5 d6 d7 d8 d9;obtain⟨W7,hW7,O7,OI7,B7⟩:=Z6 (O4.out.trans HC.out.1) (by have:=HP.out;omega) B5.out (.int .i64 c.semi) (.int .i64 c.large) (.int .i64 c.slots) (.int .i64 c.limit) (.bool false) (.slice (some ⟨rg,0,none⟩) n n) (.int .i64 0) (.slice none 0 0) (.slice none 0 0) (.slice (some ⟨sg,0,none⟩) m m)
   with_reducible rw[hW7]
   obtain⟨h0,h1,h2,h3,h4,h5,h6,h7,h8,h9⟩:=Zg B7;have r1:Blk W7 rg 57 (u64s (List.replicate n 0)).toArray:=(HC.out.2.2.2.1).keep OI7 ((HC.out.2.2.2.1).ne B5.out (by decide));have r3:Blk W7 sg 63 (slc (List.replicate m ((false,0,0):Slt))).toArray:=(HC.out.2.2.2.2.1).keep OI7 ((HC.out.2.2.2.2.1).ne B5.out (by decide));have s3':=Sl.of_blk (size:=3) (n:=m) (c:=m) r3 (by simp[ZaP]) (Yi _) (by have:=HMB.out;unfold maxLen;omega)
   have s3'':Sl W7 W7.heap.size 3 (.slice (some ⟨sg,0,none⟩) m m) (List.replicate c.slots.toNat ((false,0,0):Slt)).length (slc (List.replicate c.slots.toNat ((false,0,0):Slt))):=by
    rw[← HM.out,List.length_replicate];exact s3'
   have ho2:W7.ownsRow w.heap.size 63 3 (.slice (some ⟨sg,0,none⟩) m m) c.slots.toNat (slc (List.replicate c.slots.toNat ((false,0,0):Slt))):=by
    rw[← HM.out];have hge:w.heap.size≤sg:=Yh O4.out.size HC.out.2.2.2.2.2;have hmb:=HMB.out
    have hln:(slc (List.replicate m ((false,0,0):Slt))).length=m * 3:=by rw[ZaP,List.length_replicate]
    exact⟨hln,.inr ⟨sg,m,_,rfl,hge,r3,Yi _,by unfold maxLen;omega,by rw[List.size_toArray,hln],by rw[List.take_of_length_le (by simp[hln])]⟩⟩
   have hfr:Sl W7 W7.heap.size 2 (.slice none 0 0) (frN c).length (spc (frN c)):=by
    have hfn:frN c=[]:=by unfold frN;rw[if_neg (by omega)]
    rw[hfn];exact Sl.nil_
   have hrd:=Zje (w:=W7) HOK.out HN.out r1 hfr s3'';exact bodyPost_ret (v:=.tuple #[.agg #[.int .i64 c.semi,.int .i64 c.large,.int .i64 c.slots,.int .i64 c.limit,.bool false,.slice (some ⟨rg,0,none⟩) n n,.int .i64 0,.slice none 0 0,.slice none 0 0,.slice (some ⟨sg,0,none⟩) m m],.int .i64 0]) (by simp[results,Tryz.results23,go_sem,h0,h1,h2,h3,h4,h5,h6,h7,h8,h9]) rfl ⟨_,_,_,rfl,hrd,ho2,O7⟩
end Go.Proofs.YtknoncenblehkaaGreatDoor
