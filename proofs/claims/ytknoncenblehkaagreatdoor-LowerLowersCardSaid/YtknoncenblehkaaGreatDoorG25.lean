/- A heap that is looked at: its nine rules, one behind the oth -/
import Derived.Test.YtknoncenblehkaaGreatDoorG23
import Derived.Test.YtknoncenblehkaaGreatDoorG24
import Derived.Carry
import Derived.Laws.EntriesVeiled
set_option maxRecDepth 100000
set_option maxHeartbeats 32000000
set_option linter.unusedSimpArgs false
set_option linter.unusedVariables false
namespace Go.Proofs.YtknoncenblehkaaGreatDoor
open Go.RowKit
noncomputable def Zjv (s:St):Nat→Bool
 |0=>decide s.cf.ok
 |1=>decide ((s.ws.length:Int)=Zk s.cf)
 |2=>r3 s
 |3=>decide (wkE s.steps=0)
 |4=>r5 s
 |5=>r6 s
 |6=>r7 s
 |7=>r8 s
 |_=>r9 s
theorem Zjr {s:St} {k:Nat} (hk:k<9) (h: ∀j,j<k→Zjv s j=true) (hb:Zjv s k=false):ZbW s=(k:Nat)+1:=by
 have g: ∀j,j<k→Zjv s j=true:=h;have d: ∀{p:Prop} [Decidable p],decide p=true→p:=fun h=>of_decide_eq_true h;have dn: ∀{p:Prop} [Decidable p],decide p=false→ ¬p:=fun h=>of_decide_eq_false h
 match k,hk with
 |0,_=>exact ZoF (dn hb)
 |1,_=>exact ZoI (d (g 0 (by omega))) (dn hb)
 |2,_=>exact Zo8 (d (g 0 (by omega))) (d (g 1 (by omega))) hb
 |3,_=>exact Zop (d (g 0 (by omega))) (d (g 1 (by omega))) (g 2 (by omega)) (dn hb)
 |4,_=>exact Zpk (d (g 0 (by omega))) (d (g 1 (by omega))) (g 2 (by omega)) (d (g 3 (by omega))) hb
 |5,_=>exact ZoR (d (g 0 (by omega))) (d (g 1 (by omega))) (g 2 (by omega)) (d (g 3 (by omega))) (g 4 (by omega)) hb
 |6,_=>exact ZoX (d (g 0 (by omega))) (d (g 1 (by omega))) (g 2 (by omega)) (d (g 3 (by omega))) (g 4 (by omega)) (g 5 (by omega)) hb
 |7,_=>exact Zo3 (d (g 0 (by omega))) (d (g 1 (by omega))) (g 2 (by omega)) (d (g 3 (by omega))) (g 4 (by omega)) (g 5 (by omega)) (g 6 (by omega)) hb
 |8,_=>exact Zov (d (g 0 (by omega))) (d (g 1 (by omega))) (g 2 (by omega)) (d (g 3 (by omega))) (g 4 (by omega)) (g 5 (by omega)) (g 6 (by omega)) (g 7 (by omega)) hb
theorem Zm2 {s:St} (h: ∀j,j<9→Zjv s j=true):ZbW s=0:=
 have d: ∀{p:Prop} [Decidable p],decide p=true→p:=fun h=>of_decide_eq_true h
 Zh2.2 ⟨d (h 0 (by omega)),d (h 1 (by omega)),h 2 (by omega),d (h 3 (by omega)),h 4 (by omega),h 5 (by omega),h 6 (by omega),h 7 (by omega),h 8 (by omega)⟩
def fid:Nat→FuncId
 |0=>102
 |1=>103
 |2=>104
 |3=>105
 |4=>106
 |5=>107
 |6=>108
 |7=>109
 |_=>110
def fv (g k:Nat):Value:=.func (.func (fid k)) #[.pointer (some ⟨g,0,none⟩)] #[]
theorem ZiB (k:Nat) (hk:k<9): ∀args w,(callFunc (fid k) args).run Tryz.prog w=.ok (.enter (fid k) args) w:=by
 match k,hk with
 |0,_=>exact enters_of Tryz.func102 (by kernel_rfl) rfl
 |1,_=>exact enters_of Tryz.func103 (by kernel_rfl) rfl
 |2,_=>exact enters_of Tryz.func104 (by kernel_rfl) rfl
 |3,_=>exact enters_of Tryz.func105 (by kernel_rfl) rfl
 |4,_=>exact enters_of Tryz.func106 (by kernel_rfl) rfl
 |5,_=>exact enters_of Tryz.func107 (by kernel_rfl) rfl
 |6,_=>exact enters_of Tryz.func108 (by kernel_rfl) rfl
 |7,_=>exact enters_of Tryz.func109 (by kernel_rfl) rfl
 |8,_=>exact enters_of Tryz.func110 (by kernel_rfl) rfl
def fvs (g:Nat):Array Value:=#[fv g 0,fv g 1,fv g 2,fv g 3,fv g 4,fv g 5,fv g 6,fv g 7,fv g 8]
theorem Zp0 (g k:Nat) (hk:k<9): ∀w:World,(Instr.index 126 (.agg (fvs g)) (.int .i64 (k:Nat))).run Tryz.prog w=.ok (fv g k) w:=by
 match k,hk with
 |0,_=>exact fun w=>by kernel_rfl
 |1,_=>exact fun w=>by kernel_rfl
 |2,_=>exact fun w=>by kernel_rfl
 |3,_=>exact fun w=>by kernel_rfl
 |4,_=>exact fun w=>by kernel_rfl
 |5,_=>exact fun w=>by kernel_rfl
 |6,_=>exact fun w=>by kernel_rfl
 |7,_=>exact fun w=>by kernel_rfl
 |8,_=>exact fun w=>by kernel_rfl
def lkL (s:St):Nat→List Int
 |0=>[]
 |1=>[]
 |2=>[]
 |3=>[]
 |_=>s.smalls
def lkK (s:St):Nat→List Int
 |0=>[]
 |1=>[]
 |2=>[]
 |3=>[]
 |4=>[]
 |5=>s.smalls
 |_=>s.objs
def lkN (s:St):Nat→Nat
 |0=>0
 |1=>0
 |2=>0
 |3=>0
 |4=>0
 |5=>s.smalls.length
 |_=>s.smalls.length+s.tb.length
def two (g mp:Nat):Nat→Prop:=fun i=>i=g∨i=mp
theorem Zi0 {g mp:Nat} {w w':World} (h:Only (isb g) w w'):Only (two g mp) w w':=h.mono fun _ _ e=>.inl e
theorem ZdU {g mp:Nat} {w w':World} (h:Only (isb mp) w w'):Only (two g mp) w w':=h.mono fun _ _ e=>.inr e
theorem ZbJ {g mp:Nat} {w w':World} (h:Only nob w w'):Only (two g mp) w w':=h.mono fun _ _ e=>e.elim
theorem ZkV {w:World} {base g ba ga mp:Nat} {s:St} {vw vt vf vs vm:Value} (k:Nat) (hk:k<9) (h:Lk w base g ba ga mp (lkN s k) s vw vt vf vs vm (lkL s k) (lkK s k)) (hok:StOk s) (hb: ∀j,j<k→Zjv s j=true):
 Calls Tryz.prog (fid k) #[.pointer (some ⟨g,0,none⟩)] w fun e w'=>e=.returned (.bool (Zjv s k))∧(Zjv s k=true→ ∃vm',Lk w' base g ba ga mp (lkN s (k+1)) s vw vt vf vs vm' (lkL s (k+1)) (lkK s (k+1)))∧Only (two g mp) w w':=by
 have same: ∀{w':World},lkN s (k+1)=lkN s k→lkL s (k+1)=lkL s k→lkK s (k+1)=lkK s k→Only nob w w'→(Zjv s k=true→ ∃vm',Lk w' base g ba ga mp (lkN s (k+1)) s vw vt vf vs vm' (lkL s (k+1)) (lkK s (k+1))):=fun e1 e2 e3 o _=>⟨vm,by rw[e1,e2,e3];exact h.keep o⟩
 have hc:k=0∨k=1∨k=2∨k=3∨k=4∨k=5∨k=6∨k=7∨k=8:=by omega
 rcases hc with rfl|rfl|rfl|rfl|rfl|rfl|rfl|rfl|rfl
 · exact(ZiA h.box hok.cf).mono fun e w' ⟨h1,o⟩=>⟨h1,same rfl rfl rfl o,ZbJ o⟩
 · obtain⟨Aw,cw,rfl, -, -⟩:=h.rd.words.form
   exact(Zkp h.box hok.cf).mono fun e w' ⟨h1,o⟩=>⟨h1,same rfl rfl rfl o,ZbJ o⟩
 · exact(Znh h.box hok.cf hok.top).mono fun e w' ⟨h1,o⟩=>⟨h1,same rfl rfl rfl o,ZbJ o⟩
 · have h':Lk w base g ba ga mp 0 s vw vt vf vs vm [] []:=h
   refine(Zil h' hok.cf).mono ?_;rintro e w' ⟨h1,vm',h2,o⟩;exact⟨h1,fun _=>⟨vm',h2⟩,Zi0 o⟩
 · have h':Lk w base g ba ga mp 0 s vw vt vf vs vm s.smalls []:=h
   refine(ZjB h' hok (of_decide_eq_true (hb 3 (by omega)))).mono ?_;rintro e w' ⟨h1,h2,o⟩;exact⟨h1,fun hq=>⟨vm,h2 hq⟩,ZdU o⟩
 · have h':Lk w base g ba ga mp s.smalls.length s vw vt vf vs vm s.smalls s.smalls:=h
   refine(Zkc h' (by have:=ZbH s;omega) hok).mono ?_;rintro e w' ⟨h1,h2,o⟩;exact⟨h1,fun hq=>⟨vm,h2 hq⟩,ZdU o⟩
 · exact(Zjd h.box h.rd h.le hok).mono fun e w' ⟨h1,o⟩=>⟨h1,same rfl rfl rfl o,ZbJ o⟩
 · have h':Lk w base g ba ga mp (s.smalls.length+s.tb.length) s vw vt vf vs vm s.smalls s.objs:=h
   exact(Zir h' hok fun p hp=>Zlc (of_decide_eq_true (hb 3 (by omega))) (hb 5 (by omega)) hp).mono fun e w' ⟨h1,o⟩=>⟨h1,same rfl rfl rfl o,ZbJ o⟩
 · have h':Lk w base g ba ga mp (s.smalls.length+s.tb.length) s vw vt vf vs vm s.smalls s.objs:=h
   exact(Zgc h' hok).mono fun e w' ⟨h1,o⟩=>⟨h1,same rfl rfl rfl o,ZbJ o⟩
theorem ZJ {w:World} {b:Nat} {t:TypeId} {x0 x1 x2 x3 x4 x5 x6 x7 x8:Value} (h:Blk w b t #[x0,x1,x2,x3,x4,x5,x6,x7,x8]):
 w.cell? ⟨b,0,none⟩=some x0∧w.cell? ⟨b,1,none⟩=some x1∧w.cell? ⟨b,2,none⟩=some x2∧w.cell? ⟨b,3,none⟩=some x3∧w.cell? ⟨b,4,none⟩=some x4∧w.cell? ⟨b,5,none⟩=some x5∧w.cell? ⟨b,6,none⟩=some x6∧w.cell? ⟨b,7,none⟩=some x7∧w.cell? ⟨b,8,none⟩=some x8:=
 ⟨h.cell 0,h.cell 1,h.cell 2,h.cell 3,h.cell 4,h.cell 5,h.cell 6,h.cell 7,h.cell 8⟩
theorem ZbE {w:World} {b:Nat} {t:TypeId} {cs:Array Value} (h:Blk w b t cs):
 w.frozen? ⟨b,0,none⟩=false∧w.frozen? ⟨b,1,none⟩=false∧w.frozen? ⟨b,2,none⟩=false∧w.frozen? ⟨b,3,none⟩=false∧w.frozen? ⟨b,4,none⟩=false∧w.frozen? ⟨b,5,none⟩=false∧w.frozen? ⟨b,6,none⟩=false∧w.frozen? ⟨b,7,none⟩=false∧w.frozen? ⟨b,8,none⟩=false:=
 ⟨h.free 0,h.free 1,h.free 2,h.free 3,h.free 4,h.free 5,h.free 6,h.free 7,h.free 8⟩
theorem Zpw {w W:World} {b:Nat} {t:TypeId} (o:Only nob w W) (hb:w.heap.size≤b) {z0 z1 z2 z3 z4 z5 z6 z7 z8:Value} (B:Blk W b t #[z0,z1,z2,z3,z4,z5,z6,z7,z8]) (x0 x1 x2 x3 x4 x5 x6 x7 x8:Value):
 ∃W4,(((((((((W.setCell ⟨b,0,none⟩ x0).setCell ⟨b,1,none⟩ x1).setCell ⟨b,2,none⟩ x2).setCell ⟨b,3,none⟩ x3).setCell ⟨b,4,none⟩ x4).setCell ⟨b,5,none⟩ x5).setCell ⟨b,6,none⟩ x6).setCell ⟨b,7,none⟩ x7).setCell ⟨b,8,none⟩ x8)=W4∧Only nob w W4∧Blk W4 b t #[x0,x1,x2,x3,x4,x5,x6,x7,x8]:=by
 refine⟨_,rfl,Zi (Zi (Zi (Zi (Zi (Zi (Zi (Zi (Zi o hb _) hb _) hb _) hb _) hb _) hb _) hb _) hb _) hb _,?_⟩;simpa using((((((((B.put 0 x0).put 1 x1).put 2 x2).put 3 x3).put 4 x4).put 5 x5).put 6 x6).put 7 x7).put 8 x8
theorem ZlX (w:World): ∃W,w.alloc (.cells #[.nilFunc,.nilFunc,.nilFunc,.nilFunc,.nilFunc,.nilFunc,.nilFunc,.nilFunc,.nilFunc] 126)=W∧Hid (Only nob w W∧Blk W w.heap.size 126 #[.nilFunc,.nilFunc,.nilFunc,.nilFunc,.nilFunc,.nilFunc,.nilFunc,.nilFunc,.nilFunc]):=
 ⟨_,rfl,ZZ ⟨(Only.refl nob w).alloc _,Blk.new w _ _⟩⟩
theorem Zo2 (g:Nat) (w:World):Calls Tryz.prog 71 #[.pointer (some ⟨g,0,none⟩)] w fun e w'=>e=.returned (.agg (fvs g))∧Only nob w w':=by
 obtain⟨W,hW,HB⟩:=ZlX w;have HW:=ZZ hW;clear hW
 go_enter Tryz.func71,Tryz.ntmps71
 go_upto_region 1 with fail
 rw[HW.out];obtain⟨c0,c1,c2,c3,c4,c5,c6,c7,c8⟩:=ZJ HB.out.2;obtain⟨d0,d1,d2,d3,d4,d5,d6,d7,d8⟩:=ZbE HB.out.2;go_wp2;clear c0 c1 c2 c3 c4 c5 c6 c7 c8 d0 d1 d2 d3 d4 d5 d6 d7 d8;obtain⟨W6,hW6,O6,B6⟩:=Zpw HB.out.1 (Yi _) HB.out.2 (.func (.func 102) #[.pointer (some ⟨g,0,none⟩)] #[]) (.func (.func 103) #[.pointer (some ⟨g,0,none⟩)] #[]) (.func (.func 104) #[.pointer (some ⟨g,0,none⟩)] #[]) (.func (.func 105) #[.pointer (some ⟨g,0,none⟩)] #[]) (.func (.func 106) #[.pointer (some ⟨g,0,none⟩)] #[]) (.func (.func 107) #[.pointer (some ⟨g,0,none⟩)] #[]) (.func (.func 108) #[.pointer (some ⟨g,0,none⟩)] #[]) (.func (.func 109) #[.pointer (some ⟨g,0,none⟩)] #[]) (.func (.func 110) #[.pointer (some ⟨g,0,none⟩)] #[])
 with_reducible rw[hW6]
 obtain⟨c0,c1,c2,c3,c4,c5,c6,c7,c8⟩:=ZJ B6;exact bodyPost_ret (v:=.agg (fvs g)) (by simp[results,Tryz.results71,go_sem,c0,c1,c2,c3,c4,c5,c6,c7,c8,fvs,fv,fid]) rfl ⟨rfl,O6⟩
theorem ZlI (w:World) (s:St) (vw vt vf vs:Value): ∃W,(w.alloc (.map #[] 0)).alloc (.cells #[.int .i64 s.cf.semi,.int .i64 s.cf.large,.int .i64 s.cf.slots,.int .i64 s.cf.limit,.bool s.sec,vw,.int .i64 s.top,vt,vf,vs,.pointer none,.slice none 0 0,.map (some w.heap.size)] 123)=W∧
 Hid (Only nob w W∧Blk W (w.heap.size+1) 123 #[.int .i64 s.cf.semi,.int .i64 s.cf.large,.int .i64 s.cf.slots,.int .i64 s.cf.limit,.bool s.sec,vw,.int .i64 s.top,vt,vf,vs,.pointer none,.slice none 0 0,.map (some w.heap.size)]∧Zds W w.heap.size 0 s.ws []):=
 ⟨_,rfl,ZZ ⟨((Only.refl nob w).alloc _).alloc _,Blk.newAt _ _ _ _ (by simp),(Zds.new w s.ws).keep ((Only.refl nob _).alloc _) id⟩⟩
theorem Zmp (s:St) (vw vt vf vs:Value) (B:Nat) (w:World) (h:Rd w B s vw vt vf vs) (hB:B≤w.heap.size) (hok:StOk s) (hpar:Par w):
 Calls Tryz.prog 43 #[.agg #[.int .i64 s.cf.semi,.int .i64 s.cf.large,.int .i64 s.cf.slots,.int .i64 s.cf.limit,.bool s.sec,vw,.int .i64 s.top,vt,vf,vs]] w fun e w'=>
  ∃g ba ga mp n vm,e=.returned (.tuple #[.pointer (some ⟨g,0,none⟩),.int .i64 (ZbW s)])∧(ZbW s=0→Lk w' w.heap.size g ba ga mp n s vw vt vf vs vm s.smalls s.objs)∧Only nob w w':=by
 have HOK:=ZZ hok;have HPAR:=ZZ hpar;have HRD:=ZZ (h.more hB);obtain⟨At,ct,rfl,hat,hct⟩:=h.tab.form;obtain⟨Aw,cw,rfl,haw,hcw⟩:=h.words.form;obtain⟨Al,cl,rfl,hal,hcl⟩:=h.slots.form;obtain⟨Af,cf,rfl,haf,hcf⟩:=h.free.form;obtain⟨W,hW,HB⟩:=Za3 w s (.slice Aw s.ws.length cw) (.slice At s.tb.length ct) (.slice Af s.fr.length cf) (.slice Al s.sl.length cl);have HW:=ZZ hW;have hmm:=@run_makeMap Tryz.prog;obtain⟨c0,c1,c2,c3,c4,c5,c6,c7,c8,c9⟩:=HB.out.2.2;clear hW h hok hpar
 go_enter Tryz.func43,Tryz.ntmps43
 go_upto_region 1 with fail
 rw[HW.out]
 go_upto_region 2 with fail
 obtain⟨W2,hW2,HB2⟩:=ZlI W s (.slice Aw s.ws.length cw) (.slice At s.tb.length ct) (.slice Af s.fr.length cf) (.slice Al s.sl.length cl);have HW2:=ZZ hW2;rw[HW2.out];have O2:=ZZ (HB.out.1.trans HB2.out.1);have k5:=HB2.out.1.keeps c5;have HOF:=ZZ (ZoU (.slice Aw s.ws.length cw) s.ws W2 ((HRD.out.words.below (O2.out.below (Yi _) fun _ h=>h.elim)).more O2.out.size) HOK.out.few.1 HOK.out.ws)
 obtain⟨mp,hmp⟩: ∃mp,mp=W.heap.size:=⟨_,rfl⟩
 have hgl:W.heap.size+1<W2.heap.size:=HB2.out.2.1.lt;have hwl:w.heap.size≤W.heap.size:=HB.out.1.size
 obtain⟨g,hg⟩: ∃g,g=W.heap.size+1:=⟨_,rfl⟩
 rw[← hg, ← hmp] at HB2;rw[← hg]
 have hbg:w.heap.size≤g:=by omega
 have hbm:w.heap.size≤mp:=by omega
 have hgW:g<W2.heap.size:=by omega
 clear hW2 hg hmp hgl hwl c0 c1 c2 c3 c4 c5 c6 c7 c8 c9
 go_wp2_with fail
 go_at_call 70;refine HOF.out.mono ?_;rintro e w3 ⟨ba,ga,rfl,hba,hga,hAr,o⟩;have B3:=HB2.out.2.1.keep o id;have b10:w3.cell? ⟨g,10,none⟩=some (.pointer none):=B3.cell 10;have f10:=B3.free 10;have oS:Only (isb g) w3 (w3.setCell ⟨g,10,none⟩ (.pointer (some ⟨ba,0,none⟩))):=Zc w3 g 10 _;have O4:=ZZ (show Only nob w (w3.setCell ⟨g,10,none⟩ (.pointer (some ⟨ba,0,none⟩))) from(O2.out.trans o).setCell (p:=⟨g,10,none⟩) (fun hlt=>absurd hlt (Nat.not_lt_of_le hbg)) _);have hbl:Below w.heap.size w (w3.setCell ⟨g,10,none⟩ (.pointer (some ⟨ba,0,none⟩))):=O4.out.whole
 have K4:=ZZ (show Lk (w3.setCell ⟨g,10,none⟩ (.pointer (some ⟨ba,0,none⟩))) w.heap.size g ba ga mp 0 s (.slice Aw s.ws.length cw) (.slice At s.tb.length ct) (.slice Af s.fr.length cf) (.slice Al s.sl.length cl) (.slice none 0 0) [] [] from by
  refine⟨?_,hAr.keep oS (by unfold isb;omega) (by unfold isb;omega),World.ownsRow_nil _ _ _ _,(HB2.out.2.2.keep o id).keep oS (HB2.out.2.2.ne_blk HB2.out.2.1).symm,HRD.out.below hbl,HPAR.out.old O4.out,HPAR.out.lt,O4.out.size,hbg,by have:=O2.out.size;omega,by have:=O2.out.size;omega,hbm⟩
  have:=B3.put 10 (.pointer (some ⟨ba,0,none⟩))
  simpa using this)
 clear B3 oS hbl hAr o hba hga k5
 go_upto_region 3 with fail
 obtain⟨W4,hW4⟩: ∃W4,W4=w3.setCell ⟨g,10,none⟩ (.pointer (some ⟨ba,0,none⟩)):=⟨_,rfl⟩
 rw[← hW4] at O4 K4;rw[← hW4];clear hW4 b10 f10 hgW
 go_wp2_with fail
 go_at_call 71;refine(Zo2 g W4).mono ?_;rintro e w5 ⟨rfl,o⟩;have O5:=ZZ (O4.out.trans o);have K5:=ZZ (K4.out.keep o)
 obtain⟨F,hF⟩: ∃F,F=fvs g:=⟨_,rfl⟩
 have HF:=ZZ hF;rw[← hF];clear o hF hmm
 go_wp2_with fail
 go_loopw [5,6,22] (fun _ _ i wr=> ∃k:Nat,k≤9∧i=.int .i64 k∧Hid (∃vm,Lk wr w.heap.size g ba ga mp (lkN s k) s (.slice Aw s.ws.length cw) (.slice At s.tb.length ct) (.slice Af s.fr.length cf) (.slice Al s.sl.length cl) vm (lkL s k) (lkK s k))∧Hid (Only (two g mp) w5 wr)∧Hid (∀j,j<k→Zjv s j=true)) (fun _ _ i _=>9 - (intOf i).toNat)
 case atStart=>exact⟨0,by omega,rfl,ZZ ⟨_,K5.out⟩,ZZ (Only.refl _ _),ZZ fun j hj=>absurd hj (Nat.not_lt_zero j)⟩
 case round=>
  obtain⟨k,hk,rfl,HLK,HO,HJ⟩:=hrel;have HQ:=ZZ (show Only nob w wr from O5.out.andThen HO.out fun i hi e=>by rcases e with e|e <;> omega);by_cases hlt:k<9
  · obtain⟨vm,hlk⟩:=HLK.out
    have HR:=ZZ (ZkV k hlt hlk HOK.out HJ.out);have hen:=ZiB k hlt;have hix:=Zp0 g k hlt;rw[← HF.out] at hix;unfold fv at hix
    obtain⟨f,hf⟩: ∃f,f=fid k:=⟨_,rfl⟩
    obtain⟨q,hq⟩: ∃q,q=Zjv s k:=⟨_,rfl⟩
    have HQQ:=ZZ hq;have HCF:=ZZ (fun hb=>Zjr hlt HJ.out (s:=s) hb);rw[← hf] at hen hix HR;rw[← hq] at HR HCF;clear hlk hf hq
    go_wp2_with fail
    refine HR.out.mono ?_;rintro e w6 ⟨rfl,hnx,o⟩;have HX:=ZZ hnx;have O6:=ZZ (HO.out.trans o);have HQ6:=ZZ (show Only nob w w6 from O5.out.andThen (HO.out.trans o) fun i hi e=>by rcases e with e|e <;> omega);clear hnx o hen hix
    cases q with
    |false=>
     have HC:=ZZ (HCF.out rfl);go_wp2;go_ret2;exact⟨g,ba,ga,mp,0,.slice none 0 0,(by rw[HC.out];rfl),(fun h=>by rw[HC.out] at h;omega),HQ6.out⟩
    |true=>
     have HJ2:=ZZ (show ∀j,j<k+1→Zjv s j=true from fun j hj=>by
      rcases Yp j k with h'|h'
      · exact HJ.out j h'
      · obtain rfl:j=k:=by omega
        exact HQQ.out.symm)
     have HX2:=ZZ (HX.out rfl);clear HX HR HCF;go_wp2
     go_roundw
     case rel=>exact⟨k+1,by omega,by go_num,HX2,O6,HJ2⟩
     case measure=>simp[intOf];omega
  · obtain rfl:k=9:=by omega
    obtain⟨vm,hlk⟩:=HLK.out;have HLL:=ZZ hlk;have HCA:=ZZ (Zm2 HJ.out);clear hlk;go_wp2;go_ret2;exact⟨g,ba,ga,mp,_,vm,(by rw[HCA.out];rfl),fun _=>HLL.out,HQ.out⟩
end Go.Proofs.YtknoncenblehkaaGreatDoor
