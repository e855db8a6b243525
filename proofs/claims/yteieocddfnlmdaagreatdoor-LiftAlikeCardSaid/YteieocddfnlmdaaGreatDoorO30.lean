/- The document's own answer for graphs: nodes in another order Chapter 16's example: its graphs, in plain words and in memo The law GraphTells: walked. -/
import Derived.Test.YteieocddfnlmdaaGreatDoorO29
import Derived.Laws.Small
set_option maxRecDepth 100000
set_option maxHeartbeats 32000000
set_option linter.unusedSimpArgs false
set_option linter.unusedVariables false
namespace Go.Proofs.YteieocddfnlmdaaGreatDoor
open Go.RowKit Go.Lib
theorem ZjA (w:World) (vn vr:Value): ∃V,((w.alloc (.cells #[vn,vr] 34)).alloc (.cells #[.slice none 0 0,.slice none 0 0] 34))=V∧Hid (Only nob w V∧Blk V w.heap.size 34 #[vn,vr]∧Blk V (w.heap.size+1) 34 #[.slice none 0 0,.slice none 0 0]):=
 ⟨_,rfl,ZZ ⟨((Only.refl nob w).alloc _).alloc _,(Blk.new w _ _).alloc _,Blk.newAt _ _ _ _ (by simp)⟩⟩
theorem ZaS {W:World} {b:Nat} {a0 a1:Value} (B1:Blk W b 34 #[a0,a1]) (x0 x1:Value): ∃U,((W.setCell ⟨b,0,none⟩ x0).setCell ⟨b,1,none⟩ x1)=U∧Only (isb b) W U∧Blk U b 34 #[x0,x1]:=
 ⟨_,rfl,(Zd _ _ _ _).trans (Zd _ _ _ _),by simpa using(B1.put 0 x0).put 1 x1⟩
theorem ZG (w:World) (vn vr:Value): ∃W,w.alloc (.cells #[vn,vr] 34)=W∧Hid (Only nob w W∧Blk W w.heap.size 34 #[vn,vr]):=⟨_,rfl,ZZ ⟨(Only.refl nob w).alloc _,Blk.new w _ _⟩⟩
theorem ZiA {o:List Int} {l:List Sp} (h:ZuK l) (hl:o.length≤1000000):ZuK (ZbS o l):=by
 intro v hv;obtain⟨x,hx,rfl⟩:=List.mem_map.1 hv;have hb:=h x hx;unfold ZbZ
 split
 · refine⟨by omega,?_⟩
   by_cases hm:x.2∈o
   · have h1:o.idxOf x.2<o.length:=List.idxOf_lt_length_iff.2 hm
     show -9223372036854775808≤plc o x.2∧plc o x.2≤9223372036854775807;rw[ZgD hm];omega
   · show -9223372036854775808≤plc o x.2∧plc o x.2≤9223372036854775807
     rw[ZhN hm];omega
 · exact hb
theorem Zt1 {g:Gr} {o:List Int} (h:GrFit g) (hl:o.length≤1000000):GrFit (rnG g o):=by
 unfold rnG
 split
 · rename_i h0
   have hp:=Zlw h (Zam.1 (ZjG.1 h0).ord).1;refine⟨fun d hd=>?_,fun d hd=>?_,fun d hd=>?_,ZiA h.rt hl⟩
   · obtain⟨x,hx,rfl⟩:=List.mem_map.1 hd;exact hp.kd x hx
   · obtain⟨x,hx,rfl⟩:=List.mem_map.1 hd;exact ZiA (hp.fs x hx) hl
   · obtain⟨x,hx,rfl⟩:=List.mem_map.1 hd;exact hp.rs x hx
 · exact⟨fun d hd=>by simp at hd,fun d hd=>by simp at hd,fun d hd=>by simp at hd,fun v hv=>by simp at hv⟩
theorem Zjn (n:Nat) (hn:n≤1000000) (w:World): ∃W,(Instr.makeSlice 35 (.int .i64 (n:Int)) (.int .i64 (n:Int))).run Tryz.prog w=.ok (.slice (some ⟨w.heap.size,0,none⟩) n n) W∧Only nob w W∧W.ownsRow w.heap.size 3 1 (.slice (some ⟨w.heap.size,0,none⟩) n n) n (i64s (List.replicate n 0)):=by
 obtain⟨i0,hi0,hz0,hz1,hz2⟩:=info_parts ZaM;obtain⟨W,h1,h2,h3⟩:=run_make_full (P:=Tryz.prog) w w.heap.size 35 3 i0 _ 1 Tryz.underlying35 hi0 hz0 hz1 .i64 .i64 n (by rw[hz2];omega) (by unfold maxLen;omega) (Yj _);refine⟨W,h1,⟨h3.os,h3.tape,h3.output,h3.size,fun k hk _=>h3.block k hk (by simp)⟩,?_⟩
 have e:(madeCells (Value.int .i64 0).cells (n * 1)).toList=i64s (List.replicate n 0):=by
  show(madeCells #[.int .i64 0] (n * 1)).toList=_;rw[toList_madeCells_one,Nat.mul_one];simp[i64s]
 rw[e] at h2;exact h2
theorem Zd6 (l:List Int) (k:Nat) (y:Int):(i64s l).set k (.int .i64 y)=i64s (l.set k y):=by simp[i64s,List.map_set]
end Go.Proofs.YteieocddfnlmdaaGreatDoor
