/- The document's own answer for graphs: nodes in another order Chapter 16's example: its graphs, in plain words and in memo The law GraphTells: walked. -/
import Derived.Test.YtknoncenblehkaaGreatDoorF27
import Derived.Laws.Small
set_option maxRecDepth 100000
set_option maxHeartbeats 32000000
set_option linter.unusedSimpArgs false
set_option linter.unusedVariables false
namespace Go.Proofs.YtknoncenblehkaaGreatDoor
open Go.RowKit Go.Lib
theorem ZiU (w:World) (vn vr:Value): ∃V,((w.alloc (.cells #[vn,vr] 27)).alloc (.cells #[.slice none 0 0,.slice none 0 0] 27))=V∧Hid (Only nob w V∧Blk V w.heap.size 27 #[vn,vr]∧Blk V (w.heap.size+1) 27 #[.slice none 0 0,.slice none 0 0]):=
 ⟨_,rfl,ZZ ⟨((Only.refl nob w).alloc _).alloc _,(Blk.new w _ _).alloc _,Blk.newAt _ _ _ _ (by simp)⟩⟩
theorem Zbx {W:World} {b:Nat} {a0 a1:Value} (B1:Blk W b 27 #[a0,a1]) (x0 x1:Value): ∃U,((W.setCell ⟨b,0,none⟩ x0).setCell ⟨b,1,none⟩ x1)=U∧Only (isb b) W U∧Blk U b 27 #[x0,x1]:=
 ⟨_,rfl,(Zc _ _ _ _).trans (Zc _ _ _ _),by simpa using(B1.put 0 x0).put 1 x1⟩
structure Nds (w:World) (base B:Nat) (l:List Nd) (js:List (Value×Value)):Prop where
 len:js.length=l.length
 each: ∀(i:Nat) d h,l[i]? =some d→js[i]? =some h→w.ownsRow base 59 2 h.1 d.fs.length (spc d.fs)∧Sl w B 1 h.2 d.rs.length (u64s d.rs)
theorem Nds.keep {F:Nat→Prop} {w w':World} {base B:Nat} {l:List Nd} {js:List (Value×Value)} (H:Nds w base B l js) (o:Only F w w') (hB:B≤w.heap.size) (h1: ∀k,F k→B≤k) (h2: ∀s n v x,w.ownsRow base 59 s v n x→ ∀k,v.ownBlock=some k→ ¬F k):Nds w' base B l js:=
 ⟨H.len,fun i d h hd hh=>⟨Za (H.each i d h hd hh).1 o (h2 _ _ _ _ (H.each i d h hd hh).1),(H.each i d h hd hh).2.only o hB h1⟩⟩
theorem ZkW (w:World) (cs:Array Value) (l:List Int) (h:cs.toList=i64s l) (hn:cs.size=l.length) (hm:l.length≤1000): ∃W,w.alloc (.cells cs 3)=W∧Only nob w W∧Sl W W.heap.size 1 (.slice (some ⟨w.heap.size,0,none⟩) l.length l.length) l.length (i64s l):=by
 refine⟨_,rfl,(Only.refl nob w).alloc _,?_⟩
 have:=Sl.of_blk (size:=1) (n:=l.length) (c:=l.length) (Blk.new w 3 cs) (by omega) (Yj _) (by unfold maxLen;omega)
 rw[h] at this;exact this
theorem Zbj (w:World) (vn vr:Value): ∃W,w.alloc (.cells #[vn,vr] 27)=W∧Hid (Only nob w W∧Blk W w.heap.size 27 #[vn,vr]):=⟨_,rfl,ZZ ⟨(Only.refl nob w).alloc _,Blk.new w _ _⟩⟩
def Zt5 (g:Gr) (w:World) (e:Ending) (w':World):Prop:= ∃b:Bool,e=.returned (.bool b)∧(b=false→g.nd.length≤1000∧g.rt.length≤1000)∧Only nob w w'
def Zsp (f:FuncId):Prop:= ∀(g:Gr) (vn vr:Value) (hs:List (Value×Value)) (B:Nat) (w:World),RdG w B g vn vr hs→B≤w.heap.size→
 Calls Tryz.prog f #[.agg #[vn,vr]] w (Zt5 g w)
theorem Zti (n:Nat): ∃a:Nat,a≤5000∧(if(5000:Int)<(n:Int) then(5000:Int) else(n:Int))=(a:Int):=by
 by_cases h:(5000:Int)<n
 · exact⟨5000,Yj _,by rw[if_pos h];rfl⟩
 · exact⟨n,by omega,by rw[if_neg h]⟩
theorem ZiO:Zsp 6:=by
 intro g vn vr hs B w h hB;have HR:=ZZ h;obtain⟨A,c,rfl,hac,hcm⟩:=h.nodes.form;obtain⟨Ar,cr,rfl,harc,hcrm⟩:=h.roots.form;unfold maxLen at hcm hcrm;obtain⟨W,hW,HB⟩:=ZmP w (.slice A g.nd.length c) (.slice Ar g.rt.length cr);have HW:=ZZ hW
 obtain⟨p,hp⟩: ∃p,p=w.heap.size:=⟨_,rfl⟩
 have HP:=ZZ hp;rw[← hp] at HB;have c0:=HB.out.2.2.1;have c1:=HB.out.2.2.2;clear hW hp h;by_cases h60:(60:Int)<(g.nd.length:Int)
 · go_enter Tryz.func6,Tryz.ntmps6
   go_upto_region 1 with fail
   rw[HW.out, ← HP.out];go_wp2;go_ret;exact⟨_,Zb rfl,fun h=>(by cases h),HB.out.1⟩
 · by_cases h100:(100:Int)<(g.rt.length:Int)
   · go_enter Tryz.func6,Tryz.ntmps6
     go_upto_region 1 with fail
     rw[HW.out, ← HP.out];go_wp2;go_ret;exact⟨_,Zb rfl,fun h=>(by cases h),HB.out.1⟩
   · have HS:=ZZ (show g.nd.length≤1000∧g.rt.length≤1000 by omega)
     have hl60:g.nd.length≤1000:=HS.out.1
     go_enter Tryz.func6,Tryz.ntmps6
     go_upto_region 1 with fail
     rw[HW.out, ← HP.out]
     go_wp2_with fail
     clear h60 h100 c0 c1
     go_loopw [3,4] (fun a i wr=> ∃k m:Nat,k≤g.nd.length∧m≤k * 10000∧i=.int .i64 k∧a=.int .i64 m∧Hid (Only nob W wr)) (fun _ i _=>g.nd.length - (intOf i).toNat)
     case atStart=>exact⟨0,0,Yu _,Yu _,rfl,rfl,ZZ (Only.refl _ _)⟩
     case round=>
      obtain⟨k,m,hk,hm,rfl,rfl,HO⟩:=hrel;have c0:=HO.out.keeps HB.out.2.2.1;by_cases hlt:k<g.nd.length
      · obtain⟨d,hd⟩: ∃x,g.nd[k]? =some x:=⟨_,Ya hlt⟩
        obtain⟨bb,o,fv,rv,hA,hbb,hh',g0,g1,g2,hnd⟩:=HR.out.at_ ((HB.out.1.trans HO.out).below hB fun _ h=>h.elim) hd;obtain⟨Af,cf,hfv,hafc,hcfm⟩:=hnd.fields.form;obtain⟨Arw,crw,hrv,harw,hcrw⟩:=hnd.raws.form;simp only at hfv hrv;subst hfv hrv
        obtain⟨rfl, -⟩:A=some ⟨bb,o,none⟩∧True:=by simpa using hA
        obtain⟨a1,ha1,ea1⟩:=Zti d.fs.length;obtain⟨a2,ha2,ea2⟩:=Zti d.rs.length;clear hd hh' hnd hA g0 hafc harw;go_wp2
        go_quiet (fail)
        go_wp2
        go_roundw
        case rel=>exact⟨k+1,m+(a1+a2),by omega,by omega,by go_num,by go_num,ZZ (HO.out.drewN _)⟩
        case measure=>simp[intOf];omega
      · obtain rfl:k=g.nd.length:=by omega
        go_wp2;go_ret;exact⟨_,Zb rfl,fun _=>HS.out,HB.out.1.trans HO.out⟩
theorem ZgD {f:FuncId} {args:Array Value} {w:World} (h:Calls Tryz.prog f args w fun e w'=>e=.returned (.bool true)∧Only nob w w'):Calls Tryz.prog f args w fun e w'=>e=.returned (.bool true)∧Below w.heap.size w w':=
 h.mono fun e w' hh=>⟨hh.1,hh.2.whole⟩
theorem ZhW {o:List Int} {l:List Sp} (h:ZpY l) (hl:o.length≤1000000):ZpY (ZO o l):=by
 intro v hv;obtain⟨x,hx,rfl⟩:=List.mem_map.1 hv;have hb:=h x hx;unfold Z9
 split
 · refine⟨by omega,?_⟩
   by_cases hm:x.2∈o
   · have h1:o.idxOf x.2<o.length:=List.idxOf_lt_length_iff.2 hm
     show -9223372036854775808≤plc o x.2∧plc o x.2≤9223372036854775807;rw[ZfV hm];omega
   · show -9223372036854775808≤plc o x.2∧plc o x.2≤9223372036854775807
     rw[Zg3 hm];omega
 · exact hb
theorem ZqY {g:Gr} {o:List Int} (h:GrFit g) (hl:o.length≤1000000):GrFit (rnG g o):=by
 unfold rnG
 split
 · rename_i h0
   have hp:=Zkc h (Zr.1 (Zbr.1 h0).ord).1;refine⟨fun d hd=>?_,fun d hd=>?_,fun d hd=>?_,ZhW h.rt hl⟩
   · obtain⟨x,hx,rfl⟩:=List.mem_map.1 hd;exact hp.kd x hx
   · obtain⟨x,hx,rfl⟩:=List.mem_map.1 hd;exact ZhW (hp.fs x hx) hl
   · obtain⟨x,hx,rfl⟩:=List.mem_map.1 hd;exact hp.rs x hx
 · exact⟨fun d hd=>by simp at hd,fun d hd=>by simp at hd,fun d hd=>by simp at hd,fun v hv=>by simp at hv⟩
theorem Zjh (n:Nat) (hn:n≤1000000) (w:World): ∃W,(Instr.makeSlice 38 (.int .i64 (n:Int)) (.int .i64 (n:Int))).run Tryz.prog w=.ok (.slice (some ⟨w.heap.size,0,none⟩) n n) W∧Only nob w W∧W.ownsRow w.heap.size 3 1 (.slice (some ⟨w.heap.size,0,none⟩) n n) n (i64s (List.replicate n 0)):=by
 obtain⟨i0,hi0,hz0,hz1,hz2⟩:=info_parts Zap;obtain⟨W,h1,h2,h3⟩:=run_make_full (P:=Tryz.prog) w w.heap.size 38 3 i0 _ 1 Tryz.underlying38 hi0 hz0 hz1 .i64 .i64 n (by rw[hz2];omega) (by unfold maxLen;omega) (Yj _);refine⟨W,h1,⟨h3.os,h3.tape,h3.output,h3.size,fun k hk _=>h3.block k hk (by simp)⟩,?_⟩
 have e:(madeCells (Value.int .i64 0).cells (n * 1)).toList=i64s (List.replicate n 0):=by
  show(madeCells #[.int .i64 0] (n * 1)).toList=_;rw[toList_madeCells_one,Nat.mul_one];simp[i64s]
 rw[e] at h2;exact h2
theorem ZlY (l:List Int) (k:Nat) (y:Int):(i64s l).set k (.int .i64 y)=i64s (l.set k y):=by simp[i64s,List.map_set]
end Go.Proofs.YtknoncenblehkaaGreatDoor
