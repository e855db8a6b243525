/- Package reach's tiers in memory: a map of rows; what waits i -/
import Derived.Test.YtknoncenblehkaaGreatDoorF30
set_option maxRecDepth 100000
set_option maxHeartbeats 32000000
set_option linter.unusedSimpArgs false
set_option linter.unusedVariables false
namespace Go.Proofs.YtknoncenblehkaaGreatDoor
section
open Go.RowKit Go.Maps Go.ChangeMaps Go.Lib
def Zuy:Value:=.slice none 0 0
def Zre (v:Value):Option (DataW Value×List MemPlace):=some (.held v,[])
def Zs8 (z:Int):Prop:=0≤z∧z≤9223372036854775807
theorem ZpM:Keyed Tryz.prog 3:=int_keyed Tryz.underlying3
theorem Zsg {p:Int} (h:Zs8 p):keyOf Tryz.prog 3 (.int .i64 p)=some (.int .i64 p):=keyOf_int_mk Tryz.underlying3 (WalkArith.wf_i64 (by unfold Zs8 at h;omega))
theorem Zr0 (p:Int):WideAt.IsKeyLit (.int .i64 p):=by
 unfold WideAt.IsKeyLit;simp
def Zil (w:World) (mp n:Nat) (V:Int→Value):Prop:=
 ∃D:DataW Value,w.ownsMap Tryz.prog 3 Zre mp n D∧ ∀p:Int,Zs8 p→D.atKey (.int .i64 p) (.held Zuy)=.held (V p)
section
variable {w w':World} {mp n:Nat} {V V':Int→Value} {F:Nat→Prop}
theorem Zil.keep (h:Zil w mp n V) (o:Only F w w') (hn: ¬F mp):Zil w' mp n V:=by
 obtain⟨D,⟨es,clock,hb,r⟩,h2⟩:=h;have hlt:mp<w.heap.size:=(Yv.1 hb).1;exact⟨D,⟨es,clock,(o.block mp hlt hn).trans hb,r⟩,h2⟩
theorem Zil.like (h:Zil w mp n V) (e: ∀p,0≤p→V' p=V p):Zil w mp n V':=by
 obtain⟨D,h1,h2⟩:=h;exact⟨D,h1,fun p hp=>by rw[h2 p hp,e p hp.1]⟩
theorem Zil.new (w:World) (hV: ∀p,0≤p→V p=Zuy):Zil (w.alloc (.map #[] 0)) w.heap.size 0 V:=
 ⟨_,World.ownsMap_made w _ _ _,fun p hp=>by rw[hV p hp.1];rfl⟩
theorem ZpN (h:w.mapTurned w' mp):Only (isb mp) w w':=by
 obtain⟨es,clock,es',clock',hb,rfl⟩:=h;exact⟨rfl,rfl,rfl,by simp[setBlock],fun k _ hn=>heap_setBlock_other hb _ hn⟩
theorem Zil.put (h:Zil w mp n V) (p:Int) (v:Value) (hp:Zs8 p) (hn:n<4611686018427387904):
 ∃w',(Instr.mapUpdate 178 (.map (some mp)) (.int .i64 p) v).run Tryz.prog w=.ok () w'∧Zil w' mp (n+1) (upd V p v)∧Only (isb mp) w w':=by
 obtain⟨D,h,h2⟩:=h;obtain⟨w',e,h',ht⟩:=h.store ZpM Tryz.underlying178 (by unfold maxLen;omega) (Zsg hp) (show Zre v=some (.held v,[]) from rfl);refine⟨w',e,⟨_,h',fun q hq=>?_⟩,ZpN ht⟩;by_cases hpq:p=q
 · subst hpq
   rw[Z5];exact atKey_put_same h.isMap (Zr0 p) _ _
 · have hne:(Lit.int .i64 q)≠(.int .i64 p):=fun e=>hpq (by injection e with _ e;exact e.symm)
   rw[atKey_put_other hne,Zq (Ne.symm hpq)];exact h2 q hq
theorem Zil.ne_blk {g:Nat} {t:TypeId} {cs:Array Value} (h:Zil w mp n V) (b:Blk w g t cs):g≠mp:=by
 rintro rfl;obtain⟨D,⟨es,clock,hb, -⟩, -⟩:=h;unfold Blk at b;rw[b] at hb
 cases hb
theorem Zil.ne_rows {base:Nat} {E:TypeId} {U:Int→Value} {L:Int→List Int} (h:Zil w mp n V) (r:Rws w base E U L): ¬Zl5 U mp:=fun ⟨i,e⟩=>by
 obtain⟨cur,hb⟩:=(r.own i).blk e;exact h.ne_blk hb rfl
end
structure Tq (W:World) (tb mp base b:Nat) (blk:Int) (V:Int→Value) (q:QSt):Prop where
 box:Blk W tb 180 #[.pointer (some ⟨b,0,none⟩),.int .i64 blk,.map (some mp),V (-5),.int .i64 q.last,.int .i64 q.tp]
 map:Zil W mp q.pt V
 nt:base≤tb
 np:base≤mp
def Tf (tb mp:Nat) (V:Int→Value) (k:Nat):Prop:=k=tb∨k=mp∨Zl5 V k
structure Stt (tb mp:Nat) (V V':Int→Value) (W w':World):Prop where
 only:Only (Tf tb mp V) W w'
 grow: ∀k,Zl5 V' k→k<W.heap.size→Tf tb mp V k
 same: ∀i,i<0→i≠ -5→V' i=V i
section
variable {W w1 w' w'':World} {b mb tb mp base:Nat} {vn vr:Value} {lim blk:Int} {n:Nat} {V V' V'':Int→Value} {M:List Int} {q q':QSt} {F:Nat→Prop}
theorem Stt.refl (tb mp:Nat) (V:Int→Value) (W:World):Stt tb mp V V W W:=⟨Only.refl _ _,fun k h _=>.inr (.inr h),fun _ _ _=>rfl⟩
theorem Stt.kept (tb mp:Nat) (V:Int→Value) (o:Only nob W w'):Stt tb mp V V W w':=⟨o.mono fun _ _ h=>h.elim,fun k h _=>.inr (.inr h),fun _ _ _=>rfl⟩
theorem Stt.trans (h:Stt tb mp V V' W w') (k:Stt tb mp V' V'' w' w''):Stt tb mp V V'' W w'':=by
 have hq: ∀i,i<W.heap.size→Tf tb mp V' i→Tf tb mp V i:=fun i hi e=>by
  rcases e with e|e|e
  · exact .inl e
  · exact .inr (.inl e)
  · exact h.grow i e hi
 exact⟨h.only.andThen k.only hq,fun i hi hlt=>hq i hlt (k.grow i hi (Yw hlt h.only.size)),fun i hi h5=>(k.same i hi h5).trans (h.same i hi h5)⟩
theorem Stt.more (h:Stt tb mp V V' W w') (o:Only nob w' w''):Stt tb mp V V' W w'':=h.trans (Stt.kept tb mp V' o)
theorem Tq.kept (h:Tq W tb mp base b blk V q) (o:Only nob W w'):Tq w' tb mp base b blk V q:=⟨h.box.keep o id,h.map.keep o id,h.nt,h.np⟩
theorem Tq.off (h:Tq W tb mp base b blk V q) (o:Only F W w') (h1: ¬F tb) (h2: ¬F mp):Tq w' tb mp base b blk V q:=⟨h.box.keep o h1,h.map.keep o h2,h.nt,h.np⟩
theorem Tq.nm (h:Tq W tb mp base b blk V q):tb≠mp:=h.map.ne_blk h.box
theorem Qp.tier (p:Qp W b mb base vn vr lim n V M q) (h:Tq W tb mp base b blk V q) (o:Only F W w') (hF: ∀k,F k→Tf tb mp V k) (hr:Rws w' base 3 V' (Zn q')) (hs: ∀i,i<0→i≠ -5→V' i=V i) (hk:q'.k=q.k):Qp w' b mb base vn vr lim n V' M q':=by
 have hb: ¬F b:=fun f=>by
  rcases hF b f with e|e|e
  · exact absurd e (p.box.ne h.box (by decide))
  · exact h.map.ne_blk p.box e
  · exact p.bn e
 have hm: ¬F mb:=fun f=>by
  rcases hF mb f with e|e|e
  · exact absurd e (p.fl.ne h.box (by decide))
  · exact h.map.ne_blk p.fl e
  · exact p.mn e
 refine⟨?_,p.fl.keep o hm,hr,p.nb,p.nm⟩;rw[hs (-1) (by decide) (by decide),hs (-2) (by decide) (by decide),hs (-3) (by decide) (by decide),hs (-4) (by decide) (by decide),hk];exact p.box.keep o hb
end
theorem Zsm {q:QSt} {z:Int} {l:List Int} (hz:0≤z) {q':QSt} (e1:q'.s=q.s) (e2:q'.ah=q.ah) (e3:q'.bg=q.bg) (e4:q'.wt=upd q.wt z l):Zn q'=upd (Zn q) z l:=by
 funext i
 unfold Zn;rw[e1,e2,e3,e4];unfold upd;by_cases h:i=z
 · subst h
   simp[show ¬i= -1 by omega,show ¬i= -2 by omega,show ¬i= -3 by omega,show ¬i= -4 by omega,show ¬i= -5 by omega]
 · simp[h]
end
section
open Go.RowKit Go.Maps Go.ChangeMaps Go.Lib
section
variable {W w1 w' w2:World} {b mb tb mp base:Nat} {vn vr:Value} {lim blk:Int} {n:Nat} {V:Int→Value} {M:List Int} {q:QSt}
theorem Tq.last (p:Qp W b mb base vn vr lim n V M q) (h:Tq W tb mp base b blk V q) (z:Int):
 Qp (W.setCell ⟨tb,4,none⟩ (.int .i64 z)) b mb base vn vr lim n V M {q with last:=z}∧Tq (W.setCell ⟨tb,4,none⟩ (.int .i64 z)) tb mp base b blk V {q with last:=z}∧Stt tb mp V V W (W.setCell ⟨tb,4,none⟩ (.int .i64 z)):=by
 have o:=Zc W tb 4 (.int .i64 z);refine⟨p.tier h o (fun k e=>.inl e) ((p.rows.set h.box (by decide)).like rfl (by funext i;rfl)) (fun _ _ _=>rfl) rfl,⟨by simpa using h.box.put 4 (.int .i64 z),h.map.keep o fun e=>h.nm e.symm,h.nt,h.np⟩,⟨o.mono fun k _ e=>.inl e,fun k hk _=>.inr (.inr hk),fun _ _ _=>rfl⟩⟩
theorem Tq.top (p:Qp W b mb base vn vr lim n V M q) (h:Tq W tb mp base b blk V q) (z:Int):
 Qp (W.setCell ⟨tb,5,none⟩ (.int .i64 z)) b mb base vn vr lim n V M {q with tp:=z}∧Tq (W.setCell ⟨tb,5,none⟩ (.int .i64 z)) tb mp base b blk V {q with tp:=z}∧Stt tb mp V V W (W.setCell ⟨tb,5,none⟩ (.int .i64 z)):=by
 have o:=Zc W tb 5 (.int .i64 z);refine⟨p.tier h o (fun k e=>.inl e) ((p.rows.set h.box (by decide)).like rfl (by funext i;rfl)) (fun _ _ _=>rfl) rfl,⟨by simpa using h.box.put 5 (.int .i64 z),h.map.keep o fun e=>h.nm e.symm,h.nt,h.np⟩,⟨o.mono fun k _ e=>.inl e,fun k hk _=>.inr (.inr hk),fun _ _ _=>rfl⟩⟩
theorem Tq.mid (p:Qp W b mb base vn vr lim n V M q) (h:Tq W tb mp base b blk V q) {i:Int} (oa:Only nob W w1) (o:Only (fun k=>(V i).ownBlock=some k) w1 w'):Tq w' tb mp base b blk V q:=
 (h.kept oa).off o (fun e=>p.rows.ne h.box (by decide) ⟨i,e⟩) (fun e=>h.map.ne_rows p.rows ⟨i,e⟩)
theorem Tq.row (p:Qp W b mb base vn vr lim n V M q) (h:Tq W tb mp base b blk V q) {z:Int} (hz:0≤z) {v':Value} {l:List Int} (oa:Only nob W w1) (o:Only (fun k=>(V z).ownBlock=some k) w1 w') (H:OwR w' base 3 v' l.length (i64s l)) (hv:v'.ownBlock=(V z).ownBlock∨v'.ownBlock=some w1.heap.size)
 (o2:Only (isb mp) w' w2) (hm:Zil w2 mp (q.pt+1) (upd V z v')):
 Qp w2 b mb base vn vr lim n (upd V z v') M {q with wt:=upd q.wt z l,pt:=q.pt+1}∧Tq w2 tb mp base b blk (upd V z v') {q with wt:=upd q.wt z l,pt:=q.pt+1}∧Stt tb mp V (upd V z v') W w2:=by
 have hF: ∀k,(V z).ownBlock=some k→Zl5 V k:=fun k e=>⟨_,e⟩
 have t1:=Tq.mid p h oa o;have hr1:=(p.rows.kept oa).turn z o H hv
 have hr:=hr1.only o2 fun k hk e=>by
  unfold isb at e;subst e;exact t1.map.ne_rows hr1 hk
 have oo:Only (Tf tb mp V) W w2:=((oa.mono fun _ _ h=>h.elim).andThen (o.mono fun k _ e=>(.inr (.inr (hF k e)):Tf tb mp V k)) fun _ _ h=>h).andThen o2 fun k _ e=>.inr (.inl e);refine⟨p.tier h oo (fun _ e=>e) (hr.like rfl (Zsm hz rfl rfl rfl rfl)) (fun i hi _=>Zq (by omega)) rfl,⟨?_,hm,h.nt,h.np⟩,⟨oo,?_,fun i hi _=>Zq (by omega)⟩⟩
 · rw[Zq (by omega)]
   exact t1.box.keep o2 t1.nm
 · rintro k ⟨i,hi⟩ hlt
   by_cases hj:i=z
   · subst hj
     rw[Z5] at hi;rcases hv with hv|hv
     · exact .inr (.inr (hF k (hv▸hi)))
     · rw[hv] at hi
       have:=Yp hi
       have:=oa.size
       omega
   · rw[Zq hj] at hi
     exact .inr (.inr ⟨i,hi⟩)
end
end
section
open Go.RowKit Go.Maps Go.ChangeMaps Go.Lib
structure TB (c d:Nat) (q:QSt):Prop where
 tp:0≤q.tp∧q.tp≤8193 * (c:Int)
 pt:q.pt≤c+d
 bg:q.bg.length≤c
 wt: ∀z,(q.wt z).length≤c
 lt:Zs8 q.last
 bs: ∀z∈q.bg,Zs8 z
end
end Go.Proofs.YtknoncenblehkaaGreatDoor
