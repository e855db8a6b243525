/- The document's own answer for layer 18: rows of -1; a graph The laws of chapter 18: walked, over what package canon is a A heap as a graph, in plain words: it may be, it has all wor The document's own answer for layer 19: a heap as a graph. ( Package lift: where each place stands, as a map of the call' -/
import Derived.Test.YtknoncenblehkaaGreatDoorE29
import Derived.Test.YtknoncenblehkaaGreatDoorE22
set_option maxRecDepth 100000
set_option maxHeartbeats 32000000
set_option linter.unusedSimpArgs false
set_option linter.unusedVariables false
namespace Go.Proofs.YtknoncenblehkaaGreatDoor
section
open Go.RowKit Go.Lib
theorem Sl.off18 {W U:World} {b sz n:Nat} {t:TypeId} {v:Value} {xs:List Value} (h:Sl W W.heap.size sz v n xs) (hB:Blk W b t #[.slice none 0 0,.slice none 0 0]) (o:Only (isb b) W U) (hi:0<n→ ∃k z,xs[0]? =some (.int k z)):Sl U U.heap.size sz v n xs:=by
 obtain⟨A,c,e,h1,h2,h3,h4⟩:=h;refine⟨A,c,e,h1,h2,h3,fun hn=>?_⟩;obtain⟨b',o',e',hlt,hc⟩:=h4 hn;obtain⟨k,z,hz⟩:=hi hn
 have hne:b'≠b:=by
  rintro rfl
  have:=hc 0 _ hz
  rw[hB.cell] at this
  match o',this with
  |0,this=>simp at this
  |1,this=>simp at this
  |n+2,this=>simp at this
 exact⟨b',o',e',Yw hlt o.size,fun j u hu=>(o.cell (p:=⟨b',o'+j,none⟩) hlt (fun e=>hne e)).trans (hc j u hu)⟩
theorem ZoD {g:Gr} {o:List Int}:(rnG g o).nd.length≤o.length∧(rnG g o).rt.length≤g.rt.length:=by
 unfold rnG
 split
 · exact⟨by simp[ZbB],by simp[Z5]⟩
 · simp
theorem Zmx {g:Gr} {o:List Int} (h:rnE g o=0) (hn:o.length≤1000000):Zp9 g=0∧Zp9 (rnG g o)=0∧ZkW (rnG g o)=ZkW g∧Zhz g (rnG g o)=true:=by
 have h1:=(ZbV.1 h).may;obtain⟨h2,h3⟩:=ZoY h hn;exact⟨if_pos h1,if_pos h2,h3,Zkt.2 ⟨h1,h2,h3.symm⟩⟩
end
section
open Go.RowKit
def valL (all:List Int) (x:Nat):Sp:=if dK x=2∧dX x∈all then(2,plc all (dX x)) else(dK x,dX x)
def ZqG (all:List Int) (l:List Nat) (p:Int):List Sp:=(List.range (ohF l p).toNat).map fun k:Nat=>valL all (wd l (p+1+(k:Nat)).toNat)
def ZqD (l:List Nat) (p:Int):List Nat:=(List.range (ohR l p).toNat).map fun k:Nat=>wd l (p+1+ohF l p+(k:Nat)).toNat
def liN (all:List Int) (l:List Nat) (p:Int):Nd:=⟨ohK l p,ZqG all l p,ZqD l p⟩
def Zf0 (sl:List Slt):List Slt:=sl.filter (·.1)
def Zly (all:List Int) (sl:List Slt):List Sp:=(Zf0 sl).map fun t=>valL all t.2.2
def ZpB (x:Nat):Sp:=(dK x,dX x)
noncomputable def liG (s:St):Gr:=if ZaL s=0 then⟨s.objs.map (liN s.objs s.ws),Zly s.objs s.sl⟩ else⟨[],[]⟩
theorem ZjR {s:St} (h:ZaL s=0):liG s=⟨s.objs.map (liN s.objs s.ws),Zly s.objs s.sl⟩:=if_pos h
theorem Zp7 {s:St} (h:ZaL s≠0):liG s=⟨[],[]⟩:=if_neg h
theorem Zld {l:List Int} {z:Int}:ZaH l z=true↔z∈l:=by
 unfold ZaH;simp
theorem ZqI {l:List Nat} (h:ZaD l) (p:Nat):wd l p<18446744073709551616:=by
 unfold wd;rw[Yn]
 cases e:l[p]? with
 |none=>decide
 |some x=>exact h x (Yo e)
section
variable {s:St}
theorem Zgi (h:May15 s) {p:Int} (hp:p∈s.objs) {k:Nat} (hk:k<(ohF s.ws p).toNat):leads s.objs (wd s.ws (p+1+(k:Nat)).toNat)=true:=by
 have h8:=h.fields;unfold r8 at h8
 have:=List.all_eq_true.1 h8 p hp
 unfold ZbS at this;exact List.all_eq_true.1 this k (List.mem_range.2 hk)
theorem Zhc (h:May15 s) {t:Slt} (ht:t∈Zf0 s.sl):leads s.objs t.2.2=true:=by
 obtain⟨h1,h2⟩:=List.mem_filter.1 ht;have h9:=h.leads;unfold r9 at h9
 have:=List.all_eq_true.1 h9 t h1
 rw[h2] at this;simpa using this
theorem Zoi {l:List Slt} (h:Zou l) {t:Slt} (ht:t∈Zf0 l):t.2.2<18446744073709551616:=by
 have:=(h t (List.mem_filter.1 ht).1).2.2
 exact this
theorem ZmP (l:List Slt):(Zf0 l).length≤l.length:=List.length_filter_le _ _
end
end
section
open Go.RowKit Go.Lib
theorem ZcV {W:World} {gb b s n:Nat} {E t:TypeId} {v:Value} {x cs} (hb:Blk W gb t cs) (h:W.ownsRow b E s v n x) (hE:t≠E): ∀j,v.ownBlock=some j→ ¬isb gb j:=fun j e e2=>by
 unfold isb at e2;subst e2;exact blk_own_ne16 hb h hE e
theorem Zo9 {l:List Nat} {p:Nat} (h:p<l.length):l[p]? =some (wd l p):=by
 unfold wd;rw[Yn,Ya h];rfl
theorem ZaT {α:Type} {l:List α} {j:Nat} {x:α} (h:l[j]? =some x):l.take (j+1)=l.take j++[x]:=by
 rw[List.take_add_one,h];rfl
end
section
open Go.RowKit Go.Lib Go.Maps Go.ChangeMaps
theorem Zlc (w:World):(zeroValue 3).run Tryz.prog w=.ok (.int .i64 0) w:=by kernel_rfl
def Zee (w:World) (mp n:Nat) (K:List Int):Prop:=
 ∃D:DataW Value,w.ownsMap Tryz.prog 3 ZlR mp n D∧ ∀p:Int,I64 p→(has D (.int .i64 p)=decide (p∈K)∧(p∈K→ ∀z,D.atKey (.int .i64 p) z=.held (.int .i64 (plc K p))))
theorem Zee.keep {F:Nat→Prop} {w w':World} {mp n:Nat} {K:List Int} (h:Zee w mp n K) (o:Only F w w') (hn: ¬F mp):Zee w' mp n K:=by
 obtain⟨D,⟨es,clock,hb,r⟩,h2⟩:=h;have hlt:mp<w.heap.size:=(Yv.1 hb).1;exact⟨D,⟨es,clock,(o.block mp hlt hn).trans hb,r⟩,h2⟩
theorem Zee.new (w:World):Zee (w.alloc (.map #[] 0)) w.heap.size 0 []:=
 ⟨_,World.ownsMap_made w _ _ _,fun p _=>⟨rfl,fun h=>by cases h⟩⟩
theorem Zee.put {w:World} {mp n:Nat} {K:List Int} (h:Zee w mp n K) (p:Int) (hp:I64 p) (hK:p∉K) (hn:n<1000000):
 ∃w',(Instr.mapUpdate 85 (.map (some mp)) (.int .i64 p) (.int .i64 (K.length:Int))).run Tryz.prog w=.ok () w'∧Zee w' mp (n+1) (K++[p])∧Only (isb mp) w w':=by
 obtain⟨D,h,h2⟩:=h;obtain⟨w',e,h',ht⟩:=h.store Zgj Tryz.underlying85 (by unfold maxLen;omega) (Zc8 hp) (show ZlR (.int .i64 (K.length:Int))=some (.held (.int .i64 (K.length:Int)),[]) from rfl);refine⟨w',e,⟨_,h',fun q hq=>?_⟩,Zdo ht⟩;by_cases hpq:p=q
 · subst hpq
   rw[has_put_same h.isMap (ZeW p)];refine⟨by simp,fun _ z=>?_⟩;rw[ZfQ hK];exact atKey_put_same h.isMap (ZeW p) _ _
 · have hne:(Lit.int .i64 q)≠(.int .i64 p):=fun e=>hpq (by injection e with _ e;exact e.symm)
   rw[has_put_other hne];obtain⟨h3,h4⟩:=h2 q hq
   have hb:(q∈K++[p])↔q∈K:=by
    rw[Yr,Yt];exact⟨fun h=>h.elim id fun e=>absurd e.symm hpq,.inl⟩
   refine⟨by rw[h3];exact decide_eq_decide.2 hb.symm,fun h z=>?_⟩;rw[atKey_put_other hne,Zf5 (hb.1 h)];exact h4 (hb.1 h) z
theorem Zee.at_ {w:World} {mp n:Nat} {K:List Int} (h:Zee w mp n K) (p:Int) (hp:I64 p) (hk:p∈K):
 (Instr.lookup 85 (.map (some mp)) (.int .i64 p) false).run Tryz.prog w=.ok (.int .i64 (plc K p)) w:=by
 obtain⟨D,h,h2⟩:=h;obtain⟨v,ps,e,hv⟩:=h.lookup Zgj Tryz.underlying85 (Zlc w) (show ZlR (.int .i64 0)=some (.held (.int .i64 0),[]) from rfl) (Zc8 hp);obtain⟨h3,h4⟩:=h2 p hp;unfold ZlR at hv;simp only[Option.some.injEq,Prod.mk.injEq] at hv;rw[h4 hk] at hv
 have:v=.int .i64 (plc K p):=by simpa using hv.1
 rw[← this];exact e
theorem Zee.ne_blk {w:World} {mp n g:Nat} {K:List Int} {t:TypeId} {cs:Array Value} (h:Zee w mp n K) (b:Blk w g t cs):g≠mp:=by
 rintro rfl;obtain⟨D,⟨es,clock,hb, -⟩, -⟩:=h;unfold Blk at b;rw[b] at hb
 cases hb
theorem Zom (A Z:List Sp) (x y:Sp):((spc (A++x::Z)).set (A.length * 2) (.int .i64 y.1)).set (A.length * 2+1) (.int .i64 y.2)=spc (A++y::Z):=by
 have e: ∀z:Sp,spc (A++z::Z)=spc A++.int .i64 z.1::.int .i64 z.2::spc Z:=fun z=>by simp[spc]
 have hl:=Z6 A;rw[e,e, ← hl,List.set_append_right _ _ (Yj _),Nat.sub_self,Yd,List.set_append_right _ _ (by omega),show(spc A).length+1 - (spc A).length=1 by omega,Yc,Yd]
def Zce (L:List Sp) (k n:Nat):List Sp:=L.take k++List.replicate (n - k) (0,0)
theorem Zm2 {L:List Sp} {k n:Nat} {y:Sp} (hy:L[k]? =some y) (hn:L.length=n):((spc (Zce L k n)).set (k * 2) (.int .i64 y.1)).set (k * 2+1) (.int .i64 y.2)=spc (Zce L (k+1) n):=by
 have hk:=(Yk.1 hy).1
 have hl:(L.take k).length=k:=by rw[List.length_take];omega
 obtain⟨r,hr⟩: ∃r,n - k=r+1:=⟨n - k - 1,by omega⟩
 unfold Zce;rw[hr,List.replicate_succ];have h:=Zom (L.take k) (List.replicate r (0,0)) (0,0) y;rw[hl] at h;rw[h,ZaT hy,List.append_assoc,show n - (k+1)=r by omega];rfl
theorem ZlZ {L:List Sp} {n:Nat} (hn:L.length=n):Zce L n n=L:=by
 unfold Zce;rw[Nat.sub_self, ← hn,List.take_length];simp
theorem ZgX (n:Nat):madeCells (Value.agg #[.int .i64 0,.int .i64 0]).cells (n * 2)=(spc (Zce [] 0 n)).toArray:=by
 have hf:Zce [] 0 n=List.replicate n (0,0):=by unfold Zce;simp
 rw[hf]
 have hl:(spc (List.replicate n ((0,0):Sp))).length=n * 2:=by rw[Z6,List.length_replicate]
 apply Array.ext
 · rw[size_madeCells];simp[hl]
 · intro i h1 h2
   rw[size_madeCells] at h1
   obtain⟨q,hq,hr⟩: ∃q,q<n∧(i=q * 2∨i=q * 2+1):=⟨i / 2,by omega,by omega⟩
   obtain⟨e0,e1⟩:=ZkI (l:=List.replicate n ((0,0):Sp)) (k:=q) (x:=(0,0)) (by rw[List.getElem?_replicate,if_pos hq])
   have key: ∀(i:Nat) (y:Value) (h2:i<(spc (List.replicate n ((0,0):Sp))).toArray.size),(spc (List.replicate n ((0,0):Sp)))[i]? =some y→(spc (List.replicate n ((0,0):Sp))).toArray[i]=y:=fun i y h2 h=>by
    simpa using(Yk.1 h).2
   rcases hr with rfl|rfl
   · rw[key _ _ h2 e0]
     simp only[madeCells,Array.getElem_map,Array.getElem_range];rw[show(Value.agg #[.int .i64 0,.int .i64 0]).cells.size=2 from rfl,show q * 2 % 2=0 by omega];rfl
   · rw[key _ _ h2 e1]
     simp only[madeCells,Array.getElem_map,Array.getElem_range];rw[show(Value.agg #[.int .i64 0,.int .i64 0]).cells.size=2 from rfl,show(q * 2+1) % 2=1 by omega];rfl
theorem ZgE (n:Nat) (hn:n≤1000000) (w:World): ∃W,(Instr.makeSlice 25 (.int .i64 (n:Int)) (.int .i64 (n:Int))).run Tryz.prog w=.ok (.slice (some ⟨w.heap.size,0,none⟩) n n) W∧Only nob w W∧W.ownsRow w.heap.size 59 2 (.slice (some ⟨w.heap.size,0,none⟩) n n) n (spc (Zce [] 0 n)):=by
 obtain⟨i0,hi0,hz0,hz1,hz2⟩:=info_parts Zeo;obtain⟨W,h1,h2,h3⟩:=run_make_full (P:=Tryz.prog) w w.heap.size 25 59 i0 _ 2 Tryz.underlying25 hi0 hz0 hz1 .i64 .i64 n (by rw[hz2];omega) (by unfold maxLen;omega) (Yj _);refine⟨W,h1,⟨h3.os,h3.tape,h3.output,h3.size,fun k hk _=>h3.block k hk (by simp)⟩,?_⟩
 have e:(madeCells (Value.agg #[.int .i64 0,.int .i64 0]).cells (n * 2)).toList=spc (Zce [] 0 n):=by rw[ZgX]
 rw[e] at h2;exact h2
theorem ZqZ {h:Int→Hd} (H:ZlO h) (top a:Int) (hok: ∀y∈tr h top a,y.e=0):(ats (tr h top a)).Pairwise (· < ·)∧ ∀p∈ats (tr h top a),a≤p∧p<top:=by
 revert hok;refine Zke H top (P:=fun a=>(∀y∈tr h top a,y.e=0)→(ats (tr h top a)).Pairwise (· < ·)∧ ∀p∈ats (tr h top a),a≤p∧p<top) ?_ ?_ ?_ a
 · intro a ha _
   rw[ZfZ ha];exact⟨List.Pairwise.nil,fun _ h=>by cases h⟩
 · intro a ha hs hok
   rw[Zgg ha hs] at hok
   have:=hok _ (Yt.2 rfl)
   rw[ZeK] at this;exact absurd this hs
 · intro a ha hs ih hok
   rw[Zjr H ha hs] at hok ⊢;have h1:=ZbO H (ZaP hs).1;obtain⟨i1,i2⟩:=ih fun y hy=>hok y (List.mem_cons_of_mem _ hy);show(((item h top a).at_::ats (tr h top (a+osz h a))).Pairwise (· < ·))∧ ∀p∈(item h top a).at_::ats (tr h top (a+osz h a)),a≤p∧p<top;rw[Zaz,List.pairwise_cons];refine⟨⟨fun p hp=>?_,i1⟩,fun p hp=>?_⟩
   · have:=i2 p hp;omega
   · rcases List.mem_cons.1 hp with rfl|hp
     · omega
     · have:=i2 p hp;omega
theorem Zjz {s:St} (h:May15 s):s.objs.Nodup:=by
 have h6:=h.big;unfold r6 at h6;rw[Bool.and_eq_true,decide_eq_true_iff] at h6;obtain⟨hw,hp,ha, -⟩:=h6.1;have hsz: ∀x∈s.tb,1≤x.2:=fun x hx=>(hw x hx).1.2.1;have ht:=of_decide_eq_true h.top;have hb:=ZD h.ok s.sec;obtain⟨u1,u2⟩:=ZqZ (Zcc s.ws) s.top s.frm.1 (by rw[← h.steps_tr];exact h.steps_ok)
 have he:s.smalls=ats (tr (hAr s.ws) s.top s.frm.1):=by rw[h.smalls_ats,h.steps_tr]
 unfold St.objs;rw[List.nodup_append];refine⟨?_,?_,?_⟩
 · rw[he]
   exact u1.imp fun h=>by omega
 · unfold List.Nodup
   rw[List.pairwise_map];have h2:=Zjh hp ha;refine List.Pairwise.imp_of_mem ?_ h2;intro x y hx _ hxy
   have:=hsz x hx
   omega
 · intro p hp q hq
   rw[he] at hp;have hp2:=u2 p hp;obtain⟨x,hx,rfl⟩:=List.mem_map.1 hq;have h1:=hw x hx;have h2:=hsz x hx;unfold Sp.within Sp.has Sp.ok Zd at h1;unfold St.frm at ht hp2
   split at h1 <;> simp only at h1 <;> omega
def Zji (g:FuncId) (la:Array Value) (P:Nat→Prop) (f:Nat→Sp) (w:World):Prop:=
 (∀args w,(callFunc g args).run Tryz.prog w=.ok (.enter g args) w)∧ ∀x:Nat,P x→ ∀W:World,Only nob w W→Calls Tryz.prog g (#[.int .u64 (x:Nat)]++la) W fun e w'=>e=.returned (.agg #[.int .i64 (f x).1,.int .i64 (f x).2])∧Only nob W w'
theorem Zji.on {g:FuncId} {la:Array Value} {P:Nat→Prop} {f:Nat→Sp} {w w':World} (h:Zji g la P f w) (o:Only nob w w'):Zji g la P f w':=⟨h.1,fun x hx W hW=>h.2 x hx W (o.trans hW)⟩
end
end Go.Proofs.YtknoncenblehkaaGreatDoor
