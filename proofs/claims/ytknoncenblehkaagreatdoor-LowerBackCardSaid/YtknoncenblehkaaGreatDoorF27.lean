/- Package graph: where each place of an order stands, as a map -/
import Derived.Test.YtknoncenblehkaaGreatDoorF26
import Derived.Maps.OwnSet
set_option maxRecDepth 100000
set_option maxHeartbeats 32000000
set_option linter.unusedSimpArgs false
set_option linter.unusedVariables false
namespace Go.Proofs.YtknoncenblehkaaGreatDoor
section
open Go.RowKit Go.Maps Go.ChangeMaps
def B64 (z:Int):Prop:= -9223372036854775808≤z∧z≤9223372036854775807
def Zj9 (v:Value):Option (DataW Value×List MemPlace):=some (.held v,[])
theorem ZkA:Keyed Tryz.prog 2:=int_keyed Tryz.underlying2
theorem ZmA {p:Int} (h:B64 p):keyOf Tryz.prog 2 (.int .i64 p)=some (.int .i64 p):=keyOf_int_mk Tryz.underlying2 (WalkArith.wf_i64 h)
theorem Zoq (p:Int):WideAt.IsKeyLit (.int .i64 p):=by
 unfold WideAt.IsKeyLit;simp
theorem ZtF (w:World):(zeroValue 2).run Tryz.prog w=.ok (.int .i64 0) w:=by kernel_rfl
def Zgz (w:World) (mp n:Nat) (K:List Int):Prop:=
 ∃D:DataW Value,w.ownsMap Tryz.prog 2 Zj9 mp n D∧ ∀p:Int,B64 p→(has D (.int .i64 p)=decide (p∈K)∧(p∈K→ ∀z,D.atKey (.int .i64 p) z=.held (.int .i64 (plc K p))))
theorem Zgz.keep {F:Nat→Prop} {w w':World} {mp n:Nat} {K:List Int} (h:Zgz w mp n K) (o:Only F w w') (hn: ¬F mp):Zgz w' mp n K:=by
 obtain⟨D,⟨es,clock,hb,r⟩,h2⟩:=h;have hlt:mp<w.heap.size:=(Yv.1 hb).1;exact⟨D,⟨es,clock,(o.block mp hlt hn).trans hb,r⟩,h2⟩
theorem Zgz.same {w w':World} {mp n:Nat} {K:List Int} (h:Zgz w mp n K) (e:w'.heap[mp]? =w.heap[mp]?):Zgz w' mp n K:=by
 obtain⟨D,⟨es,clock,hb,r⟩,h2⟩:=h;exact⟨D,⟨es,clock,e.trans hb,r⟩,h2⟩
theorem Zgz.new (w:World):Zgz (w.alloc (.map #[] 0)) w.heap.size 0 []:=
 ⟨_,World.ownsMap_made w _ _ _,fun p _=>⟨rfl,fun h=>by cases h⟩⟩
theorem Zgi {w w':World} {mp:Nat} (h:w.mapTurned w' mp):Only (isb mp) w w':=by
 obtain⟨es,clock,es',clock',hb,rfl⟩:=h;exact⟨rfl,rfl,rfl,by simp[setBlock],fun k _ hn=>heap_setBlock_other hb _ hn⟩
theorem ZdM {K:List Int} {p q:Int} (h:q∈K):plc (K++[p]) q=plc K q:=by
 rw[ZfV h,ZfV (List.mem_append_left _ h),List.idxOf_append,if_pos h]
theorem ZdK {K:List Int} {p:Int} (h:p∉K):plc (K++[p]) p=K.length:=by
 rw[ZfV (by simp),List.idxOf_append,if_neg h];simp
theorem Zgz.put {w:World} {mp n:Nat} {K:List Int} (h:Zgz w mp n K) (p:Int) (hp:B64 p) (hK:p∉K) (hn:n<1000000):
 ∃w',(Instr.mapUpdate 161 (.map (some mp)) (.int .i64 p) (.int .i64 (K.length:Int))).run Tryz.prog w=.ok () w'∧Zgz w' mp (n+1) (K++[p])∧Only (isb mp) w w':=by
 obtain⟨D,h,h2⟩:=h;obtain⟨w',e,h',ht⟩:=h.store ZkA Tryz.underlying161 (by unfold maxLen;omega) (ZmA hp) (show Zj9 (.int .i64 (K.length:Int))=some (.held (.int .i64 (K.length:Int)),[]) from rfl);refine⟨w',e,⟨_,h',fun q hq=>?_⟩,Zgi ht⟩;by_cases hpq:p=q
 · subst hpq
   rw[has_put_same h.isMap (Zoq p)];refine⟨by simp,fun _ z=>?_⟩;rw[ZdK hK];exact atKey_put_same h.isMap (Zoq p) _ _
 · have hne:(Lit.int .i64 q)≠(.int .i64 p):=fun e=>hpq (by injection e with _ e;exact e.symm)
   rw[has_put_other hne];obtain⟨h3,h4⟩:=h2 q hq
   have hb:(q∈K++[p])↔q∈K:=by
    rw[Yr,Yt];exact⟨fun h=>h.elim id fun e=>absurd e.symm hpq,.inl⟩
   refine⟨by rw[h3];exact decide_eq_decide.2 hb.symm,fun h z=>?_⟩;rw[atKey_put_other hne,ZdM (hb.1 h)];exact h4 (hb.1 h) z
theorem Zgz.look {w:World} {mp n:Nat} {K:List Int} (h:Zgz w mp n K) (p:Int) (hp:B64 p):
 (Instr.lookup 161 (.map (some mp)) (.int .i64 p) true).run Tryz.prog w=.ok (.tuple #[.int .i64 (if p∈K then plc K p else 0),.bool (decide (p∈K))]) w:=by
 obtain⟨D,h,h2⟩:=h;obtain⟨v,ps,e,hv⟩:=h.look_ok ZkA Tryz.underlying161 (ZtF w) (show Zj9 (.int .i64 0)=some (.held (.int .i64 0),[]) from rfl) (ZmA hp);obtain⟨h3,h4⟩:=h2 p hp;rw[h3] at e;unfold Zj9 at hv;simp only[Option.some.injEq,Prod.mk.injEq] at hv;by_cases hb:p∈K
 · rw[h4 hb] at hv
   obtain rfl:v=.int .i64 (plc K p):=by simpa using hv.1
   rw[e,if_pos hb]
 · rw[Yl hb] at h3
   have:D.atKey (.int .i64 p) (.held (.int .i64 0))=.held (.int .i64 0):=by
    rw[atKey_of_not_has h3]
   rw[this] at hv
   obtain rfl:v=.int .i64 0:=by simpa using hv.1
   rw[e,if_neg hb]
theorem Zgz.ne_blk {w:World} {mp n g:Nat} {K:List Int} {t:TypeId} {cs:Array Value} (h:Zgz w mp n K) (b:Blk w g t cs):g≠mp:=by
 rintro rfl;obtain⟨D,⟨es,clock,hb, -⟩, -⟩:=h;unfold Blk at b;rw[b] at hb
 cases hb
theorem ZdI {P:Program} (w:World) {ops:Array Oper} {rest:List Oper} {o:Oper} {a:Act} {Q:Exit→Act→World→Prop} (hg:o.guard=none) (m x v:Operand) (t:TypeId) (hop:o.op=Op.mapUpdate t m x v) (mv kv vv:Value)
 (hm:a.eval m=mv) (hx:a.eval x=kv) (hv:a.eval v=vv) (w':World) (hrun:(Instr.mapUpdate t mv kv vv).run P w=.ok () w') (hK:wpList P ops Q rest (a.put o.dst undef) w'):wpList P ops Q (o::rest) a w:=by
 refine wpList_plain hg fun K' hK'=>?_;unfold Oper.wp;simp[execOp,hop,hm,hx,hv,hrun,Result.andThen];exact hK' _ _ hK
theorem ZpV {n:Nat} {o:List Int} {k:Nat} {x:Int} (hx:o[k]? =some x) (h:ZbF n (o.take k)=true) (hk:x∉o.take k) (h0:0≤x) (h1:x<(n:Int)):ZbF n (o.take (k+1))=true:=by
 obtain⟨a,b⟩:=Zr.1 h;rw[List.take_add_one,hx];refine Zr.2 ⟨fun y hy=>?_,?_⟩
 · rcases Yr.1 hy with h|h
   · exact a y h
   · obtain rfl:y=x:=by simpa using h
     exact⟨h0,h1⟩
 · rw[List.nodup_append]
   refine⟨b,by simp,fun y hy z hz e=>?_⟩
   obtain rfl:z=x:=by simpa using hz
   exact hk (e▸hy)
theorem ZoC {n:Nat} {o:List Int} {k:Nat} {x:Int} (hx:o[k]? =some x) (h:x∈o.take k∨x<0∨(n:Int)≤x):ZbF n o=false:=by
 cases e:ZbF n o with
 |false=>rfl
 |true=>
  obtain⟨a,b⟩:=Zr.1 e;have hm:=a x (Yo hx);rcases h with h|h|h
  · obtain⟨j,hj⟩:=List.getElem?_of_mem h
    have hjk:j<k:=by have:=(Yk.1 hj).1;rw[List.length_take] at this;omega
    rw[List.getElem?_take,if_pos hjk] at hj
    have:=ZbB b hj hx
    omega
  · omega
  · omega
theorem Zhs (o:List Int) (n:Nat) (v:Value) (B:Nat) (w:World) (h:Sl w B 1 v o.length (i64s o)) (hB:B≤w.heap.size) (hn:n≤1000000) (hl:o.length≤1000) (hf: ∀x∈o,B64 x):
 Calls Tryz.prog 111 #[v,.int .i64 n] w fun e w'=>
  (ZbF n o=true→ ∃mp,e=.returned (.tuple #[.map (some mp),.bool true])∧w.heap.size≤mp∧Zgz w' mp o.length o)∧(ZbF n o=false→e=.returned (.tuple #[.map none,.bool false]))∧Only nob w w':=by
 have HV:=ZZ h;have HF:=ZZ hf;have hmm:=@run_makeMap Tryz.prog;obtain⟨A,c,rfl,hac,hcm⟩:=h.form;unfold maxLen at hcm
 obtain⟨q,hq⟩: ∃q,q=ZbF n o:=⟨_,rfl⟩
 have HQ:=ZZ hq;rw[← hq]
 obtain⟨W,hW,oW,pW⟩: ∃W,w.alloc (.map #[] 0)=W∧Only nob w W∧Zgz W w.heap.size 0 []:=⟨_,rfl,(Only.refl nob w).alloc _,Zgz.new w⟩
 have HW:=ZZ hW;have OW:=ZZ oW;have PW:=ZZ pW
 obtain⟨mp,hmp⟩: ∃mp,mp=w.heap.size:=⟨_,rfl⟩
 have HMP:=ZZ hmp;rw[← hmp] at PW;clear hq hW oW pW h hf hmp
 go_enter Tryz.func111,Tryz.ntmps111
 go_upto_region 2 with fail
 rw[HW.out, ← HMP.out];clear hmm
 go_wp2_with fail
 go_loopw [7,8,9,10,11,15] (fun _ _ _ _ _ i wr=> ∃k:Nat,k≤o.length∧i=.int .i64 k∧Hid (ZbF n (o.take k)=true)∧Hid (Zgz wr mp k (o.take k))∧Hid (Only nob w wr)) (fun _ _ _ _ _ i _=>o.length - (intOf i).toNat)
 case atStart=>exact⟨0,Yu _,rfl,ZZ (by rw[List.take_zero];rfl),ZZ (by rw[List.take_zero];exact PW.out),OW⟩
 case round=>
  obtain⟨k,hk,rfl,HOK,HP,HO⟩:=hrel;by_cases hlt:k<o.length
  · obtain⟨x,hx⟩: ∃x,o[k]? =some x:=⟨_,Ya hlt⟩
    obtain⟨b1,o1,rfl, -,e0⟩:=ZaO HV.out (HO.out.below hB fun _ h=>h.elim) hx;have HX:=ZZ hx;have hxb:=HF.out x (Yo hx);have hlk:=HP.out.look x hxb;by_cases hin:x∈o.take k
    · have HN:=ZZ (show q=false from HQ.out.trans (ZoC hx (.inl hin)))
      rw[if_pos hin,Ym hin] at hlk;clear hx hin;unfold B64 at hxb;go_wp2;go_ret2;exact⟨(fun h=>by rw[HN.out] at h;cases h),fun _=>rfl,HO.out⟩
    · rw[if_neg hin,Yl hin] at hlk
      by_cases h0:x<0
      · have HN:=ZZ (show q=false from HQ.out.trans (ZoC hx (.inr (.inl h0))))
        clear hx hin;unfold B64 at hxb;go_wp2;go_ret2;exact⟨(fun h=>by rw[HN.out] at h;cases h),fun _=>rfl,HO.out⟩
      · by_cases h1:(n:Int)≤x
        · have HN:=ZZ (show q=false from HQ.out.trans (ZoC hx (.inr (.inr h1))))
          clear hx hin;unfold B64 at hxb;go_wp2;go_ret2;exact⟨(fun h=>by rw[HN.out] at h;cases h),fun _=>rfl,HO.out⟩
        · have HOK2:=ZZ (ZpV hx HOK.out hin (by omega) (by omega))
          have htl:(o.take k).length=k:=by rw[List.length_take];omega
          have hp:=HP.out.put x hxb hin (by omega);rw[htl,show o.take k++[x]=o.take (k+1) by rw[List.take_add_one,hx];rfl] at hp;obtain⟨w2,hrun,hp2,o2⟩:=hp;have HR:=ZZ hrun;have HP2:=ZZ hp2;have O2:=ZZ (HO.out.andThen o2 fun i hi e=>by unfold isb at e;have:=HMP.out;omega);clear hx hin hp2 o2 hrun htl;unfold B64 at hxb
          go_wp2_with (first|(at_mapUpdate;refine ZdI _ rfl _ _ _ _ rfl _ _ _ rfl rfl rfl _ HR.out ?_)|fail)
          go_roundw
          case rel=>exact⟨k+1,by omega,by go_num,HOK2,HP2,O2⟩
          case measure=>simp[intOf];omega
  · obtain rfl:k=o.length:=by omega
    have HE:=ZZ (show o.take o.length=o from List.take_length);have HN:=ZZ (show q=true from HQ.out.trans (by have:=HOK.out;rwa [HE.out] at this));go_wp2;go_ret2;exact⟨(fun _=>⟨mp,rfl,Nat.le_of_eq HMP.out.symm,by have:=HP.out;rwa [HE.out] at this⟩),(fun h=>by rw[HN.out] at h;cases h),HO.out⟩
end
section
open Go.RowKit Go.Lib
theorem Zbz:(Tryz.prog.info? 56).map (fun i=>(i.zero,i.size,i.bytes))=some (some (.agg #[.int .i64 0,.slice none 0 0,.slice none 0 0]),3,56):=by kernel_rfl
theorem Zf5 (k:Int) (A1 A2:Option Addr) (n1 c1 n2 c2:Nat): ∀q∈[Value.int .i64 k,.slice A1 n1 c1,.slice A2 n2 c2],q.oneCell'=true:=by
 intro v hv;simp at hv
 rcases hv with rfl|rfl|rfl <;> rfl
theorem Zkk (n:Nat) (hn:n≤1000000): ∃cs:Array Value,cs.size=n * 3∧ ∀w:World,(Instr.makeSlice 24 (.int .i64 0) (.int .i64 (n:Int))).run Tryz.prog w=.ok (.slice (some ⟨w.heap.size,0,none⟩) 0 n) (w.alloc (.cells cs 56)):=by
 obtain⟨i0,hi0,hz0,hz1,hz2⟩:=info_parts Zbz;refine⟨madeCells (Value.agg #[.int .i64 0,.slice none 0 0,.slice none 0 0]).cells (n * 3),by rw[size_madeCells],fun w=>?_⟩;have h:=run_make (P:=Tryz.prog) w 24 56 i0 _ Tryz.underlying24 hi0 hz0 .i64 .i64 0 n (by omega) (by omega) (by rw[hz2];omega) (by omega);rw[h];simp only[Int.toNat_natCast,Int.toNat_zero,hz1]
theorem Zeb: ∀(l:List Nd) (hs:List (Value×Value)) (d:Nd) (h:Value×Value),hs.length=l.length→ndc (l++[d]) (hs++[h])=ndc l hs++[.int .i64 d.kd,h.1,h.2]
 |[],[],_,_,_=>rfl
 |[],_::_,_,_,e=>by cases e
 |_::_,[],_,_,e=>by cases e
 |x::l,y::hs,d,h,e=>by
  have:=Zeb l hs d h (by simpa using e)
  simp only[List.cons_append,ndc,this]
theorem ZK {w:World} {b1 b2:Nat} {E1 E2:TypeId} {s1 s2 n1 n2:Nat} {v1 v2:Value} {x1 x2:List Value} (h1:w.ownsRow b1 E1 s1 v1 n1 x1) (h2:w.ownsRow b2 E2 s2 v2 n2 x2) (hE:E1≠E2): ∀k,v1.ownBlock=some k→ ¬v2.ownBlock=some k:=by
 intro k e1 e2
 rcases h1.2 with⟨rfl, -⟩|⟨g1,c1,cur1,rfl,_,hg1, -⟩
 · cases e1
 · rcases h2.2 with⟨rfl, -⟩|⟨g2,c2,cur2,rfl,_,hg2, -⟩
   · cases e2
   · have h1:g1=k:=Yp e1
     have h2:g2=k:=Yp e2;rw[h1] at hg1;rw[h2,hg1] at hg2
     have:=Yp hg2
     injection this with _ e
     exact hE e
theorem blk_own_ne16 {w:World} {b2 g:Nat} {t E2:TypeId} {cs:Array Value} {s2 n2:Nat} {v2:Value} {x2:List Value} (h1:Blk w g t cs) (h2:w.ownsRow b2 E2 s2 v2 n2 x2) (hE:t≠E2): ¬v2.ownBlock=some g:=by
 intro e2
 rcases h2.2 with⟨rfl, -⟩|⟨g2,c2,cur2,rfl,_,hg2, -⟩
 · cases e2
 · have h2:g2=g:=Yp e2
   unfold Blk at h1;rw[h2,h1] at hg2
   have:=Yp hg2
   injection this with _ e
   exact hE e
theorem Zab {w:World} {base:Nat} {E:TypeId} {size n c b:Nat} {xs:List Value} (h:w.ownsRow base E size (.slice (some ⟨b,0,none⟩) n c) n xs) (j:Nat) (hj:j<n * size) (u:Value):
 (w.setCell ⟨b,j,none⟩ u).ownsRow base E size (.slice (some ⟨b,0,none⟩) n c) n (xs.set j u):=by
 obtain⟨h1,h2⟩:=h;refine⟨by rw[List.length_set];exact h1,?_⟩
 rcases h2 with⟨e,rfl⟩|⟨g,cap,cur,e,hb,hg,h3,h4,h5,h6⟩
 · cases e
 · obtain⟨rfl,rfl⟩:b=g∧c=cap:=by simpa using e
   have hput:Blk (w.setCell ⟨b,j,none⟩ u) b E (cur.setIfInBounds j u):=Blk.put (t:=E) hg j u;refine .inr ⟨b,c,cur.setIfInBounds j u,rfl,hb,hput,h3,h4,by simpa using h5,?_⟩;rw[Array.toList_setIfInBounds, ← h6,List.take_set]
structure NdO (w:World) (base:Nat) (d:Nd) (h:Value×Value):Prop where
 fs:w.ownsRow base 59 2 h.1 d.fs.length (spc d.fs)
 rs:w.ownsRow base 57 1 h.2 d.rs.length (u64s d.rs)
def RwO (w:World) (base:Nat) (l:List Nd) (hs:List (Value×Value)):Prop:= ∀(i:Nat) d h,l[i]? =some d→hs[i]? =some h→NdO w base d h
structure ApH (hs:List (Value×Value)):Prop where
 fs: ∀(i j:Nat) (h k:Value×Value),i<j→hs[i]? =some h→hs[j]? =some k→ ∀b,h.1.ownBlock=some b→ ¬k.1.ownBlock=some b
 rs: ∀(i j:Nat) (h k:Value×Value),i<j→hs[i]? =some h→hs[j]? =some k→ ∀b,h.2.ownBlock=some b→ ¬k.2.ownBlock=some b
section
variable {w w':World} {base base':Nat} {d:Nd} {h:Value×Value} {l:List Nd} {hs:List (Value×Value)} {F:Nat→Prop}
theorem NdO.only (H:NdO w base d h) (o:Only F w w') (h1: ∀k,h.1.ownBlock=some k→ ¬F k) (h2: ∀k,h.2.ownBlock=some k→ ¬F k):NdO w' base d h:=⟨Za H.fs o h1,Za H.rs o h2⟩
theorem NdO.nob (H:NdO w base d h) (o:Only nob w w'):NdO w' base d h:=H.only o (fun _ _=>id) fun _ _=>id
theorem RwO.nob (H:RwO w base l hs) (o:Only nob w w'):RwO w' base l hs:=fun i d h hd hh=>(H i d h hd hh).nob o
theorem NdO.rd (H:NdO w base d h):NdR w w.heap.size d h:=⟨Sl.of_own H.fs H.fs.1,Sl.of_own H.rs H.rs.1⟩
theorem RwO.snoc (H:RwO w base l hs) (e:hs.length=l.length) (H2:NdO w base d h):RwO w base (l++[d]) (hs++[h]):=by
 intro i d' h' hd hh;rcases Yq i l.length with hi|hi
 · rw[List.getElem?_append_left hi] at hd
   rw[List.getElem?_append_left (by omega)] at hh;exact H i d' h' hd hh
 · have hi2:i=l.length:=by
    have:=(Yk.1 hd).1
    simp at this;omega
   rw[hi2,List.getElem?_append_right (Yj _),Nat.sub_self] at hd;rw[hi2,List.getElem?_append_right (by omega),e,Nat.sub_self] at hh
   obtain rfl:d=d':=by simpa using hd
   obtain rfl:h=h':=by simpa using hh
   exact H2
theorem ApH.nil:ApH []:=⟨(fun _ _ _ _ _ h=>by simp at h),(fun _ _ _ _ _ h=>by simp at h)⟩
theorem ApH.snoc (H:ApH hs) {N:Nat} (h1: ∀(i:Nat) k,hs[i]? =some k→(∀b,k.1.ownBlock=some b→b<N)∧ ∀b,k.2.ownBlock=some b→b<N) (h2:(∀b,h.1.ownBlock=some b→N≤b)∧ ∀b,h.2.ownBlock=some b→N≤b):ApH (hs++[h]):=by
 have key: ∀(i j:Nat) (x y:Value×Value),i<j→(hs++[h])[i]? =some x→(hs++[h])[j]? =some y→(∃j,hs[i]? =some x∧i<j∧hs[j]? =some y)∨(hs[i]? =some x∧y=h):=by
  intro i j x y hij hx hy;have hj:=(Yk.1 hy).1;simp at hj;rw[List.getElem?_append_left (by omega)] at hx;rcases Yq j hs.length with h'|h'
  · rw[List.getElem?_append_left h'] at hy
    exact .inl ⟨j,hx,hij,hy⟩
  · rw[List.getElem?_append_right h',show j - hs.length=0 by omega] at hy
    exact .inr ⟨hx,by simpa using hy.symm⟩
 refine⟨fun i j x y hij hx hy b e1 e2=>?_,fun i j x y hij hx hy b e1 e2=>?_⟩
 · rcases key i j x y hij hx hy with⟨j',q1,q2,q3⟩|⟨q1,rfl⟩
   · exact H.fs i j' x y q2 q1 q3 b e1 e2
   · have:=(h1 i x q1).1 b e1;have:=h2.1 b e2;omega
 · rcases key i j x y hij hx hy with⟨j',q1,q2,q3⟩|⟨q1,rfl⟩
   · exact H.rs i j' x y q2 q1 q3 b e1 e2
   · have:=(h1 i x q1).2 b e1;have:=h2.2 b e2;omega
end
structure OwG (w:World) (base:Nat) (g:Gr) (vn vr:Value) (hs:List (Value×Value)):Prop where
 len:hs.length=g.nd.length
 nodes:w.ownsRow base 56 3 vn g.nd.length (ndc g.nd hs)
 rows:RwO w base g.nd hs
 apart:ApH hs
 roots:w.ownsRow base 59 2 vr g.rt.length (spc g.rt)
 far: ∀(i:Nat) h,hs[i]? =some h→ ∀b,h.1.ownBlock=some b→ ¬vr.ownBlock=some b
theorem OwG.nob {w w':World} {base:Nat} {g:Gr} {vn vr:Value} {hs:List (Value×Value)} (h:OwG w base g vn vr hs) (o:Only nob w w'):OwG w' base g vn vr hs:=
 ⟨h.len,Za h.nodes o (fun _ _=>id),h.rows.nob o,h.apart,Za h.roots o (fun _ _=>id),h.far⟩
theorem OwG.rd {w:World} {base:Nat} {g:Gr} {vn vr:Value} {hs:List (Value×Value)} (h:OwG w base g vn vr hs):RdG w w.heap.size g vn vr hs:=
 ⟨h.len,Sl.of_own h.nodes h.nodes.1,fun i d x hd hx=>(h.rows i d x hd hx).rd,Sl.of_own h.roots h.roots.1⟩
theorem OwG.heap {w w':World} {base:Nat} {g:Gr} {vn vr:Value} {hs:List (Value×Value)} (h:OwG w base g vn vr hs) (e:w'.heap=w.heap):OwG w' base g vn vr hs:=
 ⟨h.len,Zd4 h.nodes e,fun i d x hd hx=>⟨Zd4 (h.rows i d x hd hx).fs e,Zd4 (h.rows i d x hd hx).rs e⟩,h.apart,Zd4 h.roots e,h.far⟩
end
section
open Go.RowKit Go.Lib
theorem ZeF (w:World) (vn vr:Value): ∃V,((w.alloc (.cells #[vn,vr] 27)).alloc (.cells #[.slice none 0 0,.slice none 0 0] 27))=V∧Hid (Only nob w V∧Blk V w.heap.size 27 #[vn,vr]∧Blk V (w.heap.size+1) 27 #[.slice none 0 0,.slice none 0 0]):=
 ⟨_,rfl,ZZ ⟨((Only.refl nob w).alloc _).alloc _,(Blk.new w _ _).alloc _,Blk.newAt _ _ _ _ (by simp)⟩⟩
theorem Zl0 (g:Gr) (vn vr:Value) (hs:List (Value×Value)) (B:Nat) (w:World) (h:RdG w B g vn vr hs) (hB:B≤w.heap.size) (hn:g.nd.length≤1000) (hd: ∀d∈g.nd,d.fs.length * 16≤140737488355328∧d.rs.length * 8≤140737488355328) (hr:g.rt.length≤100000):
 Calls Tryz.prog 112 #[.agg #[vn,vr]] w fun e w'=> ∃un ur js,e=.returned (.agg #[un,ur])∧OwG w' w.heap.size g un ur js∧Only nob w w':=by
 obtain⟨i0,hi0,hz0,hz1,hz2⟩:=info_parts Zbz;have HR:=ZZ h;have HDB:=ZZ hd;obtain⟨A,c,rfl,hac,hcm⟩:=h.nodes.form;obtain⟨Ar,cr,rfl,harc,hcrm⟩:=h.roots.form;unfold maxLen at hcm hcrm;obtain⟨V,hV,HV⟩:=ZeF w (.slice A g.nd.length c) (.slice Ar g.rt.length cr);have HVE:=ZZ hV;obtain⟨cs,hcs,hmk⟩:=Zkk g.nd.length (by omega);have HCR:=ZZ (fun (w':World) (o:Only nob w w')=>ZdF (.slice Ar g.rt.length cr) g.rt B w' (HR.out.roots.below (o.below hB fun _ h=>h.elim)) (Yi hB o.size) (by omega));have v0:V.cell? ⟨w.heap.size,0,none⟩=some (.slice A g.nd.length c):=HV.out.2.1.cell 0;have v1:V.cell? ⟨w.heap.size,1,none⟩=some (.slice Ar g.rt.length cr):=HV.out.2.1.cell 1
 obtain⟨V2,hV2,oV2,HM0⟩: ∃V2,V.alloc (.cells cs 56)=V2∧Only nob V V2∧V2.ownsRow w.heap.size 56 3 (.slice (some ⟨V.heap.size,0,none⟩) 0 g.nd.length) 0 []:=
  ⟨_,rfl,(Only.refl nob V).alloc _,World.ownsRow_made V cs g.nd.length HV.out.1.size (by unfold maxLen;omega) hcs⟩
 have HV2:=ZZ hV2;have OV2:=ZZ (HV.out.1.trans oV2);have HM:=ZZ HM0;have u0:=oV2.keeps v0;have u1:=oV2.keeps v1;have HRB:=ZZ (HV.out.2.2.keep oV2 id);have HGB:=ZZ (HV.out.2.1.keep oV2 id);clear hV hV2 oV2 HM0 h hd
 go_enter Tryz.func112,Tryz.ntmps112
 go_upto_region 1 with fail
 rw[HVE.out]
 go_upto_region 2 with fail
 rw[HV2.out];clear v0 v1 hmk
 go_wp2_with fail
 clear u0 u1
 go_loopw [3,5,13] (fun out _ i wr=> ∃(k:Nat) (js:List (Value×Value)),k≤g.nd.length∧i=.int .i64 k∧Hid (js.length=(g.nd.take k).length)∧Hid (wr.ownsRow w.heap.size 56 3 out k (ndc (g.nd.take k) js))∧Hid (RwO wr w.heap.size (g.nd.take k) js)∧Hid (ApH js)∧Hid (Only nob w wr)∧Hid (Blk wr w.heap.size 27 #[.slice A g.nd.length c,.slice Ar g.rt.length cr])∧Hid (Blk wr (w.heap.size+1) 27 #[.slice none 0 0,.slice none 0 0])) (fun _ _ i _=>g.nd.length - (intOf i).toNat)
 case atStart=>exact⟨0,[],Yu _,rfl,ZZ rfl,HM,ZZ (fun i d h hd _=>by cases hd),ZZ ApH.nil,OV2,HGB,HRB⟩
 case round=>
  clear HRB HGB;obtain⟨k,js,hk,rfl,HJ,HRW,HRO,HAP,OW,HGB,HRB⟩:=hrel;obtain⟨Ax,cx,rfl,hcx,hmx⟩:=Zi HRW.out;unfold maxLen at hmx;by_cases hlt:k<g.nd.length
  · obtain⟨d,hd⟩: ∃x,g.nd[k]? =some x:=⟨_,Ya hlt⟩
    obtain⟨bb,o,fv,rv,rfl,hbb,hh,g0,g1,g2,hnd⟩:=HR.out.at_ (OW.out.below hB fun _ h=>h.elim) hd;obtain⟨Af,cf,hfv, -⟩:=hnd.fields.form;obtain⟨Ar2,cr2,hrv, -⟩:=hnd.raws.form;simp only at hfv hrv;subst hfv hrv;have HND:=ZZ hnd;have hbd:=HDB.out d (Yo hd);have HTK:=ZZ (show g.nd.take (k+1)=g.nd.take k++[d] by rw[List.take_add_one,hd];rfl);obtain⟨W2,hW2,HB2⟩:=Zax wr d.kd (.slice Af d.fs.length cf) (.slice Ar2 d.rs.length cr2);have HW2:=ZZ hW2;have hBr:B≤wr.heap.size:=Yi hB OW.out.size;have HCV:=ZZ (fun (w':World) (o:Only nob W2 w')=>ZdF (.slice Af d.fs.length cf) d.fs B w' (HND.out.fields.below ((HB2.out.1.trans o).below hBr fun _ h=>h.elim)) (Yi hBr (HB2.out.1.trans o).size) hbd.1);have HCW:=ZZ (fun (w':World) (o:Only nob W2 w')=>Zgm (.slice Ar2 d.rs.length cr2) d.rs B w' (HND.out.raws.below ((HB2.out.1.trans o).below hBr fun _ h=>h.elim)) (Yi hBr (HB2.out.1.trans o).size) hbd.2)
    obtain⟨kd,hkd⟩: ∃kd,kd=d.kd:=⟨_,rfl⟩
    have HKD:=ZZ hkd;rw[← hkd] at g0 HW2 HB2;obtain⟨-, -,d0,d1,d2⟩:=HB2.out;have hwr:w.heap.size≤wr.heap.size:=OW.out.size;have HQ2:=ZZ (Za HRW.out HB2.out.1 fun _ _=>id);have hp:wr.heap.size<W2.heap.size:=HB2.out.2.1.lt
    obtain⟨p,hpp⟩: ∃p,p=wr.heap.size:=⟨_,rfl⟩
    have HPP:=ZZ hpp;rw[← hpp] at d0 d1 d2 hp;have HFO:=ZZ (show ∀j,(Value.slice Ax k cx).ownBlock=some j→j≠p from fun j e=>by have:=(Zh HRW.out e).2;omega);have hw2:w.heap.size≤W2.heap.size:=Yi hwr HB2.out.1.size;clear hd hh hnd hkd hW2 hbd hpp
    go_upto_region 5 with fail
    rw[HW2.out, ← HPP.out];clear g0 g1 g2;have HS0:=ZZ (And.intro d0 (And.intro d1 d2))
    go_region_held3 (fun w'=>w'.cell? ⟨p,0,none⟩=some (.int .i64 kd)∧w'.cell? ⟨p,1,none⟩=some (.slice Af d.fs.length cf)∧w'.cell? ⟨p,2,none⟩=some (.slice Ar2 d.rs.length cr2))
     (first|(with_reducible exact C3.out)|(with_reducible exact C4.out)|(with_reducible exact C5.out)|(with_reducible exact C6.out)|go_keep)
     (first
       |(go_at_call 146;refine(HCV.out W2.drew (show Only nob W2 W2.drew from(Only.refl nob W2).drewN 1)).mono ?_;rintro e w3 ⟨v1,rfl,own1,o3⟩;obtain⟨A1,c1,rfl, -⟩:=Zi own1;have F1:=ZZ own1;have O3:=ZZ (Only.drewL o3);have C3:=ZZ (And.intro (O3.out.keeps d0) (And.intro (O3.out.keeps d1) (O3.out.keeps d2)));clear own1 o3)
       |(go_at_call 69;refine(HCW.out w3 O3.out).mono ?_;rintro e w4 ⟨v2,rfl,own2,o4⟩;obtain⟨A2,c2,rfl, -⟩:=Zi own2;have F2:=ZZ own2;have O4:=ZZ o4;have C4:=ZZ (And.intro (o4.keeps C3.out.1) (And.intro (o4.keeps C3.out.2.1) (o4.keeps C3.out.2.2)));have C5:=ZZ (And.intro (((Only.refl nob w4).alloc (.cells #[.int .i64 kd,.slice A1 d.fs.length c1,.slice A2 d.rs.length c2] 56)).keeps C4.out.1) (And.intro (((Only.refl nob w4).alloc (.cells #[.int .i64 kd,.slice A1 d.fs.length c1,.slice A2 d.rs.length c2] 56)).keeps C4.out.2.1) (((Only.refl nob w4).alloc (.cells #[.int .i64 kd,.slice A1 d.fs.length c1,.slice A2 d.rs.length c2] 56)).keeps C4.out.2.2)));clear own2 o4)
       |(refine Zcv _ (by rfl) _ _ _ (by rfl) w.heap.size 56 i0 _ 3 56 Tryz.underlying24 hi0 hz0 hz1 hz2 (by rfl) (by decide) (.slice Ax k cx) k (ndc (g.nd.take k) js) (by rfl) ((Za (Za (Za HQ2.out O3.out fun _ _=>id) O4.out fun _ _=>id) ((Only.refl nob w4).alloc (.cells #[.int .i64 kd,.slice A1 d.fs.length c1,.slice A2 d.rs.length c2] 56)) fun _ _=>id)) (w4.heap.size+1) (.slice (some ⟨w4.heap.size,0,none⟩) 1 1) 1 [.int .i64 kd,.slice A1 d.fs.length c1,.slice A2 d.rs.length c2] (by rfl) (Sl.of_blk (size:=3) (n:=1) (c:=1) (Blk.new w4 56 #[.int .i64 kd,.slice A1 d.fs.length c1,.slice A2 d.rs.length c2]) rfl (Yj _) (by decide)|>.more (by simp)) (by intro v hv;simp at hv;rcases hv with rfl|rfl|rfl <;> rfl) (by unfold maxLen;omega) (by omega) (by have:=O3.out.size;have:=O4.out.size;simp;omega) ?_;intro v5 w5 H5 q5 _;have C6:=ZZ (And.intro ((q5.cell (p:=⟨p,0,none⟩) (by have:=O3.out.size;have:=O4.out.size;show p<_;simp;omega) (fun e=>HFO.out _ e rfl)).trans C5.out.1) (And.intro ((q5.cell (p:=⟨p,1,none⟩) (by have:=O3.out.size;have:=O4.out.size;show p<_;simp;omega) (fun e=>HFO.out _ e rfl)).trans C5.out.2.1) ((q5.cell (p:=⟨p,2,none⟩) (by have:=O3.out.size;have:=O4.out.size;show p<_;simp;omega) (fun e=>HFO.out _ e rfl)).trans C5.out.2.2)))))
    have HN5:=ZZ (show NdO w4 w.heap.size d (.slice A1 d.fs.length c1,.slice A2 d.rs.length c2) from⟨Zaf (Za F1.out O4.out fun _ _=>id) (fun j e=>Yi hw2 (Zh F1.out e).1),Zaf F2.out (fun j e=>Yi (Yi hw2 O3.out.size) (Zh F2.out e).1)⟩);have HB4:=ZZ (show(∀j,(Value.slice A1 d.fs.length c1).ownBlock=some j→wr.heap.size≤j)∧ ∀j,(Value.slice A2 d.rs.length c2).ownBlock=some j→wr.heap.size≤j from⟨fun j e=>by have h1:W2.heap.size≤j:=(Zh F1.out e).1;have:=HPP.out;omega,fun j e=>by have h1:w3.heap.size≤j:=(Zh F2.out e).1;have:=HPP.out;have:=O3.out.size;omega⟩);have OR4:=ZZ (HB2.out.1.trans (O3.out.trans O4.out));have oA:=(Only.refl nob w4).alloc (.cells #[.int .i64 kd,.slice A1 d.fs.length c1,.slice A2 d.rs.length c2] 56);have hox:=Za (Za HRW.out OR4.out fun _ _=>id) oA fun _ _=>id
    have HRW5:=ZZ (show w5.ownsRow w.heap.size 56 3 v5 (k+1) (ndc (g.nd.take (k+1)) (js++[(.slice A1 d.fs.length c1,.slice A2 d.rs.length c2)])) by
     rw[HTK.out,Zeb _ _ _ _ HJ.out, ← HKD.out];exact H5.out)
    have HRO5:=ZZ (show RwO w5 w.heap.size (g.nd.take (k+1)) (js++[(.slice A1 d.fs.length c1,.slice A2 d.rs.length c2)]) by
     rw[HTK.out];have h4:=((HRO.out.nob OR4.out).snoc HJ.out HN5.out).nob oA;intro i d' h' hd' hh';have h6:=h4 i d' h' hd' hh'
     exact h6.only q5 (ZK h6.fs hox (by decide)) (ZK h6.rs hox (by decide)))
    have HAP5:=ZZ (HAP.out.snoc (h:=(.slice A1 d.fs.length c1,.slice A2 d.rs.length c2)) (N:=wr.heap.size) (fun i q hq=>by
     obtain⟨d',hd'⟩: ∃d',(g.nd.take k)[i]? =some d':=⟨_,Ya (by have:=(Yk.1 hq).1;rw[HJ.out] at this;exact this)⟩
     have h6:=HRO.out i d' q hd' hq
     exact⟨fun b e=>(Zh h6.fs e).2,fun b e=>(Zh h6.rs e).2⟩) HB4.out)
    have HJ5:=ZZ (show(js++[(Value.slice A1 d.fs.length c1,Value.slice A2 d.rs.length c2)]).length=(g.nd.take (k+1)).length by rw[HTK.out,Ys,Ys,HJ.out];rfl);have HO5:=ZZ (Zdn (OW.out.trans (OR4.out.trans oA)) hox q5 (Yj _));have HGB5:=ZZ ((HGB.out.keep (OR4.out.trans oA) id).keep q5 (blk_own_ne16 (HGB.out.keep (OR4.out.trans oA) id) hox (by decide)));have HRB5:=ZZ ((HRB.out.keep (OR4.out.trans oA) id).keep q5 (blk_own_ne16 (HRB.out.keep (OR4.out.trans oA) id) hox (by decide)));clear H5 q5 oA hox d0 d1 d2;go_wp2
    go_roundw
    case rel=>exact⟨k+1,_,by omega,by go_num,HJ5,HRW5,HRO5,HAP5,HO5,HGB5,HRB5⟩
    case measure=>simp[intOf];omega
  · obtain rfl:k=g.nd.length:=by omega
    have HE:=ZZ (show g.nd.take g.nd.length=g.nd from List.take_length);have u0:wr.cell? ⟨w.heap.size,0,none⟩=some (.slice A g.nd.length c):=HGB.out.cell 0;have u1:wr.cell? ⟨w.heap.size,1,none⟩=some (.slice Ar g.rt.length cr):=HGB.out.cell 1
    go_wp2_with fail
    go_at_call 146;refine(HCR.out wr OW.out).mono ?_;rintro e w3 ⟨v3,rfl,own3,o3⟩;obtain⟨A3,c3,rfl, -⟩:=Zi own3;have F3:=ZZ own3;have O3:=ZZ o3;have B3:=HRB.out.keep o3 id;have b0:w3.cell? ⟨w.heap.size+1,0,none⟩=some (.slice none 0 0):=B3.cell 0;have b1:w3.cell? ⟨w.heap.size+1,1,none⟩=some (.slice none 0 0):=B3.cell 1;have f0:=B3.free 0;have f1:=B3.free 1
    obtain⟨U,hU,oU,bU⟩: ∃U,((w3.setCell ⟨w.heap.size+1,0,none⟩ (.slice Ax g.nd.length cx)).setCell ⟨w.heap.size+1,1,none⟩ (.slice A3 g.rt.length c3))=U∧Only (isb (w.heap.size+1)) w3 U∧Blk U (w.heap.size+1) 27 #[.slice Ax g.nd.length cx,.slice A3 g.rt.length c3]:=
     ⟨_,rfl,(Zc _ _ _ _).trans (Zc _ _ _ _),by simpa using(B3.put 0 (.slice Ax g.nd.length cx)).put 1 (.slice A3 g.rt.length c3)⟩
    have HU:=ZZ hU;have OU:=ZZ oU;have BU:=ZZ bU;have HB3:=ZZ B3;clear own3 o3 B3 hU oU bU u0 u1;go_wp2;rw[HU.out];have r0:U.cell? ⟨w.heap.size+1,0,none⟩=some (.slice Ax g.nd.length cx):=BU.out.cell 0;have r1:U.cell? ⟨w.heap.size+1,1,none⟩=some (.slice A3 g.rt.length c3):=BU.out.cell 1;refine bodyPost_ret (v:=.agg #[.slice Ax g.nd.length cx,.slice A3 g.rt.length c3]) (by simp[results,Tryz.results112,go_sem,r0,r1]) rfl ?_;have hrw:=HRW.out;have hro:=HRO.out;have hj:=HJ.out;rw[HE.out] at hrw hro hj
    have hne: ∀{b E s n v x},w3.ownsRow b E s v n x→E≠27→ ∀k,v.ownBlock=some k→ ¬isb (w.heap.size+1) k:=fun hw hE k e e2=>by
     unfold isb at e2;subst e2;exact blk_own_ne16 HB3.out hw (fun e=>hE e.symm) e
    have hw3:=Za hrw O3.out fun _ _=>id;have hr3:=hro.nob O3.out;refine⟨_,_,js,rfl,⟨hj,Za hw3 OU.out (hne hw3 (by decide)),fun i d x hd hx=>(hr3 i d x hd hx).only OU.out (hne (hr3 i d x hd hx).fs (by decide)) (hne (hr3 i d x hd hx).rs (by decide)),HAP.out,Zaf (Za F3.out OU.out (hne F3.out (by decide))) (fun j e=>Yi OW.out.size (Zh F3.out e).1),fun i x hx b e1 e2=>?_⟩,?_⟩
    · obtain⟨d,hd⟩: ∃d,g.nd[i]? =some d:=⟨_,Ya (by have:=(Yk.1 hx).1;rw[hj] at this;exact this)⟩
      have h1:=(Zh (hro i d x hd hx).fs e1).2;have h2:=(Zh F3.out e2).1;omega
    · exact(OW.out.trans O3.out).andThen OU.out fun i hi e=>by unfold isb at e;omega
def hsP (hs:List (Value×Value)) (o:List Int):List (Value×Value):=o.map fun i=>hs.getD i.toNat (.slice none 0 0,.slice none 0 0)
theorem Zmc {g:Gr} {o:List Int} {k n:Nat} {d:Nd} (hk:o[k]? =some (n:Int)) (hd:g.nd[n]? =some d):Zai g (o.take (k+1))=Zai g (o.take k)++[d]:=by
 unfold Zai;rw[List.take_add_one,hk,List.map_append];simp[Yn,hd]
theorem Zqm {hs:List (Value×Value)} {o:List Int} {k n:Nat} {h:Value×Value} (hk:o[k]? =some (n:Int)) (hd:hs[n]? =some h):hsP hs (o.take (k+1))=hsP hs (o.take k)++[h]:=by
 unfold hsP;rw[List.take_add_one,hk,List.map_append];simp[Yn,hd]
theorem Zbp (g:Gr) (o:List Int):(Zai g o).length=o.length:=by simp[Zai]
theorem Zne (hs:List (Value×Value)) (o:List Int):(hsP hs o).length=o.length:=by simp[hsP]
theorem ZmC {w:World} {B:Nat} {g:Gr} {vn vr:Value} {hs:List (Value×Value)} (h:RdG w B g vn vr hs) {o:List Int} (ho: ∀x∈o,0≤x∧x<(g.nd.length:Int)) (i:Nat) (d:Nd) (x:Value×Value) (hd:(Zai g o)[i]? =some d) (hx:(hsP hs o)[i]? =some x):NdR w B d x:=by
 have hi:i<o.length:=by have:=(Yk.1 hd).1;rwa [Zbp] at this
 obtain⟨z,hz⟩: ∃z,o[i]? =some z:=⟨_,Ya hi⟩
 obtain⟨h0,h1⟩:=ho z (Yo hz)
 obtain⟨n,rfl⟩: ∃n:Nat,z=n:=⟨z.toNat,by omega⟩
 have hn:n<g.nd.length:=by omega
 unfold Zai at hd;unfold hsP at hx;rw[List.getElem?_map,hz] at hd hx;simp only[Option.map_some,Option.some.injEq,Int.toNat_natCast,Yn] at hd hx;rw[Ya hn,Option.getD_some] at hd;rw[Ya (by rw[h.len];exact hn),Option.getD_some] at hx;exact h.each n d x (by rw[Ya hn,hd]) (by rw[Ya (by rw[h.len];exact hn),hx])
theorem ZkL (g:Gr) (o:List Int) (vn vr v:Value) (hs:List (Value×Value)) (B:Nat) (w:World) (h:RdG w B g vn vr hs) (hv:Sl w B 1 v o.length (i64s o)) (hB:B≤w.heap.size) (hn:g.nd.length≤1000) (hl:o.length≤1000) (ho: ∀x∈o,0≤x∧x<(g.nd.length:Int)):
 Calls Tryz.prog 113 #[.agg #[vn,vr],v] w fun e w'=> ∃un,e=.returned (.agg #[un,vr])∧RdG w' w'.heap.size ⟨Zai g o,g.rt⟩ un vr (hsP hs o)∧Only nob w w':=by
 obtain⟨i0,hi0,hz0,hz1,hz2⟩:=info_parts Zbz;have HR:=ZZ h;have HV:=ZZ hv;have HOO:=ZZ ho;obtain⟨A,c,rfl,hac,hcm⟩:=h.nodes.form;obtain⟨Ar,cr,rfl,harc,hcrm⟩:=h.roots.form;obtain⟨Al,cl,rfl,hal,hcl⟩:=hv.form;unfold maxLen at hcm hcrm hcl;obtain⟨V,hV,HBX⟩:=ZeF w (.slice A g.nd.length c) (.slice Ar g.rt.length cr);have HVE:=ZZ hV;obtain⟨cs,hcs,hmk⟩:=Zkk o.length (by omega)
 obtain⟨V2,hV2,oV2,HM0⟩: ∃V2,V.alloc (.cells cs 56)=V2∧Only nob V V2∧V2.ownsRow w.heap.size 56 3 (.slice (some ⟨V.heap.size,0,none⟩) 0 o.length) 0 []:=
  ⟨_,rfl,(Only.refl nob V).alloc _,World.ownsRow_made V cs o.length HBX.out.1.size (by unfold maxLen;omega) hcs⟩
 have HV2:=ZZ hV2;have OV2:=ZZ (HBX.out.1.trans oV2);have HM:=ZZ HM0;have HRB:=ZZ (HBX.out.2.2.keep oV2 id);have HGB:=ZZ (HBX.out.2.1.keep oV2 id);clear hV hV2 oV2 HM0 h hv ho
 go_enter Tryz.func113,Tryz.ntmps113
 go_upto_region 1 with fail
 rw[HVE.out]
 go_upto_region 2 with fail
 rw[HV2.out];clear hmk
 go_wp2_with fail
 go_loopw [5,7,13] (fun out _ i wr=> ∃k:Nat,k≤o.length∧i=.int .i64 k∧Hid (wr.ownsRow w.heap.size 56 3 out k (ndc (Zai g (o.take k)) (hsP hs (o.take k))))∧Hid (Only nob w wr)∧Hid (Blk wr w.heap.size 27 #[.slice A g.nd.length c,.slice Ar g.rt.length cr])∧Hid (Blk wr (w.heap.size+1) 27 #[.slice none 0 0,.slice none 0 0])) (fun _ _ i _=>o.length - (intOf i).toNat)
 case atStart=>exact⟨0,Yu _,rfl,HM,OV2,HGB,HRB⟩
 case round=>
  clear HRB HGB;obtain⟨k,hk,rfl,HRW,OW,HGB,HRB⟩:=hrel;obtain⟨Ax,cx,rfl,hcx,hmx⟩:=Zi HRW.out;unfold maxLen at hmx;have u0:wr.cell? ⟨w.heap.size,0,none⟩=some (.slice A g.nd.length c):=HGB.out.cell 0;have u1:wr.cell? ⟨w.heap.size,1,none⟩=some (.slice Ar g.rt.length cr):=HGB.out.cell 1;by_cases hlt:k<o.length
  · obtain⟨z,hz⟩: ∃z,o[k]? =some z:=⟨_,Ya hlt⟩
    obtain⟨hz0',hz1'⟩:=HOO.out z (Yo hz)
    obtain⟨n,rfl⟩: ∃n:Nat,z=n:=⟨z.toNat,by omega⟩
    have hn:n<g.nd.length:=by omega
    obtain⟨b1,o1,rfl, -,e0⟩:=ZaO HV.out (OW.out.below hB fun _ h=>h.elim) hz
    obtain⟨d,hd⟩: ∃x,g.nd[n]? =some x:=⟨_,Ya hn⟩
    obtain⟨bb,oo,fv,rv,rfl,hbb,hh,g0,g1,g2,hnd⟩:=HR.out.at_ (OW.out.below hB fun _ h=>h.elim) hd;obtain⟨Af,cf,hfv, -⟩:=hnd.fields.form;obtain⟨Ar2,cr2,hrv, -⟩:=hnd.raws.form;simp only at hfv hrv;subst hfv hrv;have HTK:=ZZ (Zmc hz hd);have HTH:=ZZ (Zqm hz hh);have HLN:=ZZ (show(hsP hs (o.take k)).length=(Zai g (o.take k)).length by rw[Zbp,Zne])
    obtain⟨kd,hkd⟩: ∃kd,kd=d.kd:=⟨_,rfl⟩
    have HKD:=ZZ hkd;rw[← hkd] at g0;have hwr:w.heap.size≤wr.heap.size:=OW.out.size;clear hz hd hh hnd hkd hz0' hz1'
    go_wp2_with (with_reducible refine Zg (o:=⟨some 24,_,_,_,_,_⟩) _ rfl (.tmp 17) (.tmp 23) _ rfl w.heap.size 56 i0 _ 3 56 Tryz.underlying24 hi0 hz0 hz1 hz2 rfl (by decide) (.slice Ax k cx) k (ndc (Zai g (o.take k)) (hsP hs (o.take k))) rfl ?c1 (wr.heap.size+1) (.slice (some ⟨wr.heap.size,0,none⟩) 1 1) 1 [.int .i64 kd,.slice Af d.fs.length cf,.slice Ar2 d.rs.length cr2] rfl ?c6 (Zf5 _ _ _ _ _ _ _) ?c2 ?c3 ?c4 ?c5)
    case c1=>exact Za HRW.out ((Only.refl nob wr).alloc _) (fun _ _ h=>h)
    case c6=>exact(Sl.of_blk (size:=3) (n:=1) (c:=1) (Blk.new wr 56 #[.int .i64 kd,.slice Af d.fs.length cf,.slice Ar2 d.rs.length cr2]) rfl (Yj _) (by decide)).more (by simp)
    case c2=>unfold maxLen;omega
    case c3=>omega
    case c4=>simp;omega
    case c5=>
     intro v6 w6 H6 o6 _;have oA:=(Only.refl nob wr).alloc (.cells #[.int .i64 kd,.slice Af d.fs.length cf,.slice Ar2 d.rs.length cr2] 56);have hox:=Za HRW.out oA fun _ _=>id
     have HR6:=ZZ (show w6.ownsRow w.heap.size 56 3 v6 (k+1) (ndc (Zai g (o.take (k+1))) (hsP hs (o.take (k+1)))) by
      rw[HTK.out,HTH.out,Zeb _ _ _ _ HLN.out, ← HKD.out];exact H6.out)
     have O6:=ZZ (Zdn (OW.out.trans oA) hox o6 (Yj _));have HG6:=ZZ ((HGB.out.keep oA id).keep o6 (blk_own_ne16 (HGB.out.keep oA id) hox (by decide)));have HB6:=ZZ ((HRB.out.keep oA id).keep o6 (blk_own_ne16 (HRB.out.keep oA id) hox (by decide)));clear H6 o6 oA hox u0 u1 g0 g1 g2 e0;go_wp2
     go_roundw
     case rel=>exact⟨k+1,by omega,by go_num,HR6,O6,HG6,HB6⟩
     case measure=>simp[intOf];omega
  · obtain rfl:k=o.length:=by omega
    have HE:=ZZ (show o.take o.length=o from List.take_length);have b0:wr.cell? ⟨w.heap.size+1,0,none⟩=some (.slice none 0 0):=HRB.out.cell 0;have b1:wr.cell? ⟨w.heap.size+1,1,none⟩=some (.slice none 0 0):=HRB.out.cell 1;have f0:=HRB.out.free 0;have f1:=HRB.out.free 1
    obtain⟨U,hU,oU,bU⟩: ∃U,((wr.setCell ⟨w.heap.size+1,0,none⟩ (.slice Ax o.length cx)).setCell ⟨w.heap.size+1,1,none⟩ (.slice Ar g.rt.length cr))=U∧Only (isb (w.heap.size+1)) wr U∧Blk U (w.heap.size+1) 27 #[.slice Ax o.length cx,.slice Ar g.rt.length cr]:=
     ⟨_,rfl,(Zc _ _ _ _).trans (Zc _ _ _ _),by simpa using(HRB.out.put 0 (.slice Ax o.length cx)).put 1 (.slice Ar g.rt.length cr)⟩
    have HU:=ZZ hU;have OU:=ZZ oU;have BU:=ZZ bU;clear hU oU bU;go_wp2;rw[HU.out];have r0:U.cell? ⟨w.heap.size+1,0,none⟩=some (.slice Ax o.length cx):=BU.out.cell 0;have r1:U.cell? ⟨w.heap.size+1,1,none⟩=some (.slice Ar g.rt.length cr):=BU.out.cell 1;refine bodyPost_ret (v:=.agg #[.slice Ax o.length cx,.slice Ar g.rt.length cr]) (by simp[results,Tryz.results113,go_sem,r0,r1]) rfl ?_;have hrw:=HRW.out;rw[HE.out] at hrw
    have OF:=OW.out.andThen OU.out fun i hi e=>by unfold isb at e;omega
    have hrw2:=Za hrw OU.out (fun k e e2=>by unfold isb at e2;subst e2;exact blk_own_ne16 HRB.out hrw (by decide) e);have RF:=HR.out.only OF hB;have hsz:B≤U.heap.size:=Yi hB OF.size;refine⟨_,rfl,⟨by rw[Zne,Zbp],?_,fun i d x hd hx=>(ZmC RF HOO.out i d x hd hx).more hsz,RF.roots.more hsz⟩,OF⟩;simp only[Zbp];exact Sl.of_own hrw2 hrw2.1
def Zin (g:Gr) (p:Nat×Nat) (v:Sp):Gr:=
 if p.1<g.nd.length then⟨g.nd.modify p.1 fun d=>⟨d.kd,d.fs.set p.2 v,d.rs⟩,g.rt⟩ else⟨g.nd,g.rt.set p.2 v⟩
structure ShG (a b:Gr):Prop where
 len:b.nd.length=a.nd.length
 nd: ∀(i:Nat) d e,a.nd[i]? =some d→b.nd[i]? =some e→e.kd=d.kd∧e.rs=d.rs∧e.fs.length=d.fs.length
 rt:b.rt.length=a.rt.length
theorem ShG.refl (a:Gr):ShG a a:=⟨rfl,fun i d e h1 h2=>by rw[h1] at h2;obtain rfl:=Yp h2;exact⟨rfl,rfl,rfl⟩,rfl⟩
theorem ShG.trans {a b c:Gr} (h:ShG a b) (k:ShG b c):ShG a c:=⟨k.len.trans h.len,fun i d e h1 h2=>by
 obtain⟨x,hx⟩: ∃x,b.nd[i]? =some x:=⟨_,Ya (by rw[h.len];exact(Yk.1 h1).1)⟩
 obtain⟨p1,p2,p3⟩:=h.nd i d x h1 hx;obtain⟨q1,q2,q3⟩:=k.nd i x e hx h2
 exact⟨q1.trans p1,q2.trans p2,q3.trans p3⟩,k.rt.trans h.rt⟩
theorem ZcF {g:Gr} {i:Nat} (h:i<g.nd.length): ∃d,g.nd[i]? =some d∧(lsts g).getD i []=d.fs:=by
 obtain⟨d,hd⟩: ∃x,g.nd[i]? =some x:=⟨_,Ya h⟩
 exact⟨d,hd,ZiX hd⟩
theorem Zdv {g:Gr} {i:Nat} (h:g.nd.length<i):(lsts g).getD i []=[]:=by
 rw[Yn,List.getElem?_eq_none (by rw[ZgC];omega)];rfl
theorem ShG.lens {a b:Gr} (h:ShG a b) (i:Nat):((lsts b).getD i []).length=((lsts a).getD i []).length:=by
 rcases Nat.lt_trichotomy i a.nd.length with hi|hi|hi
 · obtain⟨d,hd,e1⟩:=ZcF hi
   obtain⟨e,he,e2⟩:=ZcF (g:=b) (i:=i) (by rw[h.len];exact hi);rw[e1,e2];exact(h.nd i d e hd he).2.2
 · subst hi
   have:=ZX b
   rw[h.len] at this;rw[this,ZX];exact h.rt
 · rw[Zdv hi,Zdv (by rw[h.len];exact hi)]
theorem Zd5 {l:List Nd} {i j:Nat} {f:Nd→Nd} {e d:Nd} (h:(l.modify i f)[j]? =some d) (he:l[j]? =some e):d=if i=j then f e else e:=by
 rw[List.getElem?_modify,he] at h;exact(Yp h).symm
theorem Zmd (g:Gr) (p:Nat×Nat) (v:Sp):ShG g (Zin g p v):=by
 unfold Zin
 split
 · refine⟨by simp,fun i d e h1 h2=>?_,rfl⟩
   rw[Zd5 h2 h1]
   split <;> simp
 · exact⟨rfl,fun i d e h1 h2=>by rw[h1] at h2;obtain rfl:=Yp h2;exact⟨rfl,rfl,rfl⟩,by simp⟩
theorem Zmj (g:Gr) (p:Nat×Nat) (v:Sp) (hp:p.1≤g.nd.length) (i:Nat):(lsts (Zin g p v)).getD i []=if i=p.1 then((lsts g).getD i []).set p.2 v else(lsts g).getD i []:=by
 have hlen:=(Zmd g p v).len;rcases Nat.lt_trichotomy i g.nd.length with hi|hi|hi
 · obtain⟨d,hd,e1⟩:=ZcF hi
   obtain⟨e,he,e2⟩:=ZcF (g:=Zin g p v) (i:=i) (by rw[hlen];exact hi);rw[e1,e2];unfold Zin at he
   split at he
   · rw[Zd5 he hd]
     by_cases h:p.1=i
     · rw[if_pos h,if_pos h.symm]
     · rw[if_neg h,if_neg (fun e=>h e.symm)]
   · rw[hd] at he
     obtain rfl:=Yp he;rw[if_neg (by omega)]
 · subst hi
   have h1:=ZX (Zin g p v);rw[hlen] at h1;rw[h1,ZX];unfold Zin
   split
   · rw[if_neg (by omega)]
   · rw[if_pos (by omega)]
 · rw[Zdv hi,Zdv (by rw[hlen];exact hi)]
   split <;> simp
theorem ZpT (g:Gr) (p:Nat×Nat) (v:Sp) (hp:p.1≤g.nd.length) (hp2:p.2<((lsts g).getD p.1 []).length) (q:Nat×Nat):Zan (Zin g p v) q=if q=p then v else Zan g q:=by
 unfold Zan;rw[Zmj g p v hp];by_cases h1:q.1=p.1
 · rw[if_pos h1]
   by_cases h2:q.2=p.2
   · rw[if_pos (Prod.ext h1 h2),h1,h2,Yn,List.getElem?_set_self hp2]
     rfl
   · rw[if_neg (fun e=>h2 (by rw[e])),Yn,List.getElem?_set_ne (fun e=>h2 e.symm), ← Yn]
 · rw[if_neg h1,if_neg (fun e=>h1 (by rw[e]))]
theorem ShG.eq {a b:Gr} (h:ShG a b) (hv: ∀p:Nat×Nat,p.2<((lsts a).getD p.1 []).length→Zan b p=Zan a p):b=a:=by
 have hl: ∀i,(lsts b).getD i []=(lsts a).getD i []:=by
  intro i;refine List.ext_getElem? fun k=>?_;rcases Yq k ((lsts a).getD i []).length with hk|hk
  · have:=hv (i,k) hk
    unfold Zan at this;simp only at this;rw[Yn,Yn (l:=(lsts a).getD i [])] at this;rw[Ya hk] at this ⊢;rw[Ya (by rw[h.lens];exact hk)] at this ⊢;simpa using this
  · rw[List.getElem?_eq_none hk,List.getElem?_eq_none (by rw[h.lens];exact hk)]
 have h1:b.nd=a.nd:=by
  refine List.ext_getElem? fun i=>?_;rcases Yq i a.nd.length with hi|hi
  · obtain⟨d,hd,e1⟩:=ZcF hi
    obtain⟨e,he,e2⟩:=ZcF (g:=b) (i:=i) (by rw[h.len];exact hi);have e3:=hl i;rw[e1,e2] at e3;obtain⟨q1,q2, -⟩:=h.nd i d e hd he;rw[hd,he]
    cases d;cases e
    simp only at q1 q2 e3;rw[q1,q2,e3]
  · rw[List.getElem?_eq_none hi,List.getElem?_eq_none (by rw[h.len];exact hi)]
 have h2:b.rt=a.rt:=by
  have:=hl a.nd.length
  rw[ZX] at this;have h3:=ZX b;rw[h.len] at h3;rw[← h3,this]
 cases a;cases b
 simp only at h1 h2;rw[h1,h2]
def VG (hs:List (Value×Value)) (vr:Value) (k:Nat):Prop:=(∃(i:Nat) (h:Value×Value),hs[i]? =some h∧h.1.ownBlock=some k)∨vr.ownBlock=some k
theorem ZcE: ∀(l:List Sp) (k:Nat) (y:Int),k<l.length→(spc l).set (k * 2+1) (.int .i64 y)=spc (l.set k ((l.getD k (0,0)).1,y))
 |[],k,y,h=>by simp at h
 |x::l,0,y,h=>by simp[spc]
 |x::l,k+1,y,h=>by
  have ih:=ZcE l k y (by simpa using h)
  have e:spc (x::l)=.int .i64 x.1::.int .i64 x.2::spc l:=by simp[spc]
  rw[e,show(k+1) * 2+1=(k * 2+1)+1+1 by omega,Yc,Yc,ih,Yc];simp[spc]
theorem OwG.put {w:World} {base:Nat} {g:Gr} {vn vr:Value} {hs:List (Value×Value)} (h:OwG w base g vn vr hs) (p:Nat×Nat) (hp:p.2<((lsts g).getD p.1 []).length) {bb oo:Nat} (had:adr (hdr hs vr p.1) p.2=some ⟨bb,oo,none⟩) (y:Int):
 OwG (w.setCell ⟨bb,oo+1,none⟩ (.int .i64 y)) base (Zin g p ((Zan g p).1,y)) vn vr hs∧VG hs vr bb∧(∃cs,Blk w bb 59 cs∧oo+1<cs.size)∧base≤bb:=by
 rcases Yq p.1 g.nd.length with hi|hi
 · obtain⟨d,hd,e1⟩:=ZcF hi
   obtain⟨x,hx⟩: ∃x,hs[p.1]? =some x:=⟨_,Ya (by rw[h.len];exact hi)⟩
   rw[e1] at hp;rw[ZnD hx] at had;have hN:=h.rows p.1 d x hd hx;obtain⟨b,c,e2, -⟩:=ZjC hN.fs (by omega)
   have hb:x.1.ownBlock=some b:=by rw[e2];rfl
   rw[e2] at had
   obtain⟨rfl,rfl⟩:b=bb∧0+p.2 * 2=oo:=by
    unfold adr at had;simpa using had
   rw[Nat.zero_add];have hS:=hN.fs;rw[e2] at hS;have hset:=Zab hS (p.2 * 2+1) (by omega) (.int .i64 y);rw[ZcE _ _ _ hp] at hset
   have hpv:(Zan g p).1=(d.fs.getD p.2 (0,0)).1:=by unfold Zan;rw[e1]
   have ho:=Zc w b (p.2 * 2+1) (.int .i64 y)
   have hsg:Zin g p ((Zan g p).1,y)=⟨g.nd.modify p.1 fun d=>⟨d.kd,d.fs.set p.2 ((Zan g p).1,y),d.rs⟩,g.rt⟩:=by unfold Zin;rw[if_pos hi]
   rw[hsg];refine⟨⟨by simpa using h.len,?_,fun i d' h' hd' hh'=>?_,h.apart,Za h.roots ho (fun k e1' e2'=>?_),h.far⟩,.inl ⟨p.1,x,hx,hb⟩,?_,?_⟩
   · simp only[List.length_modify]
     have hnd:ndc (g.nd.modify p.1 fun d=>⟨d.kd,d.fs.set p.2 ((Zan g p).1,y),d.rs⟩) hs=ndc g.nd hs:=by
      have key: ∀(l:List Nd) (hs:List (Value×Value)) (i:Nat) (f:Nd→Nd),(∀d,(f d).kd=d.kd)→ndc (l.modify i f) hs=ndc l hs:=by
       intro l
       induction l with
       |nil=>intro hs i f _;simp
       |cons a l ih=>
        intro hs i f hf
        cases i with
        |zero=>cases hs <;> simp[ndc,hf]
        |succ i=>
         cases hs with
         |nil=>simp[ndc]
         |cons b hs=>simp[ndc,ih hs i f hf]
      exact key _ _ _ _ fun _=>rfl
     rw[hnd]
     exact Za h.nodes ho fun k e1' e2'=>by
      unfold isb at e2';subst e2';exact ZK hN.fs h.nodes (by decide) _ hb e1'
   · by_cases hip:p.1=i
     · subst hip
       have hd':=Zd5 hd' hd;rw[if_pos rfl] at hd';rw[hx] at hh';obtain rfl:=Yp hh';rw[hd'];refine⟨?_,Za hN.rs ho fun k e1' e2'=>?_⟩
       · rw[e2]
         simp only[List.length_set];rw[hpv];exact hset
       · unfold isb at e2'
         subst e2';exact ZK hN.fs hN.rs (by decide) _ hb e1'
     · obtain⟨d2,hd2⟩: ∃d2,g.nd[i]? =some d2:=by
        exact⟨_,Ya (by have:=(Yk.1 hd').1;simpa using this)⟩
       have hd':=Zd5 hd' hd2;rw[if_neg hip] at hd';obtain rfl:=hd';have hM:=h.rows i _ h' hd2 hh';refine hM.only ho (fun k e1' e2'=>?_) (fun k e1' e2'=>?_)
       · unfold isb at e2'
         subst e2';rcases Yq p.1 i with hlt|hge
         · exact h.apart.fs p.1 i x h' hlt hx hh' _ hb e1'
         · exact h.apart.fs i p.1 h' x (by omega) hh' hx _ e1' hb
       · unfold isb at e2'
         subst e2';exact ZK hN.fs hM.rs (by decide) _ hb e1'
   · unfold isb at e2'
     subst e2';exact h.far p.1 x hx _ hb e1'
   · rcases hS.2 with⟨e, -⟩|⟨g2,cap,cur,e,_,hg,h3,h4,h5,_⟩
     · cases e
     · obtain⟨rfl,rfl⟩:b=g2∧c=cap:=by simpa using e
       exact⟨cur,hg,by omega⟩
   · exact(Zh hN.fs hb).1
 · have hi2:p.1=g.nd.length:=by
    rcases Yq g.nd.length p.1 with h'|h'
    · rw[Zdv h'] at hp;simp at hp
    · omega
   have hp':=hp;rw[hi2,ZX] at hp;rw[hi2, ← h.len,Zg0] at had;obtain⟨b,c,rfl, -⟩:=ZjC h.roots (by omega)
   obtain⟨rfl,rfl⟩:b=bb∧0+p.2 * 2=oo:=by
    unfold adr at had;simpa using had
   rw[Nat.zero_add];have hset:=Zab h.roots (p.2 * 2+1) (by omega) (.int .i64 y);rw[ZcE _ _ _ hp] at hset
   have hpv:(Zan g p).1=(g.rt.getD p.2 (0,0)).1:=by unfold Zan;rw[hi2,ZX]
   have ho:=Zc w b (p.2 * 2+1) (.int .i64 y)
   have hsg:Zin g p ((Zan g p).1,y)=⟨g.nd,g.rt.set p.2 ((Zan g p).1,y)⟩:=by unfold Zin;rw[if_neg (by omega)]
   rw[hsg];refine⟨⟨h.len,Za h.nodes ho fun k e1' e2'=>?_,fun i d' h' hd' hh'=>?_,h.apart,?_,h.far⟩,.inr rfl,?_,?_⟩
   · unfold isb at e2'
     subst e2';exact ZK h.roots h.nodes (by decide) _ rfl e1'
   · have hM:=h.rows i d' h' hd' hh'
     refine hM.only ho (fun k e1' e2'=>?_) (fun k e1' e2'=>?_)
     · unfold isb at e2'
       subst e2';exact h.far i h' hh' _ e1' rfl
     · unfold isb at e2'
       subst e2';exact ZK h.roots hM.rs (by decide) _ rfl e1'
   · simp only[List.length_set]
     rw[hpv];exact hset
   · rcases h.roots.2 with⟨e, -⟩|⟨g2,cap,cur,e,_,hg,h3,h4,h5,_⟩
     · cases e
     · obtain⟨rfl,rfl⟩:b=g2∧c=cap:=by simpa using e
       exact⟨cur,hg,by omega⟩
   · exact(Zh h.roots rfl).1
theorem ZaW {w:World} {base:Nat} {E:TypeId} {size n k:Nat} {v:Value} {xs:List Value} (h:w.ownsRow base E size v n xs) (e:v.ownBlock=some k): ∃cs,Blk w k E cs:=by
 rcases h.2 with⟨rfl, -⟩|⟨g,cap,cur,rfl,_,hg, -⟩
 · cases e
 · obtain rfl:g=k:=Yp e
   exact⟨cur,hg⟩
theorem OwG.vals {w:World} {base:Nat} {g:Gr} {vn vr:Value} {hs:List (Value×Value)} (h:OwG w base g vn vr hs) {k:Nat} (e:VG hs vr k): ∃cs,Blk w k 59 cs:=by
 rcases e with⟨i,x,hx,e⟩|e
 · obtain⟨d,hd⟩: ∃d,g.nd[i]? =some d:=⟨_,Ya (by rw[← h.len];exact(Yk.1 hx).1)⟩
   exact ZaW (h.rows i d x hd hx).fs e
 · exact ZaW h.roots e
theorem Zcc {w w':World} {base:Nat} {E:TypeId} {size n:Nat} {v:Value} {xs:List Value} {row:Option Nat} (h:w.ownsRow base E size v n xs) (hg:w.grownBy w' row) (hr: ∀r,row=some r→ ∃o:Obj,w.heap[r]? =some o∧o.isCells=false):w'.ownsRow base E size v n xs:=by
 refine⟨h.1,?_⟩
 rcases h.2 with h0|⟨g,cap,cur,rfl,hb,hg2,rest⟩
 · exact .inl h0
 · exact .inr ⟨g,cap,cur,rfl,hb,Zau (t:=E) hg2 hg hr,rest⟩
theorem OwG.kept {w w':World} {base:Nat} {g:Gr} {vn vr:Value} {hs:List (Value×Value)} {row:Option Nat} (h:OwG w base g vn vr hs) (hg:w.grownBy w' row) (hr: ∀r,row=some r→ ∃o:Obj,w.heap[r]? =some o∧o.isCells=false):OwG w' base g vn vr hs:=
 ⟨h.len,Zcc h.nodes hg hr,fun i d x hd hx=>⟨Zcc (h.rows i d x hd hx).fs hg hr,Zcc (h.rows i d x hd hx).rs hg hr⟩,h.apart,Zcc h.roots hg hr,h.far⟩
theorem OwG.other {w w':World} {base b:Nat} {t:TypeId} {cs:Array Value} {g:Gr} {vn vr:Value} {hs:List (Value×Value)} (h:OwG w base g vn vr hs) (hb:Blk w b t cs) (h1:t≠56) (h2:t≠59) (h3:t≠57) (o:Only (isb b) w w'):OwG w' base g vn vr hs:=by
 have hne: ∀{E s n v x},w.ownsRow base E s v n x→t≠E→ ∀k,v.ownBlock=some k→ ¬isb b k:=fun hw hE k e e2=>by
  unfold isb at e2;subst e2;exact blk_own_ne16 hb hw hE e
 exact⟨h.len,Za h.nodes o (hne h.nodes h1),fun i d x hd hx=>(h.rows i d x hd hx).only o (hne (h.rows i d x hd hx).fs h2) (hne (h.rows i d x hd hx).rs h3),h.apart,Za h.roots o (hne h.roots h2),h.far⟩
theorem OwG.apart2 {w w':World} {base:Nat} {F:Nat→Prop} {g:Gr} {vn vr:Value} {hs:List (Value×Value)} (h:OwG w base g vn vr hs) (o:Only F w w') (hF: ∀k,F k→ ∃t cs,Blk w k t cs∧t≠56∧t≠59∧t≠57):OwG w' base g vn vr hs:=by
 have h1: ∀{s n v x},w.ownsRow base 56 s v n x→ ∀k,v.ownBlock=some k→ ¬F k:=fun hw k e f=>by
  obtain⟨t,cs,hb,a,b,c⟩:=hF k f;exact blk_own_ne16 hb hw a e
 have h2: ∀{s n v x},w.ownsRow base 59 s v n x→ ∀k,v.ownBlock=some k→ ¬F k:=fun hw k e f=>by
  obtain⟨t,cs,hb,a,b,c⟩:=hF k f;exact blk_own_ne16 hb hw b e
 have h3: ∀{s n v x},w.ownsRow base 57 s v n x→ ∀k,v.ownBlock=some k→ ¬F k:=fun hw k e f=>by
  obtain⟨t,cs,hb,a,b,c⟩:=hF k f;exact blk_own_ne16 hb hw c e
 exact⟨h.len,Za h.nodes o (h1 h.nodes),fun i d x hd hx=>(h.rows i d x hd hx).only o (h2 (h.rows i d x hd hx).fs) (h3 (h.rows i d x hd hx).rs),h.apart,Za h.roots o (h2 h.roots),h.far⟩
theorem OwG.hd {w:World} {base n0:Nat} {V:Nat→Prop} {g:Gr} {vn vr:Value} {hs:List (Value×Value)} (h:OwG w base g vn vr hs) (hn:w.heap.size≤n0) (hV: ∀k,V k→(∃t cs,Blk w k t cs∧t≠56)):HdG V n0 w g vn vr hs:=
 ⟨h.len,(Sl.of_own h.nodes h.nodes.1).more hn,fun b o n c e _ hv=>by
   obtain⟨t,cs,hb,ht⟩:=hV b hv
   exact blk_own_ne16 hb h.nodes ht (by rw[e];rfl),fun i d x hd hx=>⟨(h.rd.each i d x hd hx).fields.rowF,(h.rd.each i d x hd hx).raws.rowF⟩,h.rd.roots.rowF⟩
def itT (o:List Int):Nat→Sp→Sp
 |0,v=>v
 |n+1,v=>Z9 o (itT o n v)
def Zb1 {g:Gr} (pre:List (Plc g)) (p:Nat×Nat):Nat:=(pre.map (·.1)).count p
theorem Zhp {g:Gr} (pre:List (Plc g)) (x:Plc g) (p:Nat×Nat):Zb1 (pre++[x]) p=Zb1 pre p+if x.1=p then 1 else 0:=by
 unfold Zb1;rw[List.map_append,List.count_append]
 congr 1
 simp[List.count_singleton]
theorem Zm0 {o:List Int} (ho:o.length≤1000) {v:Sp} (h:B64 v.2):B64 (Z9 o v).2:=by
 unfold Z9
 split
 · unfold B64
   simp only;by_cases hm:v.2∈o
   · obtain⟨k,e,hk⟩:=plc_at hm
     have:=(Yk.1 hk).1
     rw[e];omega
   · rw[Zg3 hm];omega
 · exact h
theorem Zoz {o:List Int} (ho:o.length≤1000) {v:Sp} (h:B64 v.2): ∀n,B64 (itT o n v).2
 |0=>h
 |n+1=>Zm0 ho (Zoz ho h n)
structure TurnI (g:Gr) (o:List Int) (pre:List (Plc g)) (cur:Gr):Prop where
 sh:ShG g cur
 val: ∀p:Nat×Nat,p.2<((lsts g).getD p.1 []).length→Zan cur p=itT o (Zb1 pre p) (Zan g p)
 ok: ∀p:Nat×Nat,p.2<((lsts g).getD p.1 []).length→ ∀j,j<Zb1 pre p→Zat o (itT o j (Zan g p))=true
theorem TurnI.nil (g:Gr) (o:List Int):TurnI g o [] g:=⟨ShG.refl g,fun _ _=>rfl,fun _ _ j h=>absurd h (Nat.not_lt_zero j)⟩
theorem TurnI.next {g cur cur':Gr} {o:List Int} {pre:List (Plc g)} (h:TurnI g o pre cur) (x:Plc g) (hs:ShG cur cur') (hb:Zat o (Zan cur x.1)=true) (hv: ∀q,Zan cur' q=if q=x.1 then Z9 o (Zan cur x.1) else Zan cur q):TurnI g o (pre++[x]) cur':=by
 refine⟨h.sh.trans hs,fun p hp=>?_,fun p hp j hj=>?_⟩
 · rw[hv,Zhp]
   by_cases e:p=x.1
   · subst e
     rw[if_pos rfl,if_pos rfl,h.val _ hp];rfl
   · rw[if_neg e,if_neg (fun e'=>e e'.symm),h.val p hp]
     rfl
 · rw[Zhp] at hj
   by_cases e:x.1=p
   · subst e
     rw[if_pos rfl] at hj;rcases Yq j (Zb1 pre x.1) with h'|h'
     · exact h.ok _ hp j h'
     · obtain rfl:j=Zb1 pre x.1:=by omega
       rw[← h.val _ hp];exact hb
   · rw[if_neg e] at hj
     exact h.ok p hp j hj
theorem TurnI.same {g cur:Gr} {o:List Int} {pre:List (Plc g)} (h:TurnI g o pre cur) (x:Plc g) (hk:(Zan cur x.1).1≠2):TurnI g o (pre++[x]) cur:=by
 have e:Z9 o (Zan cur x.1)=Zan cur x.1:=by unfold Z9;rw[if_neg hk]
 refine h.next x (ShG.refl _) (by unfold Zat;simp[hk]) fun q=>?_;rw[e];by_cases h':q=x.1
 · rw[if_pos h',h']
 · rw[if_neg h']
theorem TurnI.lt {g cur:Gr} {o:List Int} {pre:List (Plc g)} (h:TurnI g o pre cur) (x:Plc g):x.1.2<((lsts cur).getD x.1.1 []).length:=by rw[h.sh.lens];exact x.2
theorem Zq5 {g:Gr} {p:Nat×Nat} (hp:p.2<((lsts g).getD p.1 []).length):p.1≤g.nd.length:=by
 rcases Yq g.nd.length p.1 with h'|h'
 · rw[Zdv h'] at hp;simp at hp
 · exact h'
theorem TurnI.turn {g cur:Gr} {o:List Int} {pre:List (Plc g)} (h:TurnI g o pre cur) (x:Plc g) (hk:(Zan cur x.1).1=2) (hm:(Zan cur x.1).2∈o):TurnI g o (pre++[x]) (Zin cur x.1 ((Zan cur x.1).1,plc o (Zan cur x.1).2)):=by
 refine h.next x (Zmd _ _ _) (by unfold Zat;simp[hm]) fun q=>?_;rw[ZpT _ _ _ (Zq5 (h.lt x)) (h.lt x)]
 have e:Z9 o (Zan cur x.1)=((Zan cur x.1).1,plc o (Zan cur x.1).2):=by unfold Z9;rw[if_pos hk,hk]
 rw[e]
theorem ZsO {g:Gr} (hf:GrFit g) {p:Nat×Nat} (hp:p.2<((lsts g).getD p.1 []).length):B64 (Zan g p).2:=by
 obtain⟨l,hl,hv⟩:=Zgq g ⟨p,hp⟩;have hm:Zan g p∈l:=Yo hv;have hl2:l∈lsts g:=Yo hl;unfold lsts at hl2;rcases Yr.1 hl2 with h|h
 · obtain⟨d,hd,rfl⟩:=List.mem_map.1 h
   exact(hf.fs d hd _ hm).2
 · rw[Yt.1 h] at hm
   exact(hf.rt _ hm).2
theorem ZcD (g:Gr): ∀k,(Zcn g k).Nodup
 |0=>by simp[Zcn]
 |k+1=>by
  rw[ZaN,List.nodup_append];refine⟨ZcD g k,?_,fun a ha b hb e=>?_⟩
  · rw[List.Nodup,List.pairwise_map]
    exact List.Pairwise.imp (fun h e=>h (Prod.mk.inj e).2) List.nodup_range
  · subst e
    obtain⟨j, -,rfl⟩:=List.mem_map.1 hb;unfold Zcn at ha;simp only[List.mem_flatMap,List.mem_range,List.mem_map] at ha;obtain⟨i,hi,j', -,e⟩:=ha
    have:=(Prod.mk.inj e).1
    omega
theorem Zrj (g:Gr) (o:List Int):(g.nd.all (fun d=>ZmB o d.fs)&&ZmB o g.rt)=(Zk5 g).all (Zat o):=by
 unfold Zk5 lsts ZmB;rw[List.flatten_append,List.all_append]
 congr 1
 · induction g.nd with
   |nil=>rfl
   |cons d l ih=>simp[ih]
 · simp
theorem ZlX (g:Gr) (o:List Int) (i:Nat):(lsts ⟨g.nd.map (ndT o),ZO o g.rt⟩).getD i []=ZO o ((lsts g).getD i []):=by
 have e:lsts ⟨g.nd.map (ndT o),ZO o g.rt⟩=(lsts g).map (ZO o):=by
  unfold lsts;rw[List.map_append,List.map_map,List.map_map];rfl
 rw[e,Yn,List.getElem?_map,Yn]
 cases(lsts g)[i]? with
 |none=>rfl
 |some l=>rfl
theorem ZeU: ∀{l:List (Nat×Nat)} {p:Nat×Nat},l.Nodup→p∈l→l.count p=1
 |[],_,_,h=>by cases h
 |x::l,p,hn,hm=>by
  obtain⟨h1,h2⟩:=List.nodup_cons.1 hn;rw[List.count_cons];by_cases e:x=p
  · subst e
    rw[List.count_eq_zero.2 h1];simp
  · have hm':p∈l:=by
     rcases List.mem_cons.1 hm with h|h
     · exact absurd h.symm e
     · exact h
    rw[ZeU h2 hm'];simp[e]
theorem TurnI.done {g cur:Gr} {o:List Int} {ys:List (Plc g)} (h:TurnI g o ys cur) (hy:ys.map (·.1)=allP g):cur=⟨g.nd.map (ndT o),ZO o g.rt⟩∧(Zk5 g).all (Zat o)=true:=by
 have h1: ∀p:Nat×Nat,p.2<((lsts g).getD p.1 []).length→Zb1 ys p=1:=by
  intro p hp;unfold Zb1;rw[hy];exact ZeU (ZcD g _) (Zd6.2 ⟨by have:=Zq5 hp;omega,hp⟩)
 constructor
 · have hsh:ShG g ⟨g.nd.map (ndT o),ZO o g.rt⟩:=⟨by simp,fun i d e hd he=>by
    simp only[List.getElem?_map,hd,Option.map_some,Option.some.injEq] at he;rw[← he]
    exact⟨rfl,rfl,by simp[ndT,ZO]⟩,by simp[ZO]⟩
   have hsc:ShG ⟨g.nd.map (ndT o),ZO o g.rt⟩ cur:=⟨h.sh.len.trans hsh.len.symm,fun i d e hd he=>by
    obtain⟨x,hx⟩: ∃x,g.nd[i]? =some x:=⟨_,Ya (by have:=(Yk.1 hd).1;rw[hsh.len] at this;exact this)⟩
    obtain⟨p1,p2,p3⟩:=hsh.nd i x d hx hd;obtain⟨q1,q2,q3⟩:=h.sh.nd i x e hx he
    exact⟨q1.trans p1.symm,q2.trans p2.symm,q3.trans p3.symm⟩,h.sh.rt.trans hsh.rt.symm⟩
   refine hsc.eq fun p hp=>?_;rw[hsh.lens] at hp;rw[h.val p hp,h1 p hp];show Z9 o (Zan g p)=_;unfold Zan;rw[ZlX];unfold ZO;generalize (lsts g).getD p.1 []=l at hp;rw[Yn,Ya hp,Yn,List.getElem?_map,Ya hp];rfl
 · rw[List.all_eq_true]
   intro v hv;obtain⟨p,hp,rfl⟩:=Zrk hv
   have:=h.ok p (Zd6.1 hp).2 0 (by rw[h1 p (Zd6.1 hp).2];omega)
   exact this
theorem TurnI.stop {g cur:Gr} {o:List Int} {pre:List (Plc g)} {x:Plc g} (h:TurnI g o pre cur) (hp:(pre++[x]).map (·.1)<+:allP g) (hb:Zat o (Zan cur x.1)=false):(Zk5 g).all (Zat o)=false:=by
 have hn:((pre++[x]).map (·.1)).Nodup:=hp.sublist.nodup (ZcD g _)
 have hc:Zb1 pre x.1=0:=by
  unfold Zb1;rw[List.map_append,List.nodup_append] at hn;refine List.count_eq_zero.2 fun hm=>?_;exact hn.2.2 x.1 hm x.1 (by simp) rfl
 have hv:=h.val x.1 x.2;rw[hc] at hv;rw[hv] at hb;obtain⟨l,hl,hv2⟩:=Zgq g x;rw[List.all_eq_false];exact⟨Zan g x.1,List.mem_flatten.2 ⟨l,Yo hl,Yo hv2⟩,by rw[show itT o 0 (Zan g x.1)=Zan g x.1 from rfl] at hb;rw[hb];simp⟩
theorem ZsZ (g:Gr) (o:List Int):(ZA g=false∧rnE g o=4∧rnG g o=⟨[],[]⟩)∨(ZA g=true∧ZbF g.nd.length o=false∧rnE g o=1∧rnG g o=⟨[],[]⟩)∨
 (ZA g=true∧ZbF g.nd.length o=true∧((Zk5 ⟨Zai g o,g.rt⟩).all (Zat o)=false→rnE g o=2∧rnG g o=⟨[],[]⟩)∧((Zk5 ⟨Zai g o,g.rt⟩).all (Zat o)=true→rnE g o=0∧rnG g o=⟨(Zai g o).map (ndT o),ZO o g.rt⟩)):=by
 have hG: ∀n,rnE g o=n→n≠0→rnG g o=⟨[],[]⟩:=fun n h h0=>by unfold rnG;rw[if_neg (by rw[h];exact h0)]
 cases h1:ZA g with
 |false=>
  have:rnE g o=4:=by unfold rnE;rw[if_neg (by rw[h1];simp)]
  exact .inl ⟨rfl,this,hG _ this (by decide)⟩
 |true=>
  cases h2:ZbF g.nd.length o with
  |false=>
   have:rnE g o=1:=by unfold rnE;rw[if_pos h1,if_neg (by rw[h2];simp)]
   exact .inr (.inl ⟨rfl,rfl,this,hG _ this (by decide)⟩)
  |true=>
   refine .inr (.inr ⟨rfl,rfl,fun h=>?_,fun h=>?_⟩)
   · rw[← Zrj] at h
     have:rnE g o=2:=by unfold rnE;rw[if_pos h1,if_pos h2,if_neg (by simp only at h;rw[h];simp)]
     exact⟨this,hG _ this (by decide)⟩
   · rw[← Zrj] at h
     have:rnE g o=0:=by unfold rnE;rw[if_pos h1,if_pos h2,if_pos h]
     exact⟨this,by unfold rnG;rw[if_pos this]⟩
theorem ZeH (w:World):RdG w w.heap.size ⟨[],[]⟩ (.slice none 0 0) (.slice none 0 0) []:=⟨rfl,Sl.nil_,(fun i d h hd _=>by simp at hd),Sl.nil_⟩
theorem Zkc {g:Gr} (h:GrFit g) {o:List Int} (ho: ∀x∈o,0≤x∧x<(g.nd.length:Int)):GrFit ⟨Zai g o,g.rt⟩:=
 ⟨fun d hd=>h.kd d (ZcS ho hd),fun d hd=>h.fs d (ZcS ho hd),fun d hd=>h.rs d (ZcS ho hd),h.rt⟩
end
section
open Go.RowKit Go.Lib Go.Shelf
attribute [local go_sem] Oper.semAt_some
theorem Zih {m lp:Nat} {P:Program} {o:Oper} {a:Act} {w:World} {K:Act→World→Prop} {Q:Exit→Act→World→Prop} (hnd: ∀c,o.op≠.defer c) (h:o.wpIn Fence.wide m P a w K Q):o.wpIn (Fence.wide.inRound lp) m P a w K Q:=by
 unfold Oper.wpIn at *;refine⟨fun _ _=>trivial,?_⟩;have h:=h.2;rw[show(Fence.wide.inRound lp).round=some lp from rfl,Oper.semAt_some lp _ o hnd];rw[show Fence.wide.round=none from rfl,Oper.semAt_none] at h;generalize (execOp a.eval o).run P w=r at *
 cases r with
 |ok x w'=>cases x <;> exact h
 |halt x w'=>cases x <;> exact h
theorem Zbv {m lp:Nat} {P:Program} {md:Region.Mode} {ops:Array Oper} {Q:Exit→Act→World→Prop} (hnd: ∀(j:Nat) (o:Oper) c,ops[j]? =some o→o.op≠.defer c):
 ∀(f:Nat) (done:Array Bool) (a:Act) (w:World),wpAnyIn Fence.wide m P md ops Q f done a w→wpAnyIn (Fence.wide.inRound lp) m P md ops Q f done a w
 |0,_,_,_,h=>h
 |f+1,done,a,w,h=>by
  refine⟨h.1,fun i hi=>?_⟩;have h2:=h.2 i hi;unfold wpOpIn at *
  cases ho:ops[i]? with
  |none=>
   simp only[ho] at h2 ⊢;exact Zbv hnd f _ _ _ h2
  |some o=>
   simp only[ho] at h2 ⊢
   split
   · rename_i hw
     simp only[hw,if_true] at h2;exact Zih (fun c=>hnd i o c ho) (Oper.wpIn_mono (fun a' w' h'=>Zbv hnd f _ a' w' h') h2)
   · rename_i hw
     simp only[hw] at h2;exact⟨fun _ _=>trivial,Zbv hnd f _ _ _ h2.2⟩
theorem Zcy {m lp id:Nat} {P:Program} {l:List Oper} {Q:Exit→Act→World→Prop} {a:Act} {w:World} (hm:P.follows .mixedOrders=true) (hnd:(l.all fun o=>match o.op with|.defer _=>false|_=>true)=true)
 (h:wpAnyIn Fence.wide m P .any l.toArray Q l.toArray.size (Array.replicate l.toArray.size false) a w.drew):(Code.region id l.toArray true).wpIn (Fence.wide.inRound lp) m P Q a w:=by
 refine wpIn_region_any hm (Zbv (fun j o c ho e=>?_) _ _ _ _ h)
 have hmem:o∈l:=by
  rw[List.getElem?_toArray] at ho;exact Yo ho
 have:=List.all_eq_true.1 hnd o hmem
 rw[e] at this
 cases this
theorem Zn7 (w:World) (vn vr:Value): ∃V,(((w.alloc (.cells #[vn,vr] 27)).alloc (.cells #[.slice none 0 0,.slice none 0 0] 27)).alloc (.cells #[.int .i64 0] 35))=V∧Hid (Only nob w V∧Blk V w.heap.size 27 #[vn,vr]∧Blk V (w.heap.size+1) 27 #[.slice none 0 0,.slice none 0 0]∧Blk V (w.heap.size+1+1) 35 #[.int .i64 0]):=
 ⟨_,rfl,ZZ ⟨(((Only.refl nob w).alloc _).alloc _).alloc _,((Blk.new w _ _).alloc _).alloc _,(Blk.newAt _ _ _ _ (by simp)).alloc _,Blk.newAt _ _ _ _ (by simp)⟩⟩
theorem Zkn (w:World) (mv:Value) (b:Bool): ∃X W,((w.alloc (.cells #[.map none] 161)).alloc (.cells #[.bool false] 4))=X∧((X.setCell ⟨w.heap.size,0,none⟩ mv).setCell ⟨w.heap.size+1,0,none⟩ (.bool b))=W∧Hid (Only nob w W∧Blk X w.heap.size 161 #[.map none]∧Blk X (w.heap.size+1) 4 #[.bool false]∧Blk W w.heap.size 161 #[mv]∧Blk W (w.heap.size+1) 4 #[.bool b]):=by
 have h1:Blk ((w.alloc (.cells #[.map none] 161)).alloc (.cells #[.bool false] 4)) w.heap.size 161 #[.map none]:=(Blk.new w _ _).alloc _;have h2:Blk ((w.alloc (.cells #[.map none] 161)).alloc (.cells #[.bool false] 4)) (w.heap.size+1) 4 #[.bool false]:=Blk.newAt _ _ _ _ (by simp);refine⟨_,_,rfl,rfl,ZZ ⟨?_,h1,h2,?_,?_⟩⟩
 · exact((((Only.refl nob w).alloc _).alloc _).setCell (p:=⟨w.heap.size,0,none⟩) (fun h=>absurd h (Nat.lt_irrefl _)) _).setCell (p:=⟨w.heap.size+1,0,none⟩) (fun h=>absurd h (by show ¬w.heap.size+1<w.heap.size;omega)) _
 · simpa using(h1.put 0 mv).other (p:=⟨w.heap.size+1,0,none⟩) (by show w.heap.size+1≠w.heap.size;omega) (.bool b)
 · simpa using(h2.other (p:=⟨w.heap.size,0,none⟩) (by show w.heap.size≠w.heap.size+1;omega) mv).put 0 (.bool b)
theorem Zgt {W:World} {rb eb:Nat} (B1:Blk W rb 27 #[.slice none 0 0,.slice none 0 0]) (B2:Blk W eb 35 #[.int .i64 0]) (hne:rb≠eb) (vn vr:Value) (e:Int):
 ∃U,(((W.setCell ⟨rb,0,none⟩ vn).setCell ⟨rb,1,none⟩ vr).setCell ⟨eb,0,none⟩ (.int .i64 e))=U∧Only (fun k=>k=rb∨k=eb) W U∧Blk U rb 27 #[vn,vr]∧Blk U eb 35 #[.int .i64 e]:=by
 refine⟨_,rfl,?_,?_,?_⟩
 · exact(((Zc W rb 0 vn).mono fun _ _ e=>.inl e).trans ((Zc _ rb 1 vr).mono fun _ _ e=>.inl e)).trans ((Zc _ eb 0 _).mono fun _ _ e=>.inr e)
 · have:=(((B1.put 0 vn).put 1 vr).other (p:=⟨eb,0,none⟩) (fun e=>hne e.symm) (.int .i64 e))
   simpa using this
 · have:=(((B2.other (p:=⟨rb,0,none⟩) hne vn).other (p:=⟨rb,1,none⟩) hne vr).put 0 (.int .i64 e))
   simpa using this
theorem Zfo:ZuQ 72:=by
 intro g o vn vr v hs B w h hv hB hfit hn hrt hl hob;have HR:=ZZ h;have HV:=ZZ hv;have HFIT:=ZZ hfit;have HOB:=ZZ hob;have HW:=ZZ (ZsZ g o);obtain⟨A,c,rfl,hac,hcm⟩:=h.nodes.form;obtain⟨Ar,cr,rfl,harc,hcrm⟩:=h.roots.form;obtain⟨Al,cl,rfl,hal,hcl⟩:=hv.form;unfold maxLen at hcm hcrm hcl;obtain⟨V,hV,HVB⟩:=Zn7 w (.slice A g.nd.length c) (.slice Ar g.rt.length cr);have HVE:=ZZ hV;have HRG:=ZZ (ZcG g _ _ hs B V (HR.out.only HVB.out.1 hB) (Yi hB HVB.out.1.size) hfit);have v0:V.cell? ⟨w.heap.size,0,none⟩=some (.slice A g.nd.length c):=HVB.out.2.1.cell 0;have v1:V.cell? ⟨w.heap.size,1,none⟩=some (.slice Ar g.rt.length cr):=HVB.out.2.1.cell 1
 obtain⟨q,hq⟩: ∃q,q=rnE g o:=⟨_,rfl⟩
 obtain⟨G,hG⟩: ∃G,G=rnG g o:=⟨_,rfl⟩
 have HQ:=ZZ (And.intro hq hG);rw[← hq, ← hG];clear hV hq hG h hv hfit hob;refine(callsIn_wide (n:=3)).1 ?_;refine callsIn_of_wp_marks Tryz.func72 rfl trivial ?_ rfl;simp only[Tryz.ntmps72,List.size_toArray,List.length_cons,List.length_nil,Nat.reduceAdd,Nat.reduceSub,Array.replicate_succ,Array.replicate_zero,List.push_toArray,List.append_toArray,List.nil_append,List.cons_append]
 gi_wp2_with (with_reducible rw[HVE.out])
 refine⟨trivial,?_⟩
 gi_at_call 78
 refine(callsIn_wide.2 HRG.out).mono ?_
 cases hok:ZA g with
 |false=>
  have HE:=ZZ (show q=4∧G=⟨[],[]⟩ by
   rcases HW.out with⟨-,a,b⟩|⟨a, -⟩|⟨a, -⟩
   · exact⟨HQ.out.1.trans a,HQ.out.2.trans b⟩
   · rw[hok] at a;cases a
   · rw[hok] at a;cases a)
  clear hok;rintro e w1 ⟨rfl,o1⟩;have O1:=ZZ (HVB.out.1.trans o1);have B1:=HVB.out.2.2.1.keep o1 id;have B2:=HVB.out.2.2.2.keep o1 id;have b0:w1.cell? ⟨w.heap.size+1,0,none⟩=some (.slice none 0 0):=B1.cell 0;have b1:w1.cell? ⟨w.heap.size+1,1,none⟩=some (.slice none 0 0):=B1.cell 1;have e0:w1.cell? ⟨w.heap.size+1+1,0,none⟩=some (.int .i64 0):=B2.cell 0;have fb0:=B1.free 0;have fb1:=B1.free 1;have fe0:=B2.free 0;obtain⟨U,hU,oU,U1,U2⟩:=Zgt B1 B2 (by omega) (.slice none 0 0) (.slice none 0 0) 4;have HU:=ZZ hU;have OU:=ZZ (O1.out.andThen oU fun i hi e=>by omega);clear o1 B1 B2 hU oU v0 v1
  gi_wp2
  rw[HU.out];have r0:U.cell? ⟨w.heap.size+1,0,none⟩=some (.slice none 0 0):=U1.cell 0;have r1:U.cell? ⟨w.heap.size+1,1,none⟩=some (.slice none 0 0):=U1.cell 1;have s0:U.cell? ⟨w.heap.size+1+1,0,none⟩=some (.int .i64 4):=U2.cell 0;refine⟨.tuple #[.agg #[.slice none 0 0,.slice none 0 0],.int .i64 4],?_,.slice none 0 0,.slice none 0 0,[],by rw[HE.out.1],by rw[HE.out.2];exact ZeH _,OU.out⟩;simp[results,Tryz.results72,go_sem,r0,r1,s0]
 |true=>
  rintro e w1 ⟨rfl,o1⟩;have O1:=ZZ (HVB.out.1.trans o1);have u0:=o1.keeps v0;have u1:=o1.keeps v1;have HPL:=ZZ (Zhs o g.nd.length (.slice Al o.length cl) B w1 (HV.out.below (O1.out.below hB fun _ h=>h.elim)) (Yi hB O1.out.size) (by omega) hl HOB.out);have B1:=ZZ (HVB.out.2.2.1.keep o1 id);have B2:=ZZ (HVB.out.2.2.2.keep o1 id);clear o1 v0 v1
  gi_wp2_with fail
  refine⟨trivial,?_⟩
  gi_at_call 111
  refine(callsIn_wide.2 HPL.out).mono ?_
  cases hord:ZbF g.nd.length o with
  |false=>
   have HE:=ZZ (show q=1∧G=⟨[],[]⟩ by
    rcases HW.out with⟨a, -⟩|⟨-, -,a,b⟩|⟨-,a, -⟩
    · rw[hok] at a;cases a
    · exact⟨HQ.out.1.trans a,HQ.out.2.trans b⟩
    · rw[hord] at a;cases a)
   clear hok hord;rintro e w2 ⟨-,hno,o2⟩;obtain rfl:=hno rfl;obtain⟨X3,W3,hX3,hW3,HB3⟩:=Zkn w2 (.map none) false;have HX3:=ZZ hX3;have HW3:=ZZ hW3;have o4:=o2.trans HB3.out.1;have bk:=HB3.out.2.2.2.2;have x0:X3.cell? ⟨w2.heap.size,0,none⟩=some (.map none):=HB3.out.2.1.cell 0;have x1:X3.cell? ⟨w2.heap.size+1,0,none⟩=some (.bool false):=HB3.out.2.2.1.cell 0;have fx0:=HB3.out.2.1.free 0;have fx1:=HB3.out.2.2.1.free 0;have O3:=ZZ (O1.out.trans o4);have D1:=B1.out.keep o4 id;have D2:=B2.out.keep o4 id;have k0:W3.cell? ⟨w2.heap.size+1,0,none⟩=some (.bool false):=bk.cell 0;have b0:W3.cell? ⟨w.heap.size+1,0,none⟩=some (.slice none 0 0):=D1.cell 0;have b1:W3.cell? ⟨w.heap.size+1,1,none⟩=some (.slice none 0 0):=D1.cell 1;have e0:W3.cell? ⟨w.heap.size+1+1,0,none⟩=some (.int .i64 0):=D2.cell 0;have fb0:=D1.free 0;have fb1:=D1.free 1;have fe0:=D2.free 0;obtain⟨U,hU,oU,U1,U2⟩:=Zgt D1 D2 (by omega) (.slice none 0 0) (.slice none 0 0) 1;have HU:=ZZ hU;have OU:=ZZ (O3.out.andThen oU fun i hi e=>by omega);clear o2 o4 hX3 hW3 bk D1 D2 hU oU u0 u1 hno
   gi_wp2_with (first|(with_reducible rw[HX3.out])|(with_reducible rw[HW3.out]))
   rw[HU.out];have r0:U.cell? ⟨w.heap.size+1,0,none⟩=some (.slice none 0 0):=U1.cell 0;have r1:U.cell? ⟨w.heap.size+1,1,none⟩=some (.slice none 0 0):=U1.cell 1;have s0:U.cell? ⟨w.heap.size+1+1,0,none⟩=some (.int .i64 1):=U2.cell 0;refine⟨.tuple #[.agg #[.slice none 0 0,.slice none 0 0],.int .i64 1],?_,.slice none 0 0,.slice none 0 0,[],by rw[HE.out.1],by rw[HE.out.2];exact ZeH _,OU.out⟩;simp[results,Tryz.results72,go_sem,r0,r1,s0]
  |true=>
   have HE:=ZZ (show((Zk5 ⟨Zai g o,g.rt⟩).all (Zat o)=false→q=2∧G=⟨[],[]⟩)∧((Zk5 ⟨Zai g o,g.rt⟩).all (Zat o)=true→q=0∧G=⟨(Zai g o).map (ndT o),ZO o g.rt⟩) by
    rcases HW.out with⟨a, -⟩|⟨-,a, -⟩|⟨-, -,a,b⟩
    · rw[hok] at a;cases a
    · rw[hord] at a;cases a
    · exact⟨fun h=>⟨HQ.out.1.trans (a h).1,HQ.out.2.trans (a h).2⟩,fun h=>⟨HQ.out.1.trans (b h).1,HQ.out.2.trans (b h).2⟩⟩)
   have HGO:=ZZ (Zv.1 hok);have HOR:=ZZ (Zr.1 hord);clear hok hord;rintro e w2 ⟨hyes, -,o2⟩;obtain⟨mp,rfl,hmp,pm⟩:=hyes rfl;obtain⟨X3,W3,hX3,hW3,HB3⟩:=Zkn w2 (.map (some mp)) true;have HX3:=ZZ hX3;have HW3:=ZZ hW3;have o4:=o2.trans HB3.out.1;have O3:=ZZ (O1.out.trans o4);have PM3:=ZZ (pm.keep HB3.out.1 id);have D1:=ZZ (B1.out.keep o4 id);have D2:=ZZ (B2.out.keep o4 id);have y0:=o4.keeps u0;have y1:=o4.keeps u1;have bk:W3.cell? ⟨w2.heap.size+1,0,none⟩=some (.bool true):=HB3.out.2.2.2.2.cell 0;have x0:X3.cell? ⟨w2.heap.size,0,none⟩=some (.map none):=HB3.out.2.1.cell 0;have x1:X3.cell? ⟨w2.heap.size+1,0,none⟩=some (.bool false):=HB3.out.2.2.1.cell 0;have fx0:=HB3.out.2.1.free 0;have fx1:=HB3.out.2.2.1.free 0;have hw12:w1.heap.size≤w2.heap.size:=o2.size;have h13:w.heap.size≤w1.heap.size:=O1.out.size;have HPK:=ZZ (ZkL g o (.slice A g.nd.length c) (.slice Ar g.rt.length cr) (.slice Al o.length cl) hs B W3 (HR.out.only O3.out hB) (HV.out.below (O3.out.below hB fun _ h=>h.elim)) (Yi hB O3.out.size) (by omega) hl HOR.out.1)
   have hmpW:w.heap.size≤mp:=by omega
   clear o2 o4 hX3 hW3 u0 u1 hyes pm hmp
   gi_wp2_with (first|(with_reducible rw[HX3.out])|(with_reducible rw[HW3.out]))
   clear x0 x1 fx0 fx1;refine⟨trivial,?_⟩
   gi_at_call 113
   refine(callsIn_wide.2 HPK.out).mono ?_;rintro e w4 ⟨un,rfl,hr4,o4⟩;obtain⟨A4,c4,rfl, -⟩:=hr4.nodes.form
   have HCP:=ZZ (Zl0 ⟨Zai g o,g.rt⟩ _ _ _ w4.heap.size w4 hr4 (Yj _) (by simp only[Zbp];omega) (fun d hd=>by
    obtain⟨-,q1,q2, -⟩:=ZV.1 (HGO.out.1 d (ZcS HOR.out.1 hd))
    omega) (by simp only;omega))
   have O4:=ZZ (O3.out.trans o4);have P4:=ZZ (PM3.out.keep o4 id);have D41:=ZZ (D1.out.keep o4 id);have D42:=ZZ (D2.out.keep o4 id);have K41:=ZZ (HB3.out.2.2.2.1.keep o4 id);have K42:=ZZ (HB3.out.2.2.2.2.keep o4 id);clear o4 y0 y1 bk hr4
   gi_wp2_with fail
   refine⟨trivial,?_⟩
   gi_at_call 112
   refine(callsIn_wide.2 HCP.out).mono ?_;rintro e w5 ⟨un,ur,js,rfl,hw5,o5⟩;obtain⟨A5,c5,rfl, -⟩:=Zi hw5.nodes;obtain⟨A6,c6,rfl, -⟩:=Zi hw5.roots;have HG5:=ZZ hw5;simp only[Zbp] at HG5;have O5:=ZZ (O4.out.trans o5);have P5:=ZZ (P4.out.keep o5 id);have D51:=ZZ (D41.out.keep o5 id);have D52:=ZZ (D42.out.keep o5 id);have K51:=ZZ (K41.out.keep o5 id);have K52:=ZZ (K42.out.keep o5 id);have h45:w4.heap.size≤w5.heap.size:=o5.size;have h04:w.heap.size≤w4.heap.size:=O4.out.size;clear o5 hw5;simp only[Zbp]
   gi_wp2_with (refine⟨trivial,?_⟩;gi_at_call 114;refine(Zib _ _ _ _).mono ?_;rintro e w' ⟨rfl,rfl⟩)
   obtain⟨W0,hW0,o0,hz0,bm0,bB0⟩: ∃W0,((w5.alloc (.cells #[.slice A5 o.length c5,.slice A6 g.rt.length c6] 27)).alloc (.cells #[.slice A5 o.length c5,.slice A6 g.rt.length c6] 27))=W0∧Only nob w5 W0∧w5.heap.size+2≤W0.heap.size∧Blk W0 w5.heap.size 27 #[.slice A5 o.length c5,.slice A6 g.rt.length c6]∧Blk W0 (w5.heap.size+1) 27 #[.slice A5 o.length c5,.slice A6 g.rt.length c6]:=
    ⟨_,rfl,((Only.refl nob w5).alloc _).alloc _,by simp,(Blk.new w5 _ _).alloc _,Blk.newAt _ _ _ _ (by simp)⟩
   rw[hW0];have HG0:=ZZ (HG5.out.nob o0);have P0:=ZZ (P5.out.keep o0 id);have HRB0:=ZZ (D51.out.keep o0 id);have HEB0:=ZZ (D52.out.keep o0 id);have HPB0:=ZZ (K51.out.keep o0 id);have HOB0:=ZZ (K52.out.keep o0 id);have HMB0:=ZZ bm0;have OW0:=ZZ (O5.out.trans o0)
   have HVB2:=ZZ (show ∀k t cs,Blk W0 k t cs→t≠4→t≠59→ ¬(k=w2.heap.size+1∨VG js (.slice A6 g.rt.length c6) k) from fun k t cs hb h1 h2 h3=>by
    rcases h3 with rfl|h3
    · exact absurd rfl (hb.ne HOB0.out h1)
    · obtain⟨cs',h4⟩:=HG0.out.vals h3
      exact absurd rfl (hb.ne h4 h2))
   have HVM:=ZZ (show ¬(mp=w2.heap.size+1∨VG js (.slice A6 g.rt.length c6) mp) from fun h3=>by
    rcases h3 with h3|h3
    · exact P0.out.ne_blk HOB0.out h3.symm
    · obtain⟨cs',h4⟩:=HG0.out.vals h3
      exact P0.out.ne_blk h4 rfl)
   have HVC:=ZZ (show ∀k,(k=w2.heap.size+1∨VG js (.slice A6 g.rt.length c6) k)→ ∃t cs,Blk W0 k t cs∧t≠56 from fun k h3=>by
    rcases h3 with rfl|h3
    · exact⟨_,_,HOB0.out,by decide⟩
    · obtain⟨cs',h4⟩:=HG0.out.vals h3
      exact⟨_,_,h4,by decide⟩)
   have HVL:=ZZ (show ∀k,(k=w2.heap.size+1∨VG js (.slice A6 g.rt.length c6) k)→ ¬k<w.heap.size from fun k h3 hk=>by
    rcases h3 with rfl|⟨i,x,hx,e⟩|e
    · omega
    · obtain⟨d,hd⟩: ∃d,(Zai g o)[i]? =some d:=⟨_,Ya (by have:=(Yk.1 hx).1;rw[HG0.out.len] at this;exact this)⟩
      have:=(Zh (HG0.out.rows i d x hd hx).fs e).1
      omega
    · have:=(Zh HG0.out.roots e).1
      omega)
   have hh0:W0.cell? ⟨w5.heap.size+1,0,none⟩=some (.slice A5 o.length c5):=bB0.cell 0;have hh1:W0.cell? ⟨w5.heap.size+1,1,none⟩=some (.slice A6 g.rt.length c6):=bB0.cell 1;have hVBn:=HVB2.out _ _ _ bB0 (by decide) (by decide);clear hW0 o0 bm0 bB0
   refine wpIn_rangeFunc_ownH rfl (by decide) (gf:=147) (lb:=#[.pointer (some ⟨w5.heap.size+1,0,none⟩)]) rfl trivial (enters_of Tryz.func147 (by kernel_rfl) rfl)
    (Zkg (w5.heap.size+1) W0.heap.size (fun k=>k=w2.heap.size+1∨VG js (.slice A6 g.rt.length c6) k) ⟨Zai g o,g.rt⟩ (.slice A5 o.length c5) (.slice A6 g.rt.length c6) js W0 (by omega) hVBn hh0 hh1 (HG0.out.hd (Yj _) HVC.out) (Yj _)) KeepsV.trans (fun W l o o' h1 _ _ _=>KeepsV.putObj W l o' h1) (Below.refl _ _) (fun _=>rfl)
    (fun pre W=> ∃cur,TurnI ⟨Zai g o,g.rt⟩ o pre cur∧OwG W w4.heap.size cur (.slice A5 o.length c5) (.slice A6 g.rt.length c6) js∧Blk W (w2.heap.size+1) 4 #[.bool true]∧Only (fun k=>k=w2.heap.size+1∨VG js (.slice A6 g.rt.length c6) k) W0 W)
    (fun c pre W=>c=.ret∧(∃pre0 x cur,pre=pre0++[x]∧TurnI ⟨Zai g o,g.rt⟩ o pre0 cur∧Zat o (Zan cur x.1)=false)∧Blk W (w.heap.size+1) 27 #[.slice none 0 0,.slice none 0 0]∧Blk W (w.heap.size+1+1) 35 #[.int .i64 2]∧Only nob w W)
    ?hI ?hIx ⟨_,TurnI.nil _ _,HG0.out,HOB0.out,Only.refl _ _⟩
    (fun x a' W=>a'={tmps:=#[.agg #[.slice A g.nd.length c,.slice Ar g.rt.length cr],.slice Al o.length cl,.pointer (some ⟨w.heap.size,0,none⟩),undef,.pointer (some ⟨w.heap.size+1,0,none⟩),.pointer (some ⟨w.heap.size+1+1,0,none⟩),.pointer (some ⟨w2.heap.size,0,none⟩),.pointer (some ⟨w2.heap.size+1,0,none⟩),.pointer (some ⟨w5.heap.size,0,none⟩),.pointer (adr (hdr js (.slice A6 g.rt.length c6) x.1.1) x.1.2),.agg #[.slice A g.nd.length c,.slice Ar g.rt.length cr],.bool true,.bool false,undef,.tuple #[.map (some mp),.bool true],.slice Al o.length cl,.pointer (some ⟨w.heap.size,0,none⟩),.slice A g.nd.length c,.int .i64 g.nd.length,.tuple #[.map (some mp),.bool true],.map (some mp),.bool true,.bool true,.bool false,undef,.agg #[.slice A g.nd.length c,.slice Ar g.rt.length cr],.slice Al o.length cl,.agg #[.slice A4 o.length c4,.slice Ar g.rt.length cr],.agg #[.slice A5 o.length c5,.slice A6 g.rt.length c6],.agg #[.slice A5 o.length c5,.slice A6 g.rt.length c6],.func (.func 147) #[] #[.pointer (some ⟨w5.heap.size+1,0,none⟩)],.pointer (adr (hdr js (.slice A6 g.rt.length c6) x.1.1) x.1.2),undef,undef,undef,undef,undef,undef,undef,undef,undef,undef,undef,undef,undef,undef,undef,undef,undef,undef,undef,undef,undef],defers:=[]})
    (fun x a' _ X Y row hs hg hr=>hs)
    ?assign ?body ?done ?stop
   case hI=>
    rintro pre W W' row ⟨cur,h1,h2,h3,h4⟩ hg hr;exact⟨cur,h1,h2.kept hg fun r e=>(hr r e).2,Zau h3 hg fun r e=>(hr r e).2,ZaX h4 hg fun k e=>(hr k e).1⟩
   case hIx=>
    rintro c pre W W' row ⟨rfl,h1,h2,h3,h4⟩ hg hr;exact⟨rfl,h1,Zau h2 hg fun r e=>(hr r e).2,Zau h3 hg fun r e=>(hr r e).2,ZaX h4 hg fun k e=>Yi OW0.out.size (hr k e).1⟩
   case assign=>
    rintro lp pre x W K hI hK;dsimp only[ZqZ]
    gi_wp2
    exact hK _ _ ((KeepsOthers.refl _).from _) (KeepsV.refl _ _ _) hI rfl
   case body=>
    rintro lp pre x a' W hlp ⟨r,hr⟩ ⟨cur,hT,hG,hK,hO⟩ rfl hlt;have HT:=ZZ hT;have HG:=ZZ hG;have HK:=ZZ hK;have HO:=ZZ hO;have HP:=ZZ (P0.out.keep (F:=fun k=>k=w2.heap.size+1∨VG js (.slice A6 g.rt.length c6) k) hO HVM.out);have HPB:=ZZ (HPB0.out.keep (F:=fun k=>k=w2.heap.size+1∨VG js (.slice A6 g.rt.length c6) k) hO (HVB2.out _ _ _ HPB0.out (by decide) (by decide)));have HRB:=ZZ (HRB0.out.keep (F:=fun k=>k=w2.heap.size+1∨VG js (.slice A6 g.rt.length c6) k) hO (HVB2.out _ _ _ HRB0.out (by decide) (by decide)));have HEB:=ZZ (HEB0.out.keep (F:=fun k=>k=w2.heap.size+1∨VG js (.slice A6 g.rt.length c6) k) hO (HVB2.out _ _ _ HEB0.out (by decide) (by decide)));have HOW:=ZZ (OW0.out.andThen hO fun i hi e=>HVL.out i e hi);obtain⟨bb,oo,had,hbb,c0,c1⟩:=Zii hG.rd (Below.refl _ _) ⟨x.1,hT.lt x⟩;simp only at had c0 c1;have HAD:=ZZ had;rw[had]
    have HBX0:B64 (Zan cur x.1).2:=by rw[hT.val _ x.2];exact Zoz hl (ZsO (Zkc HFIT.out HOR.out.1) x.2) _
    obtain⟨vk,hvk⟩: ∃z,z=(Zan cur x.1).1:=⟨_,rfl⟩
    obtain⟨vx,hvx⟩: ∃z,z=(Zan cur x.1).2:=⟨_,rfl⟩
    rw[← hvk] at c0;rw[← hvx] at c1 HBX0;have HBX:=ZZ HBX0;have HXX:=ZZ hvx.symm;by_cases hk2:vk=2
    · have HX2:=ZZ (show(Zan cur x.1).1=2 from hvk.symm.trans hk2)
      have hbk:(vk !=2)=false:=by simpa using hk2
      clear hT hG hK hO had hbb HBX0 hvk hvx;by_cases hm:vx∈o
      · have hlk:=(HP.out.same (w':=W.drew) rfl).look vx HBX.out
        rw[if_pos hm,Ym hm] at hlk;obtain⟨hput,hvg,⟨cs0,hcs0,hoo⟩,hbb4⟩:=HG.out.put x.1 (HT.out.lt x) HAD.out (plc o vx)
        obtain⟨U1,hU1,oU1,GU1,KU1⟩: ∃U1,(W.setCell ⟨bb,oo+1,none⟩ (.int .i64 (plc o vx))).drew=U1∧Only (isb bb) W U1∧OwG U1 w4.heap.size (Zin cur x.1 ((Zan cur x.1).1,plc o vx)) (.slice A5 o.length c5) (.slice A6 g.rt.length c6) js∧Blk U1 (w2.heap.size+1) 4 #[.bool true]:=
         ⟨_,rfl,(Zc W bb (oo+1) _).drewN 1,hput.heap rfl,(HK.out.other (p:=⟨bb,oo+1,none⟩) (hcs0.ne HK.out (by decide)) _:Blk (W.setCell ⟨bb,oo+1,none⟩ _) _ _ _)⟩
        obtain⟨U2,hU2,oU2,KU2⟩: ∃U2,U1.setCell ⟨w2.heap.size+1,0,none⟩ (.bool true)=U2∧Only (isb (w2.heap.size+1)) U1 U2∧Blk U2 (w2.heap.size+1) 4 #[.bool true]:=
         ⟨_,rfl,Zc _ _ _ _,by simpa using KU1.put 0 (.bool true)⟩
        have HU1:=ZZ hU1;have HU2:=ZZ hU2;have fz1:W.drew.frozen? ⟨bb,oo+1,none⟩=false:=hcs0.free (oo+1);have d0:W.drew.cell? ⟨w2.heap.size,0,none⟩=some (.map (some mp)):=HPB.out.cell 0;have d1:W.drew.cell? ⟨bb,oo+1,none⟩=some (.int .i64 vx):=c1;have k1:U1.cell? ⟨w2.heap.size+1,0,none⟩=some (.bool true):=KU1.cell 0;have fk1:=KU1.free 0;have k2:U2.cell? ⟨w2.heap.size+1,0,none⟩=some (.bool true):=KU2.cell 0;have KO:=ZZ (show KeepsOthers W U2 from(show KeepsOthers W U1 from hU1▸((KeepsOthers.setCell _ _ _).trans (KeepsOthers.drew _))).trans (hU2▸KeepsOthers.setCell _ _ _));have OV:=ZZ (show Only (fun k=>k=w2.heap.size+1∨VG js (.slice A6 g.rt.length c6) k) W U2 from((oU1.mono fun k _ e=>.inr (by unfold isb at e;subst e;exact hvg)).trans (oU2.mono fun k _ e=>.inl e)));have GU2:=ZZ (GU1.other KU1 (by decide) (by decide) (by decide) oU2);have HTN:=ZZ (HT.out.turn x HX2.out (by rw[HXX.out];exact hm));have HK2:=ZZ KU2;clear hm hput hvg hcs0 hoo hbb4 hU1 oU1 GU1 KU1 hU2 oU2 KU2
        gi_wp2_with fail
        refine Zcy ZgI (by kernel_rfl) ?_;refine wpAnyIn_take (i:=0) (v:=?_) rfl rfl (by kernel_rfl) (by kernel_rfl) (by kernel_rfl) (fun _ _ _ h=>h) ⟨Or.inl ⟨by rfl,?_⟩,fun _=>rfl⟩ ?_;rotate_left
        · intro w;go_simp;first|done|with_reducible rfl
        try simp only[Act.put,Yb,Yd,Yc]
        refine wpAnyIn_take (i:=2) (v:=?_) rfl rfl (by kernel_rfl) (by kernel_rfl) (by kernel_rfl) (fun _ _ _ h=>h) ⟨Or.inl ⟨by rfl,?_⟩,fun _=>rfl⟩ ?_;rotate_left
        · intro w;go_simp;first|done|with_reducible rfl
        try simp only[Act.put,Yb,Yd,Yc]
        refine wpAnyIn_take (i:=3) (v:=?_) rfl rfl (by kernel_rfl) (by kernel_rfl) (by kernel_rfl) (fun _ _ _ h=>h) ⟨Or.inl ⟨by rfl,?_⟩,fun _=>rfl⟩ ?_;rotate_left
        · intro w;go_simp;first|done|with_reducible rfl
        try simp only[Act.put,Yb,Yd,Yc]
        refine wpAnyIn_take (i:=4) (v:=?_) rfl rfl (by kernel_rfl) (by kernel_rfl) (by kernel_rfl) (fun _ _ _ h=>h) ⟨Or.inl ⟨by rfl,?_⟩,fun _=>rfl⟩ ?_;rotate_left
        · intro w;go_simp;first|done|with_reducible rfl
        try simp only[Act.put,Yb,Yd,Yc]
        refine wpAnyIn_ready (rs:=[1,5]) (by kernel_rfl) (by simp) ?_;refine AllReadyIn.cons rfl (fun K hK=>?_) (AllReadyIn.cons rfl (fun K hK=>?_) AllReadyIn.nil)
        · go_simp
          refine hK _ _ ?_;clear hK K
          try simp only[Act.put,Yb,Yd,Yc]
          refine wpAnyIn_ready (rs:=[5]) (by kernel_rfl) (by simp) ?_;refine AllReadyIn.cons rfl (fun K hK=>?_) AllReadyIn.nil;go_simp;refine hK _ _ ?_;clear hK K
          try simp only[Act.put,Yb,Yd,Yc]
          refine wpAnyIn_ready (rs:=[6]) (by kernel_rfl) (by simp) ?_;refine AllReadyIn.cons rfl (fun K hK=>?_) AllReadyIn.nil;go_simp;refine hK _ _ ?_;clear hK K
          try simp only[Act.put,Yb,Yd,Yc]
          refine wpAnyIn_take (i:=7) (v:=?_) rfl rfl (by kernel_rfl) (by kernel_rfl) (by kernel_rfl) (fun _ _ _ h=>h) ⟨Or.inl ⟨by rfl,?_⟩,fun _=>rfl⟩ ?_;rotate_left
          · intro w;go_simp;first|done|with_reducible rfl
          try simp only[Act.put,Yb,Yd,Yc]
          refine wpAnyIn_take (i:=8) (v:=?_) rfl rfl (by kernel_rfl) (by kernel_rfl) (by kernel_rfl) (fun _ _ _ h=>h) ⟨Or.inl ⟨by rfl,?_⟩,fun _=>rfl⟩ ?_;rotate_left
          · intro w;go_simp;first|done|with_reducible rfl
          try simp only[Act.put,Yb,Yd,Yc]
          refine wpAnyIn_take (i:=9) (v:=?_) rfl rfl (by kernel_rfl) (by kernel_rfl) (by kernel_rfl) (fun _ _ _ h=>h) ⟨Or.inl ⟨by rfl,?_⟩,fun _=>rfl⟩ ?_;rotate_left
          · intro w;go_simp;first|done|with_reducible rfl
          try simp only[Act.put,Yb,Yd,Yc]
          refine wpAnyIn_take (i:=10) (v:=?_) rfl rfl (by kernel_rfl) (by kernel_rfl) (by kernel_rfl) (fun _ _ _ h=>h) ⟨Or.inl ⟨by rfl,?_⟩,fun _=>rfl⟩ ?_;rotate_left
          · intro w;go_simp;first|done|with_reducible rfl
          try simp only[Act.put,Yb,Yd,Yc]
          refine wpAnyIn_take (i:=11) (v:=?_) rfl rfl (by kernel_rfl) (by kernel_rfl) (by kernel_rfl) (fun _ _ _ h=>h) ⟨Or.inl ⟨by rfl,?_⟩,fun _=>rfl⟩ ?_;rotate_left
          · intro w;go_simp;first|done|with_reducible rfl
          try simp only[Act.put,Yb,Yd,Yc]
          refine wpAnyIn_ready (rs:=[12]) (by kernel_rfl) (by simp) ?_;refine AllReadyIn.cons rfl (fun K hK=>?_) AllReadyIn.nil;go_simp
          with_reducible rw[HU1.out]
          refine hK _ _ ?_;clear hK K
          try simp only[Act.put,Yb,Yd,Yc]
          refine wpAnyIn_ready (rs:=[13]) (by kernel_rfl) (by simp) ?_;refine AllReadyIn.cons rfl (fun K hK=>?_) AllReadyIn.nil;go_simp
          with_reducible rw[HU2.out]
          refine hK _ _ ?_;clear hK K
          try simp only[Act.put,Yb,Yd,Yc]
          refine wpAnyIn_done (by kernel_rfl) ?_ _;clear hlk fz1 d0 d1 k1 fk1
          gi_wp2
          exact⟨KO.out.from _,KeepsV.only OV.out (fun _ _ h=>h),_,HTN.out,by rw[HXX.out];exact GU2.out,HK2.out,HO.out.trans OV.out⟩
        · go_simp
          refine hK _ _ ?_;clear hK K
          try simp only[Act.put,Yb,Yd,Yc]
          refine wpAnyIn_ready (rs:=[1]) (by kernel_rfl) (by simp) ?_;refine AllReadyIn.cons rfl (fun K hK=>?_) AllReadyIn.nil;go_simp;refine hK _ _ ?_;clear hK K
          try simp only[Act.put,Yb,Yd,Yc]
          refine wpAnyIn_ready (rs:=[6]) (by kernel_rfl) (by simp) ?_;refine AllReadyIn.cons rfl (fun K hK=>?_) AllReadyIn.nil;go_simp;refine hK _ _ ?_;clear hK K
          try simp only[Act.put,Yb,Yd,Yc]
          refine wpAnyIn_take (i:=7) (v:=?_) rfl rfl (by kernel_rfl) (by kernel_rfl) (by kernel_rfl) (fun _ _ _ h=>h) ⟨Or.inl ⟨by rfl,?_⟩,fun _=>rfl⟩ ?_;rotate_left
          · intro w;go_simp;first|done|with_reducible rfl
          try simp only[Act.put,Yb,Yd,Yc]
          refine wpAnyIn_take (i:=8) (v:=?_) rfl rfl (by kernel_rfl) (by kernel_rfl) (by kernel_rfl) (fun _ _ _ h=>h) ⟨Or.inl ⟨by rfl,?_⟩,fun _=>rfl⟩ ?_;rotate_left
          · intro w;go_simp;first|done|with_reducible rfl
          try simp only[Act.put,Yb,Yd,Yc]
          refine wpAnyIn_take (i:=9) (v:=?_) rfl rfl (by kernel_rfl) (by kernel_rfl) (by kernel_rfl) (fun _ _ _ h=>h) ⟨Or.inl ⟨by rfl,?_⟩,fun _=>rfl⟩ ?_;rotate_left
          · intro w;go_simp;first|done|with_reducible rfl
          try simp only[Act.put,Yb,Yd,Yc]
          refine wpAnyIn_take (i:=10) (v:=?_) rfl rfl (by kernel_rfl) (by kernel_rfl) (by kernel_rfl) (fun _ _ _ h=>h) ⟨Or.inl ⟨by rfl,?_⟩,fun _=>rfl⟩ ?_;rotate_left
          · intro w;go_simp;first|done|with_reducible rfl
          try simp only[Act.put,Yb,Yd,Yc]
          refine wpAnyIn_take (i:=11) (v:=?_) rfl rfl (by kernel_rfl) (by kernel_rfl) (by kernel_rfl) (fun _ _ _ h=>h) ⟨Or.inl ⟨by rfl,?_⟩,fun _=>rfl⟩ ?_;rotate_left
          · intro w;go_simp;first|done|with_reducible rfl
          try simp only[Act.put,Yb,Yd,Yc]
          refine wpAnyIn_ready (rs:=[12]) (by kernel_rfl) (by simp) ?_;refine AllReadyIn.cons rfl (fun K hK=>?_) AllReadyIn.nil;go_simp
          with_reducible rw[HU1.out]
          refine hK _ _ ?_;clear hK K
          try simp only[Act.put,Yb,Yd,Yc]
          refine wpAnyIn_ready (rs:=[13]) (by kernel_rfl) (by simp) ?_;refine AllReadyIn.cons rfl (fun K hK=>?_) AllReadyIn.nil;go_simp
          with_reducible rw[HU2.out]
          refine hK _ _ ?_;clear hK K
          try simp only[Act.put,Yb,Yd,Yc]
          refine wpAnyIn_done (by kernel_rfl) ?_ _;clear hlk fz1 d0 d1 k1 fk1
          gi_wp2
          exact⟨KO.out.from _,KeepsV.only OV.out (fun _ _ h=>h),_,HTN.out,by rw[HXX.out];exact GU2.out,HK2.out,HO.out.trans OV.out⟩
      · have hlk:=(HP.out.same (w':=W.drew) rfl).look vx HBX.out
        rw[if_neg hm,Yl hm] at hlk;obtain⟨hput,hvg,⟨cs0,hcs0,hoo⟩,hbb4⟩:=HG.out.put x.1 (HT.out.lt x) HAD.out (0)
        obtain⟨U1,hU1,oU1,GU1,KU1⟩: ∃U1,(W.setCell ⟨bb,oo+1,none⟩ (.int .i64 (0))).drew=U1∧Only (isb bb) W U1∧OwG U1 w4.heap.size (Zin cur x.1 ((Zan cur x.1).1,0)) (.slice A5 o.length c5) (.slice A6 g.rt.length c6) js∧Blk U1 (w2.heap.size+1) 4 #[.bool true]:=
         ⟨_,rfl,(Zc W bb (oo+1) _).drewN 1,hput.heap rfl,(HK.out.other (p:=⟨bb,oo+1,none⟩) (hcs0.ne HK.out (by decide)) _:Blk (W.setCell ⟨bb,oo+1,none⟩ _) _ _ _)⟩
        obtain⟨U2,hU2,oU2,KU2⟩: ∃U2,U1.setCell ⟨w2.heap.size+1,0,none⟩ (.bool false)=U2∧Only (isb (w2.heap.size+1)) U1 U2∧Blk U2 (w2.heap.size+1) 4 #[.bool false]:=
         ⟨_,rfl,Zc _ _ _ _,by simpa using KU1.put 0 (.bool false)⟩
        have HU1:=ZZ hU1;have HU2:=ZZ hU2;have fz1:W.drew.frozen? ⟨bb,oo+1,none⟩=false:=hcs0.free (oo+1);have d0:W.drew.cell? ⟨w2.heap.size,0,none⟩=some (.map (some mp)):=HPB.out.cell 0;have d1:W.drew.cell? ⟨bb,oo+1,none⟩=some (.int .i64 vx):=c1;have k1:U1.cell? ⟨w2.heap.size+1,0,none⟩=some (.bool true):=KU1.cell 0;have fk1:=KU1.free 0;have k2:U2.cell? ⟨w2.heap.size+1,0,none⟩=some (.bool false):=KU2.cell 0;have KO:=ZZ (show KeepsOthers W U2 from(show KeepsOthers W U1 from hU1▸((KeepsOthers.setCell _ _ _).trans (KeepsOthers.drew _))).trans (hU2▸KeepsOthers.setCell _ _ _));have OV:=ZZ (show Only (fun k=>k=w2.heap.size+1∨VG js (.slice A6 g.rt.length c6) k) W U2 from((oU1.mono fun k _ e=>.inr (by unfold isb at e;subst e;exact hvg)).trans (oU2.mono fun k _ e=>.inl e)));have HNB:=ZZ (show Zat o (Zan cur x.1)=false by unfold Zat;rw[HX2.out,HXX.out];simp[hm]);have E1:=HRB.out.keep (F:=fun k=>k=w2.heap.size+1∨VG js (.slice A6 g.rt.length c6) k) OV.out (HVB2.out _ _ _ (HRB0.out) (by decide) (by decide));have E2:=HEB.out.keep (F:=fun k=>k=w2.heap.size+1∨VG js (.slice A6 g.rt.length c6) k) OV.out (HVB2.out _ _ _ (HEB0.out) (by decide) (by decide));obtain⟨U,hU,oU,UB1,UB2⟩:=Zgt E1 E2 (by omega) (.slice none 0 0) (.slice none 0 0) 2;have HU:=ZZ hU;have q0:U2.cell? ⟨w.heap.size+1,0,none⟩=some (.slice none 0 0):=E1.cell 0;have q1:U2.cell? ⟨w.heap.size+1,1,none⟩=some (.slice none 0 0):=E1.cell 1;have q2:U2.cell? ⟨w.heap.size+1+1,0,none⟩=some (.int .i64 0):=E2.cell 0;have fq0:=E1.free 0;have fq1:=E1.free 1;have fq2:=E2.free 0;have KO2:=ZZ (show KeepsOthers U2 U from hU▸(((KeepsOthers.setCell _ _ _).trans (KeepsOthers.setCell _ _ _)).trans (KeepsOthers.setCell _ _ _)));have OU:=ZZ ((HOW.out.andThen OV.out fun i hi e=>HVL.out i e hi).andThen oU fun i hi e=>by omega);have UB:=ZZ (And.intro UB1 UB2);clear hm hput hvg hcs0 hoo hbb4 hU1 oU1 GU1 KU1 hU2 oU2 KU2 E1 E2 hU oU UB1 UB2
        gi_wp2_with fail
        refine Zcy ZgI (by kernel_rfl) ?_;refine wpAnyIn_take (i:=0) (v:=?_) rfl rfl (by kernel_rfl) (by kernel_rfl) (by kernel_rfl) (fun _ _ _ h=>h) ⟨Or.inl ⟨by rfl,?_⟩,fun _=>rfl⟩ ?_;rotate_left
        · intro w;go_simp;first|done|with_reducible rfl
        try simp only[Act.put,Yb,Yd,Yc]
        refine wpAnyIn_take (i:=2) (v:=?_) rfl rfl (by kernel_rfl) (by kernel_rfl) (by kernel_rfl) (fun _ _ _ h=>h) ⟨Or.inl ⟨by rfl,?_⟩,fun _=>rfl⟩ ?_;rotate_left
        · intro w;go_simp;first|done|with_reducible rfl
        try simp only[Act.put,Yb,Yd,Yc]
        refine wpAnyIn_take (i:=3) (v:=?_) rfl rfl (by kernel_rfl) (by kernel_rfl) (by kernel_rfl) (fun _ _ _ h=>h) ⟨Or.inl ⟨by rfl,?_⟩,fun _=>rfl⟩ ?_;rotate_left
        · intro w;go_simp;first|done|with_reducible rfl
        try simp only[Act.put,Yb,Yd,Yc]
        refine wpAnyIn_take (i:=4) (v:=?_) rfl rfl (by kernel_rfl) (by kernel_rfl) (by kernel_rfl) (fun _ _ _ h=>h) ⟨Or.inl ⟨by rfl,?_⟩,fun _=>rfl⟩ ?_;rotate_left
        · intro w;go_simp;first|done|with_reducible rfl
        try simp only[Act.put,Yb,Yd,Yc]
        refine wpAnyIn_ready (rs:=[1,5]) (by kernel_rfl) (by simp) ?_;refine AllReadyIn.cons rfl (fun K hK=>?_) (AllReadyIn.cons rfl (fun K hK=>?_) AllReadyIn.nil)
        · go_simp
          refine hK _ _ ?_;clear hK K
          try simp only[Act.put,Yb,Yd,Yc]
          refine wpAnyIn_ready (rs:=[5]) (by kernel_rfl) (by simp) ?_;refine AllReadyIn.cons rfl (fun K hK=>?_) AllReadyIn.nil;go_simp;refine hK _ _ ?_;clear hK K
          try simp only[Act.put,Yb,Yd,Yc]
          refine wpAnyIn_ready (rs:=[6]) (by kernel_rfl) (by simp) ?_;refine AllReadyIn.cons rfl (fun K hK=>?_) AllReadyIn.nil;go_simp;refine hK _ _ ?_;clear hK K
          try simp only[Act.put,Yb,Yd,Yc]
          refine wpAnyIn_take (i:=7) (v:=?_) rfl rfl (by kernel_rfl) (by kernel_rfl) (by kernel_rfl) (fun _ _ _ h=>h) ⟨Or.inl ⟨by rfl,?_⟩,fun _=>rfl⟩ ?_;rotate_left
          · intro w;go_simp;first|done|with_reducible rfl
          try simp only[Act.put,Yb,Yd,Yc]
          refine wpAnyIn_take (i:=8) (v:=?_) rfl rfl (by kernel_rfl) (by kernel_rfl) (by kernel_rfl) (fun _ _ _ h=>h) ⟨Or.inl ⟨by rfl,?_⟩,fun _=>rfl⟩ ?_;rotate_left
          · intro w;go_simp;first|done|with_reducible rfl
          try simp only[Act.put,Yb,Yd,Yc]
          refine wpAnyIn_take (i:=9) (v:=?_) rfl rfl (by kernel_rfl) (by kernel_rfl) (by kernel_rfl) (fun _ _ _ h=>h) ⟨Or.inl ⟨by rfl,?_⟩,fun _=>rfl⟩ ?_;rotate_left
          · intro w;go_simp;first|done|with_reducible rfl
          try simp only[Act.put,Yb,Yd,Yc]
          refine wpAnyIn_take (i:=10) (v:=?_) rfl rfl (by kernel_rfl) (by kernel_rfl) (by kernel_rfl) (fun _ _ _ h=>h) ⟨Or.inl ⟨by rfl,?_⟩,fun _=>rfl⟩ ?_;rotate_left
          · intro w;go_simp;first|done|with_reducible rfl
          try simp only[Act.put,Yb,Yd,Yc]
          refine wpAnyIn_take (i:=11) (v:=?_) rfl rfl (by kernel_rfl) (by kernel_rfl) (by kernel_rfl) (fun _ _ _ h=>h) ⟨Or.inl ⟨by rfl,?_⟩,fun _=>rfl⟩ ?_;rotate_left
          · intro w;go_simp;first|done|with_reducible rfl
          try simp only[Act.put,Yb,Yd,Yc]
          refine wpAnyIn_ready (rs:=[12]) (by kernel_rfl) (by simp) ?_;refine AllReadyIn.cons rfl (fun K hK=>?_) AllReadyIn.nil;go_simp
          with_reducible rw[HU1.out]
          refine hK _ _ ?_;clear hK K
          try simp only[Act.put,Yb,Yd,Yc]
          refine wpAnyIn_ready (rs:=[13]) (by kernel_rfl) (by simp) ?_;refine AllReadyIn.cons rfl (fun K hK=>?_) AllReadyIn.nil;go_simp
          with_reducible rw[HU2.out]
          refine hK _ _ ?_;clear hK K
          try simp only[Act.put,Yb,Yd,Yc]
          refine wpAnyIn_done (by kernel_rfl) ?_ _;clear hlk fz1 d0 d1 k1 fk1
          gi_wp2
          with_reducible rw[HU.out]
          exact⟨(KO.out.trans KO2.out).from _,rfl,⟨pre,x,cur,rfl,HT.out,HNB.out⟩,UB.out.1,UB.out.2,OU.out⟩
        · go_simp
          refine hK _ _ ?_;clear hK K
          try simp only[Act.put,Yb,Yd,Yc]
          refine wpAnyIn_ready (rs:=[1]) (by kernel_rfl) (by simp) ?_;refine AllReadyIn.cons rfl (fun K hK=>?_) AllReadyIn.nil;go_simp;refine hK _ _ ?_;clear hK K
          try simp only[Act.put,Yb,Yd,Yc]
          refine wpAnyIn_ready (rs:=[6]) (by kernel_rfl) (by simp) ?_;refine AllReadyIn.cons rfl (fun K hK=>?_) AllReadyIn.nil;go_simp;refine hK _ _ ?_;clear hK K
          try simp only[Act.put,Yb,Yd,Yc]
          refine wpAnyIn_take (i:=7) (v:=?_) rfl rfl (by kernel_rfl) (by kernel_rfl) (by kernel_rfl) (fun _ _ _ h=>h) ⟨Or.inl ⟨by rfl,?_⟩,fun _=>rfl⟩ ?_;rotate_left
          · intro w;go_simp;first|done|with_reducible rfl
          try simp only[Act.put,Yb,Yd,Yc]
          refine wpAnyIn_take (i:=8) (v:=?_) rfl rfl (by kernel_rfl) (by kernel_rfl) (by kernel_rfl) (fun _ _ _ h=>h) ⟨Or.inl ⟨by rfl,?_⟩,fun _=>rfl⟩ ?_;rotate_left
          · intro w;go_simp;first|done|with_reducible rfl
          try simp only[Act.put,Yb,Yd,Yc]
          refine wpAnyIn_take (i:=9) (v:=?_) rfl rfl (by kernel_rfl) (by kernel_rfl) (by kernel_rfl) (fun _ _ _ h=>h) ⟨Or.inl ⟨by rfl,?_⟩,fun _=>rfl⟩ ?_;rotate_left
          · intro w;go_simp;first|done|with_reducible rfl
          try simp only[Act.put,Yb,Yd,Yc]
          refine wpAnyIn_take (i:=10) (v:=?_) rfl rfl (by kernel_rfl) (by kernel_rfl) (by kernel_rfl) (fun _ _ _ h=>h) ⟨Or.inl ⟨by rfl,?_⟩,fun _=>rfl⟩ ?_;rotate_left
          · intro w;go_simp;first|done|with_reducible rfl
          try simp only[Act.put,Yb,Yd,Yc]
          refine wpAnyIn_take (i:=11) (v:=?_) rfl rfl (by kernel_rfl) (by kernel_rfl) (by kernel_rfl) (fun _ _ _ h=>h) ⟨Or.inl ⟨by rfl,?_⟩,fun _=>rfl⟩ ?_;rotate_left
          · intro w;go_simp;first|done|with_reducible rfl
          try simp only[Act.put,Yb,Yd,Yc]
          refine wpAnyIn_ready (rs:=[12]) (by kernel_rfl) (by simp) ?_;refine AllReadyIn.cons rfl (fun K hK=>?_) AllReadyIn.nil;go_simp
          with_reducible rw[HU1.out]
          refine hK _ _ ?_;clear hK K
          try simp only[Act.put,Yb,Yd,Yc]
          refine wpAnyIn_ready (rs:=[13]) (by kernel_rfl) (by simp) ?_;refine AllReadyIn.cons rfl (fun K hK=>?_) AllReadyIn.nil;go_simp
          with_reducible rw[HU2.out]
          refine hK _ _ ?_;clear hK K
          try simp only[Act.put,Yb,Yd,Yc]
          refine wpAnyIn_done (by kernel_rfl) ?_ _;clear hlk fz1 d0 d1 k1 fk1
          gi_wp2
          with_reducible rw[HU.out]
          exact⟨(KO.out.trans KO2.out).from _,rfl,⟨pre,x,cur,rfl,HT.out,HNB.out⟩,UB.out.1,UB.out.2,OU.out⟩
    · have hbk:(vk !=2)=true:=by simpa using hk2
      have HTS:=ZZ (hT.same x (fun e=>hk2 (hvk.trans e)));clear hT hG hK hO had hbb HBX0 hvk hvx hk2
      gi_wp2
      exact⟨(KeepsOthers.refl _).from _,KeepsV.refl _ _ _,cur,HTS.out,HG.out,HK.out,HO.out⟩
   case done=>
    rintro D ys W hD hS ⟨cur,hT,hG,hK,hO⟩ hK2;obtain⟨hcur,hall⟩:=hT.done hS;have HN:=ZZ (HE.out.2 hall);have HGW:=ZZ hG;have HCU:=ZZ hcur;have E1:=HRB0.out.keep (F:=(fun k=>k=w2.heap.size+1∨VG js (.slice A6 g.rt.length c6) k)) hO (HVB2.out _ _ _ HRB0.out (by decide) (by decide));have E2:=HEB0.out.keep (F:=(fun k=>k=w2.heap.size+1∨VG js (.slice A6 g.rt.length c6) k)) hO (HVB2.out _ _ _ HEB0.out (by decide) (by decide));have E3:=HMB0.out.keep (F:=(fun k=>k=w2.heap.size+1∨VG js (.slice A6 g.rt.length c6) k)) hO (HVB2.out _ _ _ HMB0.out (by decide) (by decide));obtain⟨U,hU,oU,UB1,UB2⟩:=Zgt E1 E2 (by omega) (.slice A5 o.length c5) (.slice A6 g.rt.length c6) 0;have HU:=ZZ hU;have m0:W.cell? ⟨w5.heap.size,0,none⟩=some (.slice A5 o.length c5):=E3.cell 0;have m1:W.cell? ⟨w5.heap.size,1,none⟩=some (.slice A6 g.rt.length c6):=E3.cell 1;have q0:W.cell? ⟨w.heap.size+1,0,none⟩=some (.slice none 0 0):=E1.cell 0;have q1:W.cell? ⟨w.heap.size+1,1,none⟩=some (.slice none 0 0):=E1.cell 1;have q2:W.cell? ⟨w.heap.size+1+1,0,none⟩=some (.int .i64 0):=E2.cell 0;have fq0:=E1.free 0;have fq1:=E1.free 1;have fq2:=E2.free 0;have KO2:=ZZ (show KeepsOthers W U from hU▸(((KeepsOthers.setCell _ _ _).trans (KeepsOthers.setCell _ _ _)).trans (KeepsOthers.setCell _ _ _)));have OU:=ZZ ((OW0.out.andThen hO fun i hi e=>HVL.out i e hi).andThen oU fun i hi e=>by omega)
    have GU:=ZZ (hG.apart2 oU fun k e=>by
     rcases e with rfl|rfl
     · exact⟨_,_,E1,by decide,by decide,by decide⟩
     · exact⟨_,_,E2,by decide,by decide,by decide⟩)
    have UB:=ZZ (And.intro UB1 UB2);have HKD:=ZZ hK2;have hD0:w.heap.size≤D:=Yi OW0.out.size hD;clear hT hG hK hO hK2 hcur hall E1 E2 E3 hU oU UB1 UB2 hS
    gi_wp2
    with_reducible rw[HU.out]
    have hK':=KO2.out.same D _ HKD.out rfl;refine⟨by simp,.inl ⟨_,_,rfl,run_takeDeferred hK',?_⟩⟩;have p1:=Zak UB.out.1 (.deferred none) hK' rfl;have p2:=Zak UB.out.2 (.deferred none) hK' rfl;have z0:=p1.cell 0;have z1:=p1.cell 1;have z2:=p2.cell 0;simp at z0 z1 z2;refine⟨.tuple #[.agg #[.slice A5 o.length c5,.slice A6 g.rt.length c6],.int .i64 0],?_,.slice A5 o.length c5,.slice A6 g.rt.length c6,by rw[HN.out.1],⟨js,?_⟩,Za5 OU.out.whole hD0 hK'⟩
    · simp[results,Tryz.results72,go_sem,z0,z1,z2]
    · have hg:=GU.out.kept (grownBy_putObj' U D (.deferred none)) (fun r e=>by cases e;exact⟨_,hK',rfl⟩)
      rw[HN.out.2, ← HCU.out];exact hg.rd
   case stop=>
    rintro D c' pre W hD hpre ⟨rfl,⟨pre0,x,cur,rfl,hT,hb⟩,h1,h2,h3⟩ hK;have HN:=ZZ (HE.out.1 (hT.stop hpre hb));have HB1:=ZZ h1;have HB2:=ZZ h2;have HO3:=ZZ h3;have HKD:=ZZ hK;have hD0:w.heap.size≤D:=Yi OW0.out.size hD;clear hT hb h1 h2 h3 hK hpre
    gi_wp2
    have hK':=HKD.out;refine⟨by simp,.inl ⟨_,_,rfl,run_takeDeferred hK',?_⟩⟩;have p1:=Zak HB1.out (.deferred none) hK' rfl;have p2:=Zak HB2.out (.deferred none) hK' rfl;have z0:=p1.cell 0;have z1:=p1.cell 1;have z2:=p2.cell 0;simp at z0 z1 z2;refine⟨.tuple #[.agg #[.slice none 0 0,.slice none 0 0],.int .i64 2],?_,.slice none 0 0,.slice none 0 0,[],by rw[HN.out.1],by rw[HN.out.2];exact ZeH _,Za5 HO3.out.whole hD0 hK'⟩;simp[results,Tryz.results72,go_sem,z0,z1,z2]
end
section
open Go.RowKit Go.Lib
theorem Zga (l:List Nat) (k y:Nat):(u64s l).set k (.int .u64 (y:Nat))=u64s (l.set k y):=by
 unfold u64s;rw[List.map_set]
structure SzG (a b:Gr):Prop where
 len:b.nd.length=a.nd.length
 nd: ∀(i:Nat) d e,a.nd[i]? =some d→b.nd[i]? =some e→e.fs.length=d.fs.length∧e.rs.length=d.rs.length
theorem SzG.refl (a:Gr):SzG a a:=⟨rfl,fun i d e h1 h2=>by rw[h1] at h2;obtain rfl:=Yp h2;exact⟨rfl,rfl⟩⟩
theorem SzG.trans {a b c:Gr} (h:SzG a b) (k:SzG b c):SzG a c:=⟨k.len.trans h.len,fun i d e h1 h2=>by
 obtain⟨x,hx⟩: ∃x,b.nd[i]? =some x:=⟨_,Ya (by rw[h.len];exact(Yk.1 h1).1)⟩
 obtain⟨p1,p2⟩:=h.nd i d x h1 hx;obtain⟨q1,q2⟩:=k.nd i x e hx h2
 exact⟨q1.trans p1,q2.trans p2⟩⟩
def FB (hs:List (Value×Value)) (k:Nat):Prop:= ∃(i:Nat) (h:Value×Value),hs[i]? =some h∧(h.1.ownBlock=some k∨h.2.ownBlock=some k)
def Ch (w0:World) (base:Nat) (g:Gr) (vn vr:Value) (hs:List (Value×Value)) (W:World):Prop:= ∃c,OwG W base c vn vr hs∧SzG g c∧Only (FB hs) w0 W
section
variable {w0 W:World} {base:Nat} {g:Gr} {vn vr:Value} {hs:List (Value×Value)}
theorem Ch.refl (h:OwG W base g vn vr hs):Ch W base g vn vr hs W:=⟨g,h,SzG.refl g,Only.refl _ _⟩
theorem Ch.below (H:Ch w0 base g vn vr hs W) (h0:OwG w0 base g vn vr hs) (hb:base≤w0.heap.size):Only (fun k=>base≤k) w0 W:=by
 obtain⟨c,_,_,o⟩:=H
 exact o.mono fun k _ hk=>by
  obtain⟨i,x,hx,e⟩:=hk
  obtain⟨d,hd⟩: ∃d,g.nd[i]? =some d:=⟨_,Ya (by rw[← h0.len];exact(Yk.1 hx).1)⟩
  rcases e with e|e
  · exact(Zh (h0.rows i d x hd hx).fs e).1
  · exact(Zh (h0.rows i d x hd hx).rs e).1
end
end
end Go.Proofs.YtknoncenblehkaaGreatDoor
