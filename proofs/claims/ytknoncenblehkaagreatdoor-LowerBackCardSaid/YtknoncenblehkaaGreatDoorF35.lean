/- slices.Repeat of one number: a row of that number, so many t -/
import Derived.Test.YtknoncenblehkaaGreatDoorF28
import Derived.Test.YtknoncenblehkaaGreatDoorF29
import Derived.Shelf.Bits.Mul64
set_option maxRecDepth 100000
set_option maxHeartbeats 32000000
set_option linter.unusedSimpArgs false
set_option linter.unusedVariables false
namespace Go.Proofs.YtknoncenblehkaaGreatDoor
open Go.RowKit Go.Lib Go.Shelf
def lays212_ren:Ren:=⟨fun|212=>77|263=>120|264=>121|n=>n,fun|46=>134|51=>181|53=>57|146=>182|148=>184|n=>n,fun|n=>n⟩
theorem Zsc:Lays.n212 Tryz.prog lays212_ren:={
 mixed:=by kernel_rfl
 f212:=Tryz.func77.trans (congrArg some (by kernel_rfl))
 f263:=Tryz.func120.trans (congrArg some (by kernel_rfl))
 f264:=Tryz.func121.trans (congrArg some (by kernel_rfl))
 t46:=Tryz.underlying134
 a46:=Tryz.isAgg134
 z46:=Tryz.sizeOf134
 v46:=Tryz.zeroValue134
 t51:=Tryz.underlying181
 a51:=Tryz.isAgg181
 z51:=Tryz.sizeOf181
 v51:=Tryz.zeroValue181
 t53:=Tryz.underlying57
 a53:=Tryz.isAgg57
 z53:=Tryz.sizeOf57
 v53:=Tryz.zeroValue57
 t146:=Tryz.underlying182
 a146:=Tryz.isAgg182
 z146:=Tryz.sizeOf182
 v146:=Tryz.zeroValue182
 t148:=Tryz.underlying184
 a148:=Tryz.isAgg184
 z148:=Tryz.sizeOf184
 v148:=Tryz.zeroValue184}
theorem ZuS (n:Nat) (hn:n≤1000000) (w:World):
 Calls Tryz.prog 77 #[.int .u64 1,.int .u64 (n:Int)] w fun e w'=>e=.returned (.tuple #[.int .u64 0,.int .u64 (n:Int)])∧w'=w:=by
 have h:=Any.bits_Mul Zsc 1 n (by omega) (by omega) w;rw[Nat.one_mul,Nat.div_eq_of_lt (by omega),Nat.mod_eq_of_lt (by omega)] at h;exact h
theorem ZeV (g:Nat): ∀(vs:List Value) (o:Nat) (w:World),Only (isb g) w (w.setCells g o vs)
 |[],_,w=>Only.refl _ w
 |v::vs,o,w=>(Zc w g o v).trans (ZeV g vs (o+1) (w.setCell ⟨g,o,none⟩ v))
theorem Zgj {α:Type} (L vs:List α) (o:Nat) (v:α) (h:o+(vs.length+1)≤L.length):splice (L.set o v) (o+1) vs=splice L o (v::vs):=by
 have h1:(L.set o v).take (o+1)=L.take o++[v]:=by
  rw[List.take_add_one,List.take_set_of_le (Yj _),List.getElem?_set,if_pos rfl,if_pos (by omega)];rfl
 have h2: ∀k,o<k→(L.set o v).drop k=L.drop k:=fun k hk=>by rw[List.drop_set_of_lt hk]
 unfold splice;rw[h1,h2 _ (by omega),show o+1+vs.length=o+(v::vs).length by simp;omega];simp
theorem ZfD {g:Nat} {t:TypeId}: ∀(vs:List Value) (o:Nat) {w:World} {cs:Array Value},Blk w g t cs→o+vs.length≤cs.size→Blk (w.setCells g o vs) g t (splice cs.toList o vs).toArray
 |[],o,w,cs,h,_=>by
  show Blk w g t _;simpa[splice] using h
 |v::vs,o,w,cs,h,hl=>by
  have h1:=ZfD vs (o+1) (h.put o v) (by simp at hl ⊢;omega);have h2:=Zgj cs.toList vs o v (by simp at hl ⊢;omega);rw[Array.toList_setIfInBounds,h2] at h1;exact h1
theorem ZkQ {P:Program} {w:World} (dT sT ty elem:TypeId) (i:TypeInfo) (n:Nat) (hu:P.underlying dT=some (.slice elem)) (hi:P.info? elem=some i) (hz:i.size=1)
 (g off dLen dCap b o sLen sCap:Nat) (cur:Array Value) (t:TypeId) (hg:Blk w g t cur) (news:List Value) (hn:Nat.min sLen dLen=n) (hnl:news.length=n) (hfit:off+news.length≤cur.size)
 (hsrc: ∀j v,news[j]? =some v→w.cell? ⟨b,o+j,none⟩=some v) (h1: ∀v∈news,v.oneCell'=true):
 (Builtin.copy_ #[dT,sT] ty #[.slice (some ⟨g,off,none⟩) dLen dCap,.slice (some ⟨b,o,none⟩) sLen sCap]).run P w=.ok (goInt n) (w.setCells g off news):=by
 have hf:=run_firstCells_some (P:=P) w i.size n ⟨b,o,none⟩ sLen sCap news (by rw[hz,Nat.mul_one];exact hnl) (fun j v hj=>by rw[Addr.add_lit];exact hsrc j v hj);have hst:=run_storeCells_cells (P:=P) g off news 0 w (fun j hj=>by rw[Nat.add_zero,hg.cell,Array.getElem?_eq_getElem (by omega)];rfl) (fun j hj=>by rw[hg.free]) h1;rw[Nat.add_zero] at hst;simp[Builtin.copy_,run_underlying hu,Builtin.lenOf,sizeOf,typeInfo,hi,hn,hf,hst]
theorem step_copy_run18 {P:Program} {ops:Array Oper} {o:Oper} {a:Act} {w:World} {K:Act→World→Prop} {Q:Exit→Act→World→Prop} {E:Prop} (hg:o.guard=none) (d s:Operand) (t t':TypeId)
 (ho:o.op=.call {callee:=.builtin .copy,args:=#[d,s],argTypes:=#[t,t']}) (v u:Value) (hd:a.eval d=v) (hs:a.eval s=u) {v':Value} {w':World}
 (hr:(Builtin.copy_ #[t,t'] o.type #[v,u]).run P w=.ok v' w') (h:K (a.put o.dst v') w'):if Region.wanted o (yielded ops a.tmps)=true then Oper.wp P o a w K Q else E:=by
 rw[if_pos (by simp[Region.wanted,hg])];exact Lib.wp_copy_run w d s t t' ho v u hd hs hr h
def Zl8 (x:Int) (k n:Nat):List Value:=i64s (List.replicate k x++List.replicate (n - k) 0)
theorem Zsb {x:Int} {k n j:Nat} (h:j<k):(Zl8 x k n)[j]? =some (.int .i64 x):=by
 refine ZeG ?_;rw[List.getElem?_append_left (by simpa using h),List.getElem?_replicate,if_pos h]
theorem Zpy {x:Int} {k m n:Nat} (h:k+m≤n):splice (Zl8 x k n) k (i64s (List.replicate m x))=Zl8 x (k+m) n:=by
 unfold splice Zl8;rw[Zgp,List.length_replicate,Zy,Zy]
 have e1:(i64s (List.replicate k x)).length=k:=by simp[i64s]
 rw[List.take_append_of_le_length (by omega),List.take_of_length_le (by omega),List.drop_append,e1,List.drop_eq_nil_of_le (by omega),List.nil_append]
 have e2:(i64s (List.replicate (n - k) (0:Int))).drop (k+m - k)=i64s (List.replicate (n - (k+m)) 0):=by
  simp only[i64s,List.map_replicate,List.drop_replicate]
  congr 1;omega
 rw[e2, ← List.append_assoc, ← Zy,List.replicate_append_replicate]
theorem Zly {w:World} {base b n c:Nat} {E:TypeId} {xs:List Value} (h:w.ownsRow base E 1 (.slice (some ⟨b,0,none⟩) n c) n xs) (off:Nat) (vs:List Value) (hv:off+vs.length≤n):
 (w.setCells b off vs).ownsRow base E 1 (.slice (some ⟨b,0,none⟩) n c) n (splice xs off vs):=by
 obtain⟨h0,h2⟩:=h;rw[Nat.mul_one] at h0;refine⟨by rw[Zah _ _ _ (by omega),h0,Nat.mul_one],?_⟩
 rcases h2 with⟨e, -⟩|⟨g,cap,cur,e,hb,hg,h1,h2,h3,h4⟩
 · cases e
 · simp only[Value.slice.injEq,Option.some.injEq,Addr.mk.injEq] at e
   obtain⟨⟨rfl, -⟩, -,rfl⟩:=e;have hk:Blk w b E cur:=hg;refine .inr ⟨b,c,_,rfl,hb,ZfD vs off hk (by omega),h1,h2,?_,?_⟩
   · rw[List.size_toArray,Zah _ _ _ (by simp;omega)];simpa using h3
   · rw[← h4,Nat.mul_one]
     show(splice cur.toList off vs).take n=splice (cur.toList.take n) off vs;unfold splice;rw[List.take_take,Nat.min_eq_left (by omega),List.take_append,List.take_of_length_le (l:=cur.toList.take off) (by simp;omega),List.take_append,List.take_of_length_le (l:=vs) (by simp;omega),List.drop_take]
     congr 3
     simp;omega
theorem Znp {w:World} {base b n c:Nat} {E:TypeId} {xs:List Value} (h:w.ownsRow base E 1 (.slice (some ⟨b,0,none⟩) n c) n xs): ∃cur,Blk w b E cur∧n≤cur.size:=by
 rcases h.2 with⟨e, -⟩|⟨g,cap,cur,e,hb,hg,h1,h2,h3,h4⟩
 · cases e
 · simp only[Value.slice.injEq,Option.some.injEq,Addr.mk.injEq] at e
   obtain⟨⟨rfl, -⟩, -,rfl⟩:=e;exact⟨cur,hg,by omega⟩
theorem Zu4 (x:Int) (b base k m n l l' c c':Nat) (q o:Nat) (w:World) (h:w.ownsRow base 3 1 (.slice (some ⟨b,0,none⟩) n n) n (Zl8 x k n)) (hm:Nat.min l' l=m) (hkm:k+m≤n)
 (hs: ∀j,j<m→w.cell? ⟨q,o+j,none⟩=some (.int .i64 x)) (ty:TypeId):
 ∃W,(Builtin.copy_ #[38,38] ty #[.slice (some ⟨b,k,none⟩) l c,.slice (some ⟨q,o,none⟩) l' c']).run Tryz.prog w=.ok (goInt (m:Nat)) W∧W.ownsRow base 3 1 (.slice (some ⟨b,0,none⟩) n n) n (Zl8 x (k+m) n)∧Only (isb b) w W:=by
 obtain⟨i0,hi0,hz0,hz1,hz2⟩:=info_parts Zap;obtain⟨cur,hb,hc⟩:=Znp h
 have hl:(i64s (List.replicate m x)).length=m:=by simp[i64s]
 refine⟨_,ZkQ _ _ ty 3 i0 m Tryz.underlying38 hi0 hz1 b k l c q o l' c' cur _ hb (i64s (List.replicate m x)) hm hl (by omega) (fun j v hj=>?_) (Zc6 _),?_,ZeV _ _ _ _⟩
 · have hj2:j<m:=by have:=(Yk.1 hj).1;omega
   rw[ZeG (z:=x) (by rw[List.getElem?_replicate,if_pos hj2])] at hj;rw[← Yp hj];exact hs j hj2
 · have:=Zly h k (i64s (List.replicate m x)) (by omega)
   rwa [Zpy hkm] at this
theorem Znu {w:World} {base b k n:Nat} {x:Int} (h:w.ownsRow base 3 1 (.slice (some ⟨b,0,none⟩) n n) n (Zl8 x k n)) (hk:k≤n) (j:Nat) (hj:j<k):w.cell? ⟨b,0+j,none⟩=some (.int .i64 x):=by
 rw[Nat.zero_add];exact(h.cellAt j (by omega)).trans (Zsb hj)
theorem ZpQ (x:Int) (q n:Nat) (hn:n≤1000000) (W:World) (hq:Blk W q 3 #[.int .i64 x]):
 Calls Tryz.prog 47 #[.slice (some ⟨q,0,none⟩) 1 1,.int .i64 n] W fun e w'=>e=.returned (.slice (some ⟨W.heap.size,0,none⟩) n n)∧w'.ownsRow W.heap.size 3 1 (.slice (some ⟨W.heap.size,0,none⟩) n n) n (i64s (List.replicate n x))∧Only nob W w':=by
 obtain⟨WM,hmk,om,hown⟩:=Zjh n hn W;have OM:=ZZ om;have HOW:=ZZ (show WM.ownsRow W.heap.size 3 1 (.slice (some ⟨W.heap.size,0,none⟩) n n) n (Zl8 x 0 n) from by simpa[Zl8] using hown);have hqM:=hq.keep om id
 obtain⟨b,hb⟩: ∃b,b=W.heap.size:=⟨_,rfl⟩
 rw[← hb] at hmk HOW ⊢;have HB:=ZZ hb;obtain⟨W1,hcp,hrow,o1⟩:=Zu4 x b b 0 (Nat.min 1 n) n n 1 n 1 q 0 WM HOW.out rfl (by simp only[Nat.min_def];split <;> omega) (fun j hj=>by obtain rfl:j=0:=Nat.lt_one_iff.1 (Yw hj (Nat.min_le_left 1 n));exact hqM.cell 0) 3
 obtain⟨k1,hk1⟩: ∃k1,k1=Nat.min 1 n:=⟨_,rfl⟩
 rw[Nat.zero_add, ← hk1] at hrow;rw[← hk1] at hcp;have HROW:=ZZ hrow;have HK1:=ZZ (show k1≤n∧(0<n→0<k1) by rw[hk1];simp only[Nat.min_def];split <;> omega);have O1:=ZZ (show Only nob W W1 from OM.out.andThen o1 fun i hi e=>by unfold isb at e;omega);clear om hown hb hq hqM hrow o1 hk1
 go_enter Tryz.func47,Tryz.ntmps47
 go_wp2_with fail
 go_at_call 77;refine(ZuS n hn _).mono ?_;rintro e w' ⟨rfl,hw⟩;rw[hw];clear hw
 have n1: ¬(9223372036854775807:Int)<(n:Int):=by omega
 go_wp2_with fail
 clear n1 hcp hmk
 go_loopw [8] (fun s wr=> ∃k:Nat,k≤n∧(0<n→0<k)∧s=.int .i64 k∧Hid (wr.ownsRow b 3 1 (.slice (some ⟨b,0,none⟩) n n) n (Zl8 x k n))∧Hid (Only nob W wr)) (fun s _=>n - (RowKit.intOf s).toNat)
 case atStart=>exact⟨k1,HK1.out.1,HK1.out.2,rfl,HROW,O1⟩
 case round=>
  obtain⟨k,hk,hpos,rfl,HR,HO⟩:=hrel;by_cases hlt:k<n
  · obtain⟨m,hm⟩: ∃m,m=Nat.min k (n - k):=⟨_,rfl⟩
    have hm1:m≤n - k:=by rw[hm];exact Nat.min_le_right _ _
    have hm0:0<m:=by rw[hm];simp only[Nat.min_def];split <;> omega
    have hm2:m≤k:=by rw[hm];exact Nat.min_le_left _ _
    have HD:=ZZ (Za HR.out (((Only.refl nob wr).drewN 1)) (fun _ _ h=>h):wr.drew.ownsRow b 3 1 (.slice (some ⟨b,0,none⟩) n n) n (Zl8 x k n));obtain⟨W2,hcp,hrow,o2⟩:=Zu4 x b b k m n (n - k) k (n - k) n b 0 wr.drew HD.out hm.symm (by omega) (fun j hj=>Znu HD.out hk j (by omega)) 3;have HROW:=ZZ hrow;have O2:=ZZ (show Only nob W W2 from(HO.out.drewN 1).andThen o2 fun i hi e=>by unfold isb at e;have:=HB.out;omega);obtain⟨i0,hi0,hz0,hz1,hz2⟩:=info_parts Zap
    have hcutA: ∀w,(Instr.sliceAt 38 (.slice (some ⟨b,0,none⟩) n n) (some (.int .i64 (k:Int))) none none).run Tryz.prog w=.ok (.slice (some ⟨b,k,none⟩) (n - k) (n - k)) w:=fun w=>by
     have:=ZaQ Tryz.underlying38 hi0 (some ⟨b,0,none⟩) n n k hk w
     rw[hz1,show Zbb (some ⟨b,0,none⟩) k n n 1=.slice (some ⟨b,k,none⟩) (n - k) (n - k) by unfold Zbb;rw[if_neg (by omega)];show Value.slice (some (Addr.add _ _)) _ _=_;rw[Addr.add_lit,Nat.zero_add,Nat.mul_one]] at this;exact this
    have hcutB: ∀w,(Instr.sliceAt 38 (.slice (some ⟨b,0,none⟩) n n) none (some (.int .i64 (k:Int))) none).run Tryz.prog w=.ok (.slice (some ⟨b,0,none⟩) k n) w:=fun w=>by
     have:=Zfe Tryz.underlying38 hi0 (some ⟨b,0,none⟩) n n k hk w
     rw[show Zbb (some ⟨b,0,none⟩) 0 k n i0.size=.slice (some ⟨b,0,none⟩) k n by unfold Zbb;split <;> simp[Addr.add]] at this;exact this
    have hb1:(k:Int)≤(n:Int):=by omega
    have hb5: ¬(n=k):=by omega
    have hw1:IntKind.i64.wrap ((k:Int)+(m:Int))=(k:Int)+(m:Int):=by rw[IntKind.wrap_i64];omega
    have hltI:(k:Int)<(n:Int):=by omega
    have mixed:Tryz.prog.follows .mixedOrders=true:=by kernel_rfl
    clear hm hrow o2 hi0 hz0 hz1 hz2 hpos
    go_wp2_with fail
    go_region_held3 (fun _=>True) (first|exact True.intro|go_keep) ((refine step_copy_run18 (by rfl) (.tmp 41) (.tmp 44) 38 38 (by rfl) _ _ (by rfl) (by rfl) hcp ?_))
    go_roundw
    case rel=>exact⟨_,_,_,_,_,_,_,_,_,_,_,_,_,_,⟨k+m,by omega,fun _=>by omega,by go_num,HROW,O2⟩,rfl⟩
    case measure=>simp[RowKit.intOf];omega
  · obtain rfl:k=n:=by omega
    have HF:=ZZ (show wr.ownsRow b 3 1 (.slice (some ⟨b,0,none⟩) k k) k (i64s (List.replicate k x)) by have:=HR.out;simpa[Zl8] using this);go_wp2;go_ret;exact⟨rfl,HF.out,HO.out⟩
end Go.Proofs.YtknoncenblehkaaGreatDoor
