/- A map of the call's own, from places to headers: what it hol -/
import Derived.Test.YtknoncenblehkaaGreatDoorG21
import Derived.Test.YtknoncenblehkaaGreatDoorG19
import Derived.Maps.OwnSet
set_option maxRecDepth 100000
set_option maxHeartbeats 32000000
set_option linter.unusedSimpArgs false
set_option linter.unusedVariables false
namespace Go.Proofs.YtknoncenblehkaaGreatDoor
section
open Go.RowKit Go.Maps Go.ChangeMaps
def Zol (v:Value):Option (DataW Value×List MemPlace):=some (.held v,[])
theorem Zjw:Keyed Tryz.prog 3:=int_keyed Tryz.underlying3
theorem Zgx {p:Int} (h:I64 p):keyOf Tryz.prog 3 (.int .i64 p)=some (.int .i64 p):=keyOf_int_mk Tryz.underlying3 (WalkArith.wf_i64 h)
theorem ZkG (p:Int):WideAt.IsKeyLit (.int .i64 p):=by
 unfold WideAt.IsKeyLit;simp
def hV (l:List Nat) (p:Int):Value:=.agg #[.int .i64 (ohK l p),.int .i64 (ohF l p),.int .i64 (ohR l p),.bool (ohM l p),.int .i64 (ohC l p)]
def hZero:Value:=.agg #[.int .i64 0,.int .i64 0,.int .i64 0,.bool false,.int .i64 0]
theorem ZhR (w:World):(zeroValue 108).run Tryz.prog w=.ok hZero w:=by kernel_rfl
def Zds (w:World) (mp n:Nat) (l:List Nat) (K:List Int):Prop:=
 ∃D:DataW Value,w.ownsMap Tryz.prog 3 Zol mp n D∧ ∀p:Int,I64 p→(has D (.int .i64 p)=ZaU K p∧(ZaU K p=true→ ∀z,D.atKey (.int .i64 p) z=.held (hV l p)))
theorem Zk5 {K:List Int} {p:Int}:ZaU K p=true↔p∈K:=by
 unfold ZaU;rw[List.any_eq_true];constructor
 · rintro⟨x,hx,e⟩
   have:x=p:=by simpa using e
   rw[← this];exact hx
 · exact fun h=>⟨p,h,by simp⟩
theorem Zh8 (K:List Int) (p q:Int):ZaU (K++[p]) q=(ZaU K q||(p==q)):=by
 unfold ZaU;simp
theorem Zds.lt {w:World} {mp n:Nat} {l:List Nat} {K:List Int} (h:Zds w mp n l K):mp<w.heap.size:=by
 obtain⟨D,h, -⟩:=h;exact h.lt
theorem Zds.keep {F:Nat→Prop} {w w':World} {mp n:Nat} {l:List Nat} {K:List Int} (h:Zds w mp n l K) (o:Only F w w') (hn: ¬F mp):Zds w' mp n l K:=by
 obtain⟨D,⟨es,clock,hb,r⟩,h2⟩:=h;have hlt:mp<w.heap.size:=(Yu.1 hb).1;exact⟨D,⟨es,clock,(o.block mp hlt hn).trans hb,r⟩,h2⟩
theorem Zds.new (w:World) (l:List Nat):Zds (w.alloc (.map #[] 0)) w.heap.size 0 l []:=
 ⟨_,World.ownsMap_made w _ _ _,fun p _=>⟨rfl,fun h=>by cases h⟩⟩
theorem ZgE {w w':World} {mp:Nat} (h:w.mapTurned w' mp):Only (isb mp) w w':=by
 obtain⟨es,clock,es',clock',hb,rfl⟩:=h;exact⟨rfl,rfl,rfl,by simp[setBlock],fun k _ hn=>heap_setBlock_other hb _ hn⟩
theorem Zds.put {w:World} {mp n:Nat} {l:List Nat} {K:List Int} (h:Zds w mp n l K) (p:Int) (hp:I64 p) (hn:n<1000000):
 ∃w',(Instr.mapUpdate 120 (.map (some mp)) (.int .i64 p) (hV l p)).run Tryz.prog w=.ok () w'∧Zds w' mp (n+1) l (K++[p])∧Only (isb mp) w w':=by
 obtain⟨D,h,h2⟩:=h;obtain⟨w',e,h',ht⟩:=h.store Zjw Tryz.underlying120 (by unfold maxLen;omega) (Zgx hp) (show Zol (hV l p)=some (.held (hV l p),[]) from rfl);refine⟨w',e,⟨_,h',fun q hq=>?_⟩,ZgE ht⟩;rw[Zh8];by_cases hpq:p=q
 · subst hpq
   rw[has_put_same h.isMap (ZkG p)];refine⟨by simp,fun _ z=>atKey_put_same h.isMap (ZkG p) _ _⟩
 · have hne:(Lit.int .i64 q)≠(.int .i64 p):=fun e=>hpq (by injection e with _ e;exact e.symm)
   rw[has_put_other hne];obtain⟨h3,h4⟩:=h2 q hq
   have hb:(p==q)=false:=by simpa using hpq
   rw[hb,Bool.or_false];refine⟨h3,fun h z=>?_⟩;rw[atKey_put_other hne];exact h4 h z
theorem Zds.look {w:World} {mp n:Nat} {l:List Nat} {K:List Int} (h:Zds w mp n l K) (p:Int) (hp:I64 p):
 ∃v,(Instr.lookup 120 (.map (some mp)) (.int .i64 p) true).run Tryz.prog w=.ok (.tuple #[v,.bool (ZaU K p)]) w∧v=(if ZaU K p then hV l p else hZero):=by
 obtain⟨D,h,h2⟩:=h;obtain⟨v,ps,e,hv⟩:=h.look_ok Zjw Tryz.underlying120 (ZhR w) (show Zol hZero=some (.held hZero,[]) from rfl) (Zgx hp);obtain⟨h3,h4⟩:=h2 p hp;rw[h3] at e;refine⟨v,e,?_⟩;unfold Zol at hv;simp only[Option.some.injEq,Prod.mk.injEq] at hv
 cases hb:ZaU K p with
 |true=>
  rw[h4 hb] at hv;simpa using hv.1
 |false=>
  rw[hb] at h3
  have:D.atKey (.int .i64 p) (.held hZero)=.held hZero:=by
   rw[atKey_of_not_has h3]
  rw[this] at hv;simpa using hv.1
theorem Zds.at_ {w:World} {mp n:Nat} {l:List Nat} {K:List Int} (h:Zds w mp n l K) (p:Int) (hp:I64 p) (hk:ZaU K p=true):
 (Instr.lookup 120 (.map (some mp)) (.int .i64 p) false).run Tryz.prog w=.ok (hV l p) w:=by
 obtain⟨D,h,h2⟩:=h;obtain⟨v,ps,e,hv⟩:=h.lookup Zjw Tryz.underlying120 (ZhR w) (show Zol hZero=some (.held hZero,[]) from rfl) (Zgx hp);obtain⟨h3,h4⟩:=h2 p hp;unfold Zol at hv;simp only[Option.some.injEq,Prod.mk.injEq] at hv;rw[h4 hk] at hv
 have:v=hV l p:=by simpa using hv.1
 rw[← this];exact e
end
section
open Go.RowKit Go.Lib
theorem ZiH (v:Value) (l:List Int) (B:Nat) (w:World) (h:Sl w B 1 v l.length (i64s l)) (hB:B≤w.heap.size) (hl:l.length≤1000000):
 Calls Tryz.prog 97 #[v] w fun e w'=> ∃v',e=.returned v'∧w'.ownsRow w.heap.size 3 1 v' l.length (i64s l)∧Only nob w w':=by
 obtain⟨i0,hi0,hz0,hz1,hz2⟩:=info_parts Zcq;have HA:=ZZ h;obtain⟨A,ca,rfl,hac,ham,hx,hs⟩:=h;unfold maxLen at ham;have q29: ∀(w:World) (n:Nat),(binOp .eql 38 (.slice A n ca) (.slice none 0 0)).run Tryz.prog w=.ok (.bool A.isNone) w:=fun w n=>Go.Lib.run_eql_slice_nil w _ _ A _ _ _ _ Tryz.underlying38;rcases A with _|ad
 · have h0:l.length=0:=by
    rcases Nat.eq_zero_or_pos l.length with h0|h0
    · exact h0
    · obtain⟨b,o,hA, -⟩:=hs h0;cases hA
   obtain rfl:l=[]:=List.eq_nil_of_length_eq_zero h0;clear hs hx h0
   go_enter Tryz.func97,Tryz.ntmps97
   go_wp2;go_ret;exact⟨_,rfl,World.ownsRow_nil _ _ _ _,Only.refl _ _⟩
 · have HS:=ZZ hs
   clear hs hx
   go_enter Tryz.func97,Tryz.ntmps97
   go_wp2_with (with_reducible refine Zf (o:=⟨some 7,_,_,_,_,_⟩) _ rfl (.tmp 5) (.tmp 6) _ rfl w.heap.size 3 i0 _ 1 8 Tryz.underlying38 hi0 hz0 hz1 hz2 rfl (by decide) (.slice (some ⟨w.heap.size,0,none⟩) 0 0) 0 [] rfl ?c1 B (.slice (some ad) l.length ca) l.length (i64s l) rfl ?c6 (ZbM _) ?c2 ?c3 ?c4 ?c5)
   case c1=>exact ZdP w _ _
   case c6=>exact HA.out.below (((Only.refl nob w).alloc _).below hB fun _ h=>h.elim)
   case c2=>unfold maxLen;omega
   case c3=>omega
   case c4=>simp
   case c5=>
    intro v1 w1 H1 o1 _;have O1:=ZZ (Zcc o1);clear o1;go_wp2;go_ret;exact⟨_,rfl,by simpa using H1.out,O1.out⟩
def ZnZ (g:FuncId) (la:Array Value) (p:Nat→Bool) (w:World):Prop:=
 (∀args w,(callFunc g args).run Tryz.prog w=.ok (.enter g args) w)∧ ∀(x:Nat),x<full→ ∀(W:World),Only nob w W→Calls Tryz.prog g (la++#[.int .u64 (x:Nat)]) W fun e w'=>e=.returned (.bool (p x))∧Only nob W w'
noncomputable def ZmB (p:Nat→Bool) (l:List Nat):Int:=match l.findIdx? p with|some k=>(k:Nat)|none=> -1
theorem Zlo {p:Nat→Bool} {l:List Nat} {k x:Nat} (hx:l[k]? =some x) (hp:p x=true) (hn: ∀(j:Nat) y,j<k→l[j]? =some y→p y=false):ZmB p l=k:=by
 obtain⟨hk,e⟩:=Yj.1 hx
 have:l.findIdx? p=some k:=by
  rw[List.findIdx?_eq_some_iff_getElem];refine⟨hk,by rw[e];exact hp,fun j hj=>?_⟩;rw[hn j _ hj (Ya (by omega))];decide
 unfold ZmB;rw[this]
theorem Zi8 {p:Nat→Bool} {l:List Nat} (hn: ∀(j:Nat) y,l[j]? =some y→p y=false):ZmB p l= -1:=by
 have:l.findIdx? p=none:=by
  rw[List.findIdx?_eq_none_iff];intro x hx;obtain⟨j,hj⟩:=List.getElem?_of_mem hx;exact hn j x hj
 unfold ZmB;rw[this]
theorem ZlL (p:Nat→Bool) (l:List Nat):decide (0≤ZmB p l)=l.any p:=by
 unfold ZmB
 cases h:l.findIdx? p with
 |none=>
  rw[List.findIdx?_eq_none_iff] at h
  have:l.any p=false:=by
   rw[List.any_eq_false];intro x hx;rw[h x hx];decide
  rw[this];rfl
 |some k=>
  obtain⟨hk,hp, -⟩:=List.findIdx?_eq_some_iff_getElem.1 h
  have:l.any p=true:=List.any_eq_true.2 ⟨_,List.getElem_mem hk,hp⟩
  rw[this,Yl (by simp)]
theorem ZdV (g:FuncId) (la:Array Value) (p:Nat→Bool) (v:Value) (l:List Nat) (B:Nat) (w:World) (hp:ZnZ g la p w) (h:Sl w B 1 v l.length (u64s l)) (hB:B≤w.heap.size) (hf:Zbt l):
 Calls Tryz.prog 178 #[v,.func (.func g) la #[]] w fun e w'=>e=.returned (.int .i64 (ZmB p l))∧Only nob w w':=by
 have HA:=ZZ h;have HF:=ZZ hf;have HP:=ZZ hp.2;have eg:=hp.1;obtain⟨A,ca,rfl,hac,ham, -⟩:=h;unfold maxLen at ham;clear hp hf
 go_enter Tryz.func178,Tryz.ntmps178
 go_wp2_with fail
 go_loopw [5,8] (fun _ i wr=> ∃k:Nat,k≤l.length∧i=.int .i64 k∧Hid (∀(j:Nat) y,j<k→l[j]? =some y→p y=false)∧Only nob w wr) (fun _ i _=>l.length - (intOf i).toNat)
 case atStart=>exact⟨0,Yt _,rfl,fun j _ hj _=>absurd hj (Nat.not_lt_zero j),Only.refl _ _⟩
 case round=>
  obtain⟨k,hk,rfl,hno,hO⟩:=hrel;have HX:=ZZ hO;by_cases hlt:k<l.length
  · obtain⟨x,hx⟩: ∃x,l[k]? =some x:=⟨_,Ya hlt⟩
    obtain⟨b,o,rfl,hb,c0⟩:=Zdv HA.out (hO.below hB fun _ h=>h.elim) hx;have HXX:=ZZ hx;have HFX:=ZZ (HF.out x (Yn hx));clear hO hx
    cases hp:p x with
    |true=>
     have HQ:=ZZ hp;have HK:=ZZ (Zlo HXX.out hp hno.out);clear hp
     go_wp2_with fail
     refine(HP.out x HFX.out _ HX.out).mono ?_;rw[HQ.out];rintro e w1 ⟨rfl,ho⟩;have HO:=ZZ (HX.out.trans ho);clear ho;go_wp2;go_ret;exact⟨ZbF (by rw[HK.out]),HO.out⟩
    |false=>
     have HQ:=ZZ hp;clear hp
     go_wp2_with fail
     refine(HP.out x HFX.out _ HX.out).mono ?_;rw[HQ.out];rintro e w1 ⟨rfl,ho⟩;have HO:=ZZ (HX.out.trans ho);clear ho;go_wp2
     go_roundw
     case rel=>
      refine⟨k+1,by omega,by go_num,fun j y hj hy=>?_,HO.out⟩;rcases Yp j k with h'|h'
      · exact hno.out j y h' hy
      · obtain rfl:j=k:=by omega
        rw[HXX.out] at hy;obtain rfl:=Yo hy;exact HQ.out
     case measure=>simp[intOf];omega
  · obtain rfl:k=l.length:=by omega
    have HK:=ZZ (Zi8 (p:=p) (l:=l) fun j y hy=>hno.out j y (Yj.1 hy).1 hy);clear hO;go_wp2;go_ret;exact⟨ZbF (by rw[HK.out]),HX.out⟩
theorem Zb9 (g:FuncId) (la:Array Value) (p:Nat→Bool) (v:Value) (l:List Nat) (B:Nat) (w:World) (hp:ZnZ g la p w) (h:Sl w B 1 v l.length (u64s l)) (hB:B≤w.heap.size) (hf:Zbt l):
 Calls Tryz.prog 143 #[v,.func (.func g) la #[]] w fun e w'=>e=.returned (.bool (l.any p))∧Only nob w w':=by
 have HA:=ZZ h;have HP:=ZZ hp;have HF:=ZZ hf;clear h hp hf;have HI:=ZZ (ZlL p l)
 go_enter Tryz.func143,Tryz.ntmps143
 go_wp2_with fail
 go_at_call 178;refine(ZdV g la p v l B w HP.out HA.out hB HF.out).mono ?_;rintro e w1 ⟨rfl,ho⟩;have HO:=ZZ ho
 obtain⟨i,hi⟩: ∃i,i=ZmB p l:=⟨_,rfl⟩
 rw[← hi];have HII:=ZZ hi;clear ho hi;go_wp2;go_ret;exact⟨Za (by rw[← HI.out, ← HII.out]),HO.out⟩
end
section
open Go.RowKit
section
variable {s:St} {vw vt vf vs:Value} {g:Nat} {w:World}
theorem ZiA (h:SBox w g s vw vt vf vs) (hc:CFit s.cf):Calls Tryz.prog 102 #[.pointer (some ⟨g,0,none⟩)] w fun e w'=>e=.returned (.bool (decide s.cf.ok))∧Only nob w w':=by
 have HC:=ZZ (fun w=>Zbh s.cf w hc);obtain⟨c0,c1,c2,c3,c4,c5,c6,c7,c8,c9⟩:=h
 go_enter Tryz.func102,Tryz.ntmps102
 go_wp2_with fail
 go_at_call 52;refine(HC.out _).mono ?_;rintro e w1 ⟨rfl,o⟩;have O:=ZZ o;clear o c0 c1 c2 c3 c4 c5 c6 c7 c8 c9;go_wp2;go_ret;exact⟨rfl,O.out⟩
theorem Zkp {A:Option Addr} {ca:Nat} (h:SBox w g s (.slice A s.ws.length ca) vt vf vs) (hc:CFit s.cf):Calls Tryz.prog 103 #[.pointer (some ⟨g,0,none⟩)] w fun e w'=>e=.returned (.bool (decide ((s.ws.length:Int)=Zk s.cf)))∧Only nob w w':=by
 have HC:=ZZ (fun w=>Zkt Zku s.cf w hc);obtain⟨c0,c1,c2,c3,c4,c5,c6,c7,c8,c9⟩:=h.all
 obtain⟨n,hn⟩: ∃n,n=Zk s.cf:=⟨_,rfl⟩
 rw[← hn] at HC ⊢;clear hn h
 go_enter Tryz.func103,Tryz.ntmps103
 go_upto_region 1 with fail
 refine Zm Zbx (by kernel_rfl) ?_
 repeat (with_reducible refine wpQuiet_step ?_;intro K' hK';go_simp;first|(with_reducible refine hK' _ ?_;clear hK' K')|(apply Exists.intro;with_reducible refine⟨fun _=>?_,hK' _ ?_⟩;(go_at_call 54;with_reducible refine Zq (HC.out _));clear hK' K'))
 refine wpQuiet_nil ?_;rintro w' ⟨⟨nq,osq⟩,rfl⟩;obtain⟨W6,hW6,O6⟩:=Zt w nq osq;rw[hW6];clear hW6 c0 c1 c2 c3 c4 c5 c6 c7 c8 c9;go_wp2;go_ret;exact⟨Za (by by_cases h:(s.ws.length:Int)=n <;> simp[h]),O6.out⟩
theorem Zo1 (h:SBox w g s vw vt vf vs) (hc:CFit s.cf):Calls Tryz.prog 138 #[.pointer (some ⟨g,0,none⟩)] w fun e w'=>e=.returned (.agg #[.int .i64 s.frm.1,.int .i64 s.frm.2])∧Only nob w w':=by
 have HC:=ZZ (show ∀w,Calls Tryz.prog 79 #[.agg #[.int .i64 s.cf.semi,.int .i64 s.cf.large,.int .i64 s.cf.slots,.int .i64 s.cf.limit],.bool s.sec] w fun e w'=>e=.returned (.agg #[.int .i64 s.frm.1,.int .i64 s.frm.2])∧Only nob w w' from fun w=>Zmx s.cf s.sec w hc);obtain⟨W,hW,HB⟩:=Z8 w 0 0;have HW:=ZZ hW;have X:=ZZ (h.keep HB.out.1)
 obtain⟨a,ha⟩: ∃a,a=s.frm.1:=⟨_,rfl⟩
 obtain⟨n,hn⟩: ∃n,n=s.frm.2:=⟨_,rfl⟩
 rw[← ha, ← hn] at HC ⊢;obtain⟨c0,c1,c2,c3,c4,c5,c6,c7,c8,c9⟩:=X.out.all;clear hW ha hn h
 go_enter Tryz.func138,Tryz.ntmps138
 go_upto_region 1 with fail
 rw[HW.out];refine ZaH 11 Zbx (by kernel_rfl) ?_;simp only[List.take,List.drop]
 repeat (with_reducible refine wpQuiet_step ?_;intro K' hK';go_simp;first|(with_reducible refine hK' _ ?_;clear hK' K')|(apply Exists.intro;with_reducible refine⟨fun _=>?_,hK' _ ?_⟩;(go_at_call 79;with_reducible refine Zq (HC.out _));clear hK' K'))
 refine wpQuiet_nil ?_;rintro w' ⟨⟨nq,osq⟩,rfl⟩;obtain⟨W6,hW6,O6⟩:=Zt W nq osq;rw[hW6];have B1:=ZZ (HB.out.2.1.keep O6.out id);have O1:=ZZ (HB.out.1.trans O6.out);clear hW6 c0 c1 c2 c3 c4 c5 c6 c7 c8 c9;have g0:W6.cell? ⟨w.heap.size,0,none⟩=some (.int .i64 0):=B1.out.cell 0;have g1:W6.cell? ⟨w.heap.size,1,none⟩=some (.int .i64 0):=B1.out.cell 1;have g2:=B1.out.free 0;have g3:=B1.out.free 1;go_wp2;obtain⟨W4,hW4,O4,h0,h1⟩:=Zaz O1.out (by omega) B1.out a n;rw[hW4];exact bodyPost_ret (v:=.agg #[.int .i64 a,.int .i64 n]) (by simp[results,Tryz.results138,go_sem,h0,h1]) rfl ⟨rfl,O4⟩
theorem Znh (h:SBox w g s vw vt vf vs) (hc:CFit s.cf) (ht:I64 s.top):Calls Tryz.prog 104 #[.pointer (some ⟨g,0,none⟩)] w fun e w'=>e=.returned (.bool (r3 s))∧Only nob w w':=by
 have hfb:=Zeq s;have htp:=ht;unfold I64 at htp;have HF:=ZZ (fun (w:World) (h:SBox w g s vw vt vf vs)=>Zo1 h hc);have HX:=ZZ h
 obtain⟨a,ha⟩: ∃a,a=s.frm.1:=⟨_,rfl⟩
 obtain⟨n,hn⟩: ∃n,n=s.frm.2:=⟨_,rfl⟩
 have HR:=ZZ (show r3 s=decide (a≤s.top∧s.top≤a+n) by rw[ha,hn];rfl);rw[← ha, ← hn] at HF hfb
 obtain⟨r,hr⟩: ∃r,r=r3 s:=⟨_,rfl⟩
 rw[← hr] at HR ⊢;clear ha hn ht hr h
 go_enter Tryz.func104,Tryz.ntmps104
 go_wp2_with fail
 go_at_call 138;refine(HF.out _ HX.out).mono ?_;rintro e w1 ⟨rfl,o⟩;obtain⟨W3,hW3,HB3⟩:=Z8 w1 a n;have HW3:=ZZ hW3;have oo:=o.trans HB3.out.1;have O3:=ZZ oo;have X3:=ZZ (HX.out.keep oo);clear o oo hW3
 go_upto_region 2 with fail
 rw[HW3.out];obtain⟨c0,c1,c2,c3,c4,c5,c6,c7,c8,c9⟩:=X3.out;obtain⟨-, -,d0,d1⟩:=HB3.out;clear c0 c1 c2 c3 c4 c5 c7 c8 c9;by_cases h1:a≤s.top
 · by_cases h2:s.top≤a+n
   · have HQ:=ZZ (HR.out.trans (Yl ⟨h1,h2⟩))
     go_quiet (fail)
     go_wp2;go_ret;exact⟨Za (by rw[HQ.out]),O3.out.drewN _⟩
   · have HQ:=ZZ (HR.out.trans (Yk fun h=>h2 h.2))
     go_quiet (fail)
     go_wp2;go_ret;exact⟨Za (by rw[HQ.out]),O3.out.drewN _⟩
 · have HQ:=ZZ (HR.out.trans (Yk fun h=>h1 h.1))
   go_quiet (fail)
   go_wp2;go_ret;exact⟨Za (by rw[HQ.out]),O3.out.drewN _⟩
end
end
section
open Go.RowKit
theorem Zds.ne_blk {w:World} {mp n g:Nat} {l:List Nat} {K:List Int} {t:TypeId} {cs:Array Value} (h:Zds w mp n l K) (b:Blk w g t cs):g≠mp:=by
 rintro rfl;obtain⟨D,⟨es,clock,hb, -⟩, -⟩:=h;unfold Blk at b;rw[b] at hb
 cases hb
theorem Zds.ne_own {w:World} {mp n base:Nat} {l:List Nat} {K:List Int} {E:TypeId} {z m:Nat} {v:Value} {xs:List Value} (h:Zds w mp n l K) (b:w.ownsRow base E z v m xs): ∀k,v.ownBlock=some k→k≠mp:=by
 rintro k hk rfl;obtain⟨D,⟨es,clock,hb, -⟩, -⟩:=h
 rcases b.2 with⟨rfl, -⟩|⟨g,cap,cur,rfl,_,hg, -⟩
 · cases hk
 · have:k=g:=by
    have e:some g=some k:=hk;exact(Yo e).symm
   subst this;rw[hg] at hb
   cases hb
theorem Zpn {w:World} {g base:Nat} {E t:TypeId} {z m:Nat} {v:Value} {xs:List Value} {cs:Array Value} (h:Blk w g t cs) (hne:E≠t) (b:w.ownsRow base E z v m xs): ∀k,v.ownBlock=some k→k≠g:=by
 rintro k hk rfl
 rcases b.2 with⟨rfl, -⟩|⟨g,cap,cur,rfl,_,hg, -⟩
 · cases hk
 · have:k=g:=by
    have e:some g=some k:=hk;exact(Yo e).symm
   subst this;unfold Blk at h;rw[hg] at h;have h2:=Yo h
   injection h2 with _ e2
   exact hne e2
structure Lk (w:World) (base g ba ga mp n:Nat) (s:St) (vw vt vf vs vm:Value) (L K:List Int):Prop where
 blk:Blk w g 123 #[.int .i64 s.cf.semi,.int .i64 s.cf.large,.int .i64 s.cf.slots,.int .i64 s.cf.limit,.bool s.sec,vw,.int .i64 s.top,vt,vf,vs,.pointer (some ⟨ba,0,none⟩),vm,.map (some mp)]
 ar:Ar w ba ga s.ws
 own:w.ownsRow base 3 1 vm L.length (i64s L)
 map:Zds w mp n s.ws K
 rd:Rd w base s vw vt vf vs
 par:Par w
 tab:0<base
 le:base≤w.heap.size
 bg:base≤g
 bb:base≤ba
 bga:base≤ga
 bm:base≤mp
section
variable {w w':World} {base g ba ga mp n:Nat} {s:St} {vw vt vf vs vm:Value} {L K:List Int}
theorem Lk.keep (h:Lk w base g ba ga mp n s vw vt vf vs vm L K) (o:Only nob w w'):Lk w' base g ba ga mp n s vw vt vf vs vm L K:=
 ⟨h.blk.keep o id,h.ar.keep o id id,Zb h.own o fun _ _=>id,h.map.keep o id,h.rd.only o h.le,h.par.old o,h.tab,Yh h.le o.size,h.bg,h.bb,h.bga,h.bm⟩
theorem Lk.turn (h:Lk w base g ba ga mp n s vw vt vf vs vm L K) (o:Only (isb mp) w w') {n':Nat} {K':List Int} (hm:Zds w' mp n' s.ws K'):Lk w' base g ba ga mp n' s vw vt vf vs vm L K':=
 have hb:=o.below h.le fun k hk=>by unfold isb at hk;rw[hk];exact h.bm
 ⟨h.blk.keep o (h.map.ne_blk h.blk),h.ar.keep o (h.map.ne_blk h.ar.head) (h.map.ne_blk h.ar.row),Zb h.own o (h.map.ne_own h.own),hm,h.rd.below hb,h.par.below hb h.tab,h.tab,Yh h.le o.size,h.bg,h.bb,h.bga,h.bm⟩
theorem Lk.box (h:Lk w base g ba ga mp n s vw vt vf vs vm L K):SBox w g s vw vt vf vs:=
 ⟨h.blk.cell 0,h.blk.cell 1,h.blk.cell 2,h.blk.cell 3,h.blk.cell 4,h.blk.cell 5,h.blk.cell 6,h.blk.cell 7,h.blk.cell 8,h.blk.cell 9⟩
theorem Lk.c10 (h:Lk w base g ba ga mp n s vw vt vf vs vm L K):w.cell? ⟨g,10,none⟩=some (.pointer (some ⟨ba,0,none⟩)):=h.blk.cell 10
theorem Lk.c11 (h:Lk w base g ba ga mp n s vw vt vf vs vm L K):w.cell? ⟨g,11,none⟩=some vm:=h.blk.cell 11
theorem Lk.c12 (h:Lk w base g ba ga mp n s vw vt vf vs vm L K):w.cell? ⟨g,12,none⟩=some (.map (some mp)):=h.blk.cell 12
end
section
variable {w w' w0:World} {base g ba ga mp n n0:Nat} {s:St} {vw vt vf vs vm vm0:Value} {L L0 K K0:List Int}
theorem Lk.under (h:Lk w base g ba ga mp n s vw vt vf vs vm L K):g<w.heap.size∧ba<w.heap.size∧ga<w.heap.size∧mp<w.heap.size∧ ∀k,vm.ownBlock=some k→k<w.heap.size:=
 ⟨h.blk.lt,h.ar.head.lt,h.ar.row.lt,h.map.lt,fun _ hk=>(Zr h.own hk).2⟩
theorem Lk.late (h:Lk w base g ba ga mp n s vw vt vf vs vm L K) {F:Nat→Prop} (o:Only F w w') (h0:Lk w0 base g ba ga mp n0 s vw vt vf vs vm L K0) (hF: ∀k,F k→w0.heap.size≤k):Lk w' base g ba ga mp n s vw vt vf vs vm L K:=by
 obtain⟨u1,u2,u3,u4,u5⟩:=h0.under;have hb:Below base w w':=o.below h.le fun k hk=>Yh h0.le (hF k hk);have hn: ∀{k:Nat},k<w0.heap.size→ ¬F k:=fun hk hf=>Nat.not_lt_of_le (hF _ hf) hk;exact⟨h.blk.keep o (hn u1),h.ar.keep o (hn u2) (hn u3),Zb h.own o (fun k hk=>hn (u5 k hk)),h.map.keep o (hn u4),h.rd.below hb,h.par.below hb h.tab,h.tab,Yh h.le o.size,h.bg,h.bb,h.bga,h.bm⟩
end
theorem ZfW {P:Program} (w:World) {ops:Array Oper} {rest:List Oper} {o:Oper} {a:Act} {Q:Exit→Act→World→Prop} (hg:o.guard=none) (m x v:Operand) (t:TypeId) (hop:o.op=Op.mapUpdate t m x v) (mv kv vv:Value)
 (hm:a.eval m=mv) (hx:a.eval x=kv) (hv:a.eval v=vv) (w':World) (hrun:(Instr.mapUpdate t mv kv vv).run P w=.ok () w') (hK:wpList P ops Q rest (a.put o.dst undef) w'):wpList P ops Q (o::rest) a w:=by
 refine wpList_plain hg fun K' hK'=>?_;unfold Oper.wp;simp[execOp,hop,hm,hx,hv,hrun,Result.andThen];exact hK' _ _ hK
theorem Zpl {w:World} {b:Nat} {t:TypeId} {z0 z1 z2 z3 z4:Value} (B:Blk w b t #[z0,z1,z2,z3,z4]) (x0 x1 x2 x3 x4:Value):
 ∃W4,(((((w.setCell ⟨b,0,none⟩ x0).setCell ⟨b,1,none⟩ x1).setCell ⟨b,2,none⟩ x2).setCell ⟨b,3,none⟩ x3).setCell ⟨b,4,none⟩ x4)=W4∧Only (isb b) w W4∧Blk W4 b t #[x0,x1,x2,x3,x4]:=by
 refine⟨_,rfl,((((Zc w b 0 x0).trans (Zc _ b 1 x1)).trans (Zc _ b 2 x2)).trans (Zc _ b 3 x3)).trans (Zc _ b 4 x4),?_⟩;simpa using((((B.put 0 x0).put 1 x1).put 2 x2).put 3 x3).put 4 x4
def Zd7 (l:List Nat) (p:Int):Bool:=decide (ohE l p=0)&&idle l p
section
variable {w:World} {base g ba ga mp n:Nat} {s:St} {vw vt vf vs vm:Value} {L K:List Int}
theorem Zj7 (h:Lk w base g ba ga mp n s vw vt vf vs vm L K) (p:Int) (hp:I64 p) (hb:Zd7 s.ws p=false):
 Calls Tryz.prog 140 #[.pointer (some ⟨g,0,none⟩),.int .i64 p] w fun e w'=>e=.returned (.tuple #[.agg #[.int .i64 0,.int .i64 0,.int .i64 0,.bool false,.int .i64 0],.bool false])∧Only nob w w':=by
 obtain⟨W,hW0,HB⟩:=Z0 w;have HWE:=ZZ hW0;have H1:=h.keep HB.out.1;have HH:=ZZ (Zdi ba ga s.ws p W H1.ar H1.par hp.2);have c10:=H1.c10
 have hway:ohE s.ws p≠0∨(ohE s.ws p=0∧ohM s.ws p=true)∨(ohE s.ws p=0∧ohM s.ws p=false∧ohC s.ws p≠0):=by
  unfold Zd7 idle at hb;by_cases h1:ohE s.ws p=0
  · cases h2:ohM s.ws p with
    |true=>exact .inr (.inl ⟨h1,rfl⟩)
    |false=>
     refine .inr (.inr ⟨h1,rfl,fun h3=>?_⟩);simp[h1,h2,h3] at hb
  · exact .inl h1
 obtain⟨k,hk⟩: ∃k,k=ohK s.ws p:=⟨_,rfl⟩
 obtain⟨f,hf⟩: ∃k,k=ohF s.ws p:=⟨_,rfl⟩
 obtain⟨r,hr⟩: ∃k,k=ohR s.ws p:=⟨_,rfl⟩
 obtain⟨m,hm⟩: ∃k,k=ohM s.ws p:=⟨_,rfl⟩
 obtain⟨c,hc⟩: ∃k,k=ohC s.ws p:=⟨_,rfl⟩
 obtain⟨E,hE⟩: ∃k,k=ohE s.ws p:=⟨_,rfl⟩
 rw[← hk, ← hf, ← hr, ← hm, ← hc, ← hE] at HH;rw[← hE, ← hm, ← hc] at hway;clear hW0 h H1 hb hk hf hr hm hc hE hp
 go_enter Tryz.func140,Tryz.ntmps140
 go_upto_region 1 with fail
 rw[HWE.out]
 go_wp2_with fail
 go_at_call 100;refine HH.out.mono ?_;rintro e w1 ⟨rfl,o⟩;obtain⟨W3,hW3,HB3⟩:=ZU w1 k f r m c;have HW3:=ZZ hW3;have O3:=ZZ (HB.out.1.trans (o.trans HB3.out.1));have B3:=ZZ (HB.out.2.keep (o.trans HB3.out.1) id);clear hW3 o c10
 go_upto_region 2 with fail
 rw[HW3.out];obtain⟨c0,c1,c2,c3,c4⟩:=Zz HB3.out.2;obtain⟨s0,s1,s2,s3,s4⟩:=Zz B3.out;obtain⟨r0,r1,r2,r3,r4⟩:=ZcN B3.out
 rcases hway with hE|⟨rfl,rfl⟩|⟨rfl,rfl,hC⟩
 · have hbq:(E !=0)=true:=by simpa using hE
   clear hE;go_wp2;clear s0 s1 s2 s3 s4 r0 r1 r2 r3 r4;obtain⟨W6,hW6,O6,B6⟩:=Ze7 O3.out (Yi _) B3.out (.int .i64 0) (.int .i64 0) (.int .i64 0) (.bool false) (.int .i64 0)
   with_reducible rw[hW6]
   obtain⟨h0,h1,h2,h3,h4⟩:=Zz B6;exact bodyPost_ret (v:=.tuple #[.agg #[.int .i64 0,.int .i64 0,.int .i64 0,.bool false,.int .i64 0],.bool false]) (by simp[results,Tryz.results140,go_sem,h0,h1,h2,h3,h4]) rfl ⟨rfl,O6⟩
 · go_wp2
   clear s0 s1 s2 s3 s4 r0 r1 r2 r3 r4;obtain⟨W6,hW6,O6,B6⟩:=Ze7 O3.out (Yi _) B3.out (.int .i64 0) (.int .i64 0) (.int .i64 0) (.bool false) (.int .i64 0)
   with_reducible rw[hW6]
   obtain⟨h0,h1,h2,h3,h4⟩:=Zz B6;exact bodyPost_ret (v:=.tuple #[.agg #[.int .i64 0,.int .i64 0,.int .i64 0,.bool false,.int .i64 0],.bool false]) (by simp[results,Tryz.results140,go_sem,h0,h1,h2,h3,h4]) rfl ⟨rfl,O6⟩
 · have hbq:(c !=0)=true:=by simpa using hC
   clear hC;go_wp2;clear s0 s1 s2 s3 s4 r0 r1 r2 r3 r4;obtain⟨W6,hW6,O6,B6⟩:=Ze7 O3.out (Yi _) B3.out (.int .i64 0) (.int .i64 0) (.int .i64 0) (.bool false) (.int .i64 0)
   with_reducible rw[hW6]
   obtain⟨h0,h1,h2,h3,h4⟩:=Zz B6;exact bodyPost_ret (v:=.tuple #[.agg #[.int .i64 0,.int .i64 0,.int .i64 0,.bool false,.int .i64 0],.bool false]) (by simp[results,Tryz.results140,go_sem,h0,h1,h2,h3,h4]) rfl ⟨rfl,O6⟩
theorem Zg9 (h:Lk w base g ba ga mp n s vw vt vf vs vm L K) (p:Int) (hp:I64 p) (hn:n<1000000) (hb:Zd7 s.ws p=true):
 Calls Tryz.prog 140 #[.pointer (some ⟨g,0,none⟩),.int .i64 p] w fun e w'=>e=.returned (.tuple #[hV s.ws p,.bool true])∧Lk w' base g ba ga mp (n+1) s vw vt vf vs vm L (K++[p])∧Only (isb mp) w w':=by
 obtain⟨W,hW0,HB⟩:=Z0 w;have HWE:=ZZ hW0;have HK:=ZZ (h.keep HB.out.1);have HL:=ZZ h;have HM:=ZZ (fun (w:World) (hm:Zds w mp n s.ws K)=>hm.put p hp hn);have HH:=ZZ (Zdi ba ga s.ws p W HK.out.ar HK.out.par hp.2);have c10:=HK.out.c10
 have hway:ohE s.ws p=0∧ohM s.ws p=false∧ohC s.ws p=0:=by
  unfold Zd7 idle at hb;simpa using hb
 unfold hV at HM ⊢
 obtain⟨k,hk⟩: ∃k,k=ohK s.ws p:=⟨_,rfl⟩
 obtain⟨f,hf⟩: ∃k,k=ohF s.ws p:=⟨_,rfl⟩
 obtain⟨r,hr⟩: ∃k,k=ohR s.ws p:=⟨_,rfl⟩
 rw[hway.1,hway.2.1,hway.2.2] at HH;rw[hway.2.1,hway.2.2] at HM ⊢;rw[← hk, ← hf, ← hr] at HH HM ⊢;clear hW0 h hb hk hf hr hp hway hn
 go_enter Tryz.func140,Tryz.ntmps140
 go_upto_region 1 with fail
 rw[HWE.out]
 go_wp2_with fail
 go_at_call 100;refine HH.out.mono ?_;rintro e w1 ⟨rfl,o⟩;obtain⟨W3,hW3,HB3⟩:=ZU w1 k f r false 0;have HW3:=ZZ hW3;have K3:=ZZ (HK.out.keep (o.trans HB3.out.1));have O3:=ZZ (HB.out.1.trans (o.trans HB3.out.1));have B3:=ZZ (HB.out.2.keep (o.trans HB3.out.1) id);clear hW3 o c10
 go_upto_region 2 with fail
 rw[HW3.out];obtain⟨c0,c1,c2,c3,c4⟩:=Zz HB3.out.2
 go_upto_region 4 with fail
 have c12:=Zh K3.out.c12;obtain⟨d0,d1,d2,d3,d4⟩:=Zfa HB3.out.2;clear c0 c1 c2 c3 c4;refine ZaH 6 Zbx (by kernel_rfl) ?_;simp only[List.take,List.drop]
 repeat (with_reducible refine wpQuiet_step ?_;intro K' hK';go_simp;(with_reducible refine hK' _ ?_;clear hK' K'))
 refine wpQuiet_nil ?_;rintro w' ⟨⟨nq,osq⟩,rfl⟩;obtain⟨W6,hW6,O6⟩:=Zt W3 nq osq;rw[hW6];have K6:=ZZ (K3.out.keep O6.out);have B6:=ZZ (B3.out.keep O6.out id);have D6:=ZZ (HB3.out.2.keep O6.out id);have OO:=ZZ (O3.out.trans O6.out);clear hW6 c12 d0 d1 d2 d3 d4;obtain⟨w7,hrun,hm7,o7⟩:=HM.out W6 K6.out.map;have HR:=ZZ hrun;have O7:=ZZ o7;have K7:=ZZ (K6.out.turn o7 hm7);have B7:=ZZ (B6.out.keep o7 (K6.out.map.ne_blk B6.out));have D7:=ZZ (D6.out.keep o7 (K6.out.map.ne_blk D6.out));clear hrun hm7 o7;obtain⟨c0,c1,c2,c3,c4⟩:=Zz D7.out;obtain⟨s0,s1,s2,s3,s4⟩:=Zz B7.out;obtain⟨r0,r1,r2,r3,r4⟩:=ZcN B7.out
 go_wp2_with (first|(at_mapUpdate;refine ZfW _ rfl _ _ _ _ rfl _ _ _ rfl rfl rfl _ HR.out ?_)|fail)
 clear s0 s1 s2 s3 s4 r0 r1 r2 r3 r4 c0 c1 c2 c3 c4;obtain⟨W8,hW8,O8,B8⟩:=Zpl B7.out (.int .i64 k) (.int .i64 f) (.int .i64 r) (.bool false) (.int .i64 0)
 with_reducible rw[hW8]
 obtain⟨h0,h1,h2,h3,h4⟩:=Zz B8;have K8:=K7.out.late O8 HL.out (fun k hk=>by unfold isb at hk;omega)
 have Q8:Only (isb mp) w W8:=((OO.out.mono fun _ _ h=>h.elim).andThen O7.out fun _ _ h=>h).andThen O8 fun i hi e=>by unfold isb at e;omega
 exact bodyPost_ret (v:=.tuple #[.agg #[.int .i64 k,.int .i64 f,.int .i64 r,.bool false,.int .i64 0],.bool true]) (by simp[results,Tryz.results140,go_sem,h0,h1,h2,h3,h4]) rfl ⟨rfl,K8,Q8⟩
end
end
section
open Go.RowKit
theorem ZjF (s:St):s.steps.length≤1000000:=by
 unfold St.steps Zad
 split
 · rename_i hm
   have:=ZmF (Zez s.ws) (top:=s.top) s.frm.1
   have hb:=Zeq s;obtain⟨-,h1,h2⟩:=hm
   split at this <;> omega
 · simp
theorem ZeJ (w:World) (g:Nat) (u:Value):Only (isb g) w (w.setCell ⟨g,11,none⟩ u):=Zc w g 11 u
section
variable {w:World} {base g ba ga mp n:Nat} {s:St} {vw vt vf vs vm:Value} {K:List Int}
theorem Lk.small (h:Lk w base g ba ga mp n s vw vt vf vs vm [] K) {v:Value} {L:List Int} (hv:w.ownsRow base 3 1 v L.length (i64s L)):Lk (w.setCell ⟨g,11,none⟩ v) base g ba ga mp n s vw vt vf vs v L K:=by
 have o:=ZeJ w g v
 have hb:Below base w (w.setCell ⟨g,11,none⟩ v):=o.below h.le fun k hk=>by unfold isb at hk;rw[hk];exact h.bg
 have n1:ba≠g:=h.ar.head.ne h.blk (by decide);have n2:ga≠g:=h.ar.row.ne h.blk (by decide);refine⟨?_,h.ar.keep o n1 n2,Zb hv o (Zpn h.blk (by decide) hv),h.map.keep o (fun e=>h.map.ne_blk h.blk e.symm),h.rd.below hb,h.par.below hb h.tab,h.tab,Yh h.le o.size,h.bg,h.bb,h.bga,h.bm⟩
 have:=h.blk.put 11 v
 simpa using this
theorem Zil (h:Lk w base g ba ga mp n s vw vt vf vs vm [] K) (hc:CFit s.cf):
 Calls Tryz.prog 105 #[.pointer (some ⟨g,0,none⟩)] w fun e w'=>e=.returned (.bool (decide (wkE s.steps=0)))∧ ∃vm',Lk w' base g ba ga mp n s vw vt vf vs vm' s.smalls K∧Only (isb g) w w':=by
 have HL:=ZZ h;have D0:=ZZ (show Only nob w w.drew from(Only.refl nob w).drewN 1);have HF:=ZZ (show ∀W',Only nob w W'→Calls Tryz.prog 138 #[.pointer (some ⟨g,0,none⟩)] W' fun e w'=>e=.returned (.agg #[.int .i64 s.frm.1,.int .i64 s.frm.2])∧Only nob W' w' from fun W' o=>Zo1 (HL.out.keep o).box hc)
 have HWK:=ZZ (show ∀W',Only nob w W'→Calls Tryz.prog 139 #[.pointer (some ⟨ba,0,none⟩),.agg #[.int .i64 s.frm.1,.int .i64 s.frm.2],.int .i64 s.top] W' fun e w'=> ∃v',e=.returned (.tuple #[v',.int .i64 (wkE s.steps)])∧w'.ownsRow base 3 1 v' s.smalls.length (i64s s.smalls)∧Only nob W' w' from fun W' o=>by
  have h2:=HL.out.keep o;have u:=h2.under;refine(ZpB _ (hAr s.ws) s.frm s.top W' (Zlg h2.ar u.2.1 u.2.2.1 h2.par (Yv h2.tab h2.le)) (ZbC s.cf s.sec).1 (ZjF s)).mono ?_;rintro e w' ⟨v',rfl,hO,o3⟩
  exact⟨v',rfl,Zak hO fun k hk=>Yh h2.le (Zr hO hk).1,o3⟩)
 obtain⟨c0,c1,c2,c3,c4,c5,c6,c7,c8,c9⟩:=h.box;have c10:=h.c10;have mixed:=Zbx
 obtain⟨a,ha⟩: ∃a,a=s.frm.1:=⟨_,rfl⟩
 obtain⟨z,hz⟩: ∃a,a=s.frm.2:=⟨_,rfl⟩
 obtain⟨q,hq⟩: ∃q,q=wkE s.steps:=⟨_,rfl⟩
 rw[← ha, ← hz] at HF HWK;rw[← hq] at HWK ⊢;clear h ha hz hq c0 c1 c2 c3 c4 c5 c7 c8 c9
 go_enter Tryz.func105,Tryz.ntmps105
 go_upto_region 2 with fail
 go_region_held3 (fun w'=>w'.cell? ⟨g,10,none⟩=some (.pointer (some ⟨ba,0,none⟩))∧w'.cell? ⟨g,6,none⟩=some (.int .i64 s.top)) (first|go_keep|with_reducible exact C1.out|with_reducible exact CS.out)
  (first
    |(go_at_call 138
      with_reducible refine(HF.out _ D0.out).mono ?_
      rintro e wA ⟨rfl,o⟩;have OA:=ZZ o.drewL;have C1:=ZZ (show wA.cell? ⟨g,10,none⟩=some (.pointer (some ⟨ba,0,none⟩))∧wA.cell? ⟨g,6,none⟩=some (.int .i64 s.top) from⟨OA.out.keeps c10,OA.out.keeps c6⟩)
      clear o)
    |(go_at_call 139
      with_reducible refine(HWK.out _ OA.out).mono ?_
      rintro e wB ⟨v0,rfl,hO,o⟩;have OB:=ZZ (OA.out.trans o);have HOW:=ZZ hO;obtain⟨A0,k0,rfl, -, -⟩:=Zl hO;have KB:=ZZ (HL.out.keep OB.out);have C1:=ZZ (show wB.cell? ⟨g,10,none⟩=some (.pointer (some ⟨ba,0,none⟩))∧wB.cell? ⟨g,6,none⟩=some (.int .i64 s.top) from⟨OB.out.keeps c10,OB.out.keeps c6⟩);have c11:=KB.out.c11;have r11:=KB.out.blk.free 11;have K9:=ZZ (KB.out.small HOW.out);have CS:=ZZ (show(wB.setCell ⟨g,11,none⟩ (.slice A0 s.smalls.length k0)).cell? ⟨g,10,none⟩=some (.pointer (some ⟨ba,0,none⟩))∧(wB.setCell ⟨g,11,none⟩ (.slice A0 s.smalls.length k0)).cell? ⟨g,6,none⟩=some (.int .i64 s.top) from⟨K9.out.c10,K9.out.box.c6⟩)
      clear hO o))
 all_goals
  clear c6 c10;have O9:=ZZ ((OB.out.mono fun _ _ h=>h.elim:Only (isb g) w wB).trans (ZeJ wB g (.slice A0 s.smalls.length k0)));go_wp2;go_ret;exact⟨Za (by by_cases h:q=0 <;> simp[h]),_,K9.out,O9.out⟩
end
end
section
open Go.RowKit
section
variable {w:World} {base g ba ga mp n:Nat} {s:St} {vw vt vf vs vm:Value} {L K:List Int}
theorem Zmf (h:Lk w base g ba ga mp n s vw vt vf vs vm L K) (hl:L.length≤32768) (ht:s.tb.length≤1000):
 Calls Tryz.prog 66 #[.pointer (some ⟨g,0,none⟩)] w fun e w'=> ∃v',e=.returned v'∧w'.ownsRow w.heap.size 3 1 v' (L++s.tb.map (·.1)).length (i64s (L++s.tb.map (·.1)))∧Only nob w w':=by
 obtain⟨j0,hj0,hy0,hy1,hy2⟩:=info_parts Zcq;have HL:=ZZ h;obtain⟨At,ct,rfl,hat,hct⟩:=h.rd.tab.form;obtain⟨Am,cm,rfl,ham,hcm⟩:=Zl h.own;unfold maxLen at hct hcm;have HCL:=ZZ (ZiH (.slice Am L.length cm) L w.heap.size w (Sl.of_own h.own (by simp[i64s])) (Yi _) (by omega));have c11:=h.c11
 obtain⟨T,hT⟩: ∃T,T=L++s.tb.map (·.1):=⟨_,rfl⟩
 have HT:=ZZ hT;rw[← hT];clear h hT
 go_enter Tryz.func66,Tryz.ntmps66
 go_wp2_with fail
 go_at_call 97;refine HCL.out.mono ?_;rintro e w1 ⟨v1,rfl,hO,o⟩;have O1:=ZZ o;have R1:=ZZ hO;have K1:=ZZ (HL.out.keep o);clear o hO c11;obtain⟨c0,c1,c2,c3,c4,c5,c6,c7,c8,c9⟩:=K1.out.box;clear c0 c1 c2 c3 c4 c5 c6 c8 c9
 go_wp2_with fail
 go_loopw [3,17] (fun v i wr=> ∃k:Nat,k≤s.tb.length∧i=.int .i64 k∧Hid (wr.ownsRow w.heap.size 3 1 v (L++(s.tb.take k).map (·.1)).length (i64s (L++(s.tb.take k).map (·.1))))∧Hid (Only nob w wr)) (fun _ i _=>s.tb.length - (intOf i).toNat)
 case atStart=>exact⟨0,Yt _,rfl,ZZ (by simpa using R1.out),ZZ O1.out⟩
 case round=>
  obtain⟨k,hk,rfl,HRW,HO⟩:=hrel;obtain⟨Ar,cr,rfl,hcr,hmr⟩:=Zl HRW.out;unfold maxLen at hmr;clear c7;by_cases hlt:k<s.tb.length
  · obtain⟨x,hx⟩: ∃x,s.tb[k]? =some x:=⟨_,Ya hlt⟩
    obtain⟨b,o,rfl,hb,d0,d1⟩:=Zy HL.out.rd.tab (HO.out.below HL.out.le fun _ h=>h.elim) hx;have HSN:=ZZ (show L++(s.tb.take (k+1)).map (·.1)=(L++(s.tb.take k).map (·.1))++[x.1] by rw[List.take_add_one,hx];simp)
    obtain⟨P,hP⟩: ∃P,P=L++(s.tb.take k).map (·.1):=⟨_,rfl⟩
    have hPl:P.length≤100000:=by rw[hP];simp;omega
    rw[← hP] at HRW HSN hcr ⊢
    obtain⟨n',hn⟩: ∃n,n=P.length:=⟨_,rfl⟩
    have HN:=ZZ hn;rw[← hn] at HRW hcr hPl ⊢;obtain⟨W3,hW3,HB3⟩:=Z8 wr x.1 x.2;have HW3:=ZZ hW3;clear hP hn hx hW3
    go_upto_region 5 with fail
    rw[HW3.out];have O3:=ZZ (HO.out.trans HB3.out.1);have hww:w.heap.size≤W3.heap.size:=O3.out.size;obtain⟨-, -,e0,e1⟩:=HB3.out;clear d0 d1 e1
    go_wp2_with (with_reducible refine Zf (o:=⟨some 25,_,_,_,_,_⟩) _ rfl (.tmp 21) (.tmp 24) _ rfl w.heap.size 3 j0 _ 1 8 Tryz.underlying38 hj0 hy0 hy1 hy2 rfl (by decide) (.slice Ar n' cr) n' (i64s P) rfl ?c1 (W3.heap.size+1) (.slice (some ⟨W3.heap.size,0,none⟩) 1 1) 1 (i64s [x.1]) rfl ?c6 (ZbM _) ?c2 ?c3 ?c4 ?c5)
    case c1=>exact Zb HRW.out (HB3.out.1.alloc _) (fun _ _ h=>h)
    case c6=>exact ZkW W3 _
    case c2=>unfold maxLen;omega
    case c3=>omega
    case c4=>simp;omega
    case c5=>
     intro v6 w6 H6 o6 _
     have HR6:=ZZ (show w6.ownsRow w.heap.size 3 1 v6 (L++(s.tb.take (k+1)).map (·.1)).length (i64s (L++(s.tb.take (k+1)).map (·.1))) by
      rw[HSN.out,Yr,ZaG, ← HN.out]
      exact H6.out)
     have h1:=Zb HRW.out (HB3.out.1.alloc (.cells #[.int .i64 x.1] 3)) (fun _ _ h=>h);have O6:=ZZ (Zbi (O3.out.alloc (.cells #[.int .i64 x.1] 3)) h1 o6 (Yi _));clear H6 o6 h1 e0;go_wp2
     go_roundw
     case rel=>exact⟨k+1,by omega,by go_num,HR6,O6⟩
     case measure=>simp[intOf];omega
  · obtain rfl:k=s.tb.length:=by omega
    have HE:=ZZ (show L++(s.tb.take s.tb.length).map (·.1)=T by rw[List.take_length,HT.out]);rw[HE.out] at HRW hcr ⊢
    obtain⟨n',hn⟩: ∃n,n=T.length:=⟨_,rfl⟩
    have HN:=ZZ hn;rw[← hn] at HRW hcr ⊢;clear hn;go_wp2;go_ret;exact⟨_,rfl,by rw[← HN.out];exact HRW.out,HO.out⟩
theorem ZoC (x:Nat) (hx:x<full):I64 (dX (x:Nat)):=by
 unfold full at hx;unfold dX I64
 split
 · split <;> omega
 · split <;> omega
theorem Zci (h:Lk w base g ba ga mp n s vw vt vf vs vm L K) (x:Nat) (hx:x<full):
 Calls Tryz.prog 145 #[.pointer (some ⟨g,0,none⟩),.int .u64 (x:Nat)] w fun e w'=>e=.returned (.bool (!leads K x))∧Only nob w w':=by
 have HL:=ZZ h
 have hx63:0≤((x:Nat):Int)∧((x:Nat):Int)<18446744073709551616:=by unfold full at hx;omega
 have HD:=ZZ (Zjs hx63 w);have HX:=ZZ (ZoC x hx)
 obtain⟨k,hk⟩: ∃K,K=dK (x:Nat):=⟨_,rfl⟩
 obtain⟨X,hX⟩: ∃X,X=dX (x:Nat):=⟨_,rfl⟩
 obtain⟨E,hE⟩: ∃E,E=dE (x:Nat):=⟨_,rfl⟩
 have HQ:=ZZ (show leads K x=(decide (E=0)&&(!decide (k=2)||ZaU K X)) by rw[hk,hX,hE];rfl);rw[← hk, ← hX, ← hE] at HD;rw[← hX] at HX
 obtain⟨q,hq⟩: ∃q,q=leads K x:=⟨_,rfl⟩
 rw[← hq] at HQ ⊢;clear hx hx63 hk hX hE hq h
 go_enter Tryz.func145,Tryz.ntmps145
 go_wp2_with fail
 go_at_call 67;refine HD.out.mono ?_;rintro e w1 ⟨rfl,o⟩;obtain⟨W3,hW3,H3⟩:=Zau w1 k X;have HW3:=ZZ hW3;have O3:=ZZ (o.trans H3.out.1);have K3:=ZZ (HL.out.keep O3.out);clear hW3 o
 go_upto_region 2 with fail
 rw[HW3.out];by_cases hE0:E=0
 · subst hE0
   have hb:q=(!decide (k=2)||ZaU K X):=by rw[HQ.out];simp
   go_upto_region 4 with fail
   obtain⟨a1,a2,a3,a4,a5,hv⟩: ∃(a1 a2 a3:Int) (a4:Bool) (a5:Int),(if ZaU K X then hV s.ws X else hZero)=.agg #[.int .i64 a1,.int .i64 a2,.int .i64 a3,.bool a4,.int .i64 a5]:=by
    unfold hV hZero
    split
    · exact⟨_,_,_,_,_,rfl⟩
    · exact⟨_,_,_,_,_,rfl⟩
   have HLK: ∀W',Only nob W3 W'→(Instr.lookup 120 (.map (some mp)) (.int .i64 X) true).run Tryz.prog W'=.ok (.tuple #[.agg #[.int .i64 a1,.int .i64 a2,.int .i64 a3,.bool a4,.int .i64 a5],.bool (ZaU K X)]) W':=fun W' o=>by
    obtain⟨v,e,h2⟩:=(K3.out.map.keep o id).look X HX.out;rw[e,h2,hv]
   obtain⟨one,hone⟩: ∃one,one=ZaU K X:=⟨_,rfl⟩
   rw[← hone] at HLK hb;have HB:=ZZ hb;have o1:Only nob W3 W3.drew:=(Only.refl nob W3).drewN 1;have o2:Only nob W3 (W3.alloc (.cells #[.int .i64 0,.int .i64 0,.int .i64 0,.bool false,.int .i64 0] 108)).drew:=((Only.refl nob W3).alloc _).drewN 1;have O2:=ZZ o2;have c12:=K3.out.c12;have d1:=H3.out.2.2;have e12:=o2.keeps c12;have f1:=o2.keeps d1;have l1:=HLK _ o1;have l2:=HLK _ o2;have BZ:Blk (W3.alloc (.cells #[.int .i64 0,.int .i64 0,.int .i64 0,.bool false,.int .i64 0] 108)).drew W3.heap.size 108 #[.int .i64 0,.int .i64 0,.int .i64 0,.bool false,.int .i64 0]:=Blk.new W3 _ _;have HBZ:=ZZ BZ;obtain⟨y0,y1,y2,y3,y4⟩:=Zz BZ;obtain⟨z0,z1,z2,z3,z4⟩:=ZcN BZ;clear hv hone hb o1 o2 HLK BZ
   go_cut [7,8] (fun s7 s8 wx=> ∃bq:Nat,s7=.pointer (some ⟨bq,0,none⟩)∧s8=.bool one∧Hid (Only nob W3 wx))
   case first=>
    go_region
    all_goals
     go_wp2
     go_meet
     refine⟨_,rfl,rfl,ZZ ?_⟩
     first
     |exact((Only.refl nob W3).alloc _).drewN 1
     |exact(((Only.refl nob W3).drewN 1).alloc _)
     |exact Zi (Zi (Zi (Zi (Zi O2.out (Yi _) _) (Yi _) _) (Yi _) _) (Yi _) _) (Yi _) _
   case rest=>
   obtain⟨bq,rfl,rfl,HC⟩:=hcut;clear c12 d1 e12 f1 l1 l2 y0 y1 y2 y3 y4 z0 z1 z2 z3 z4;have d0:=HC.out.keeps H3.out.2.1;by_cases hk:k=2
   · subst hk
     have HF:=ZZ (show(!one)=!q by rw[HB.out];simp);go_wp2;go_ret;exact⟨Za HF.out,O3.out.trans HC.out⟩
   · have hbq:(k==2)=false:=by simpa using hk
     have HF:=ZZ (show(false:Bool)=!q by rw[HB.out];simp[hk]);clear hk;go_wp2;go_ret;exact⟨Za HF.out,O3.out.trans HC.out⟩
 · have hbq:(E !=0)=true:=by simpa using hE0
   have HF:=ZZ (show(true:Bool)=!q by rw[HQ.out];simp[hE0]);clear hE0;go_wp2;go_ret;exact⟨Za HF.out,O3.out⟩
theorem Zn7 (h:Lk w base g ba ga mp n s vw vt vf vs vm L K) (p:Nat) (hk:ZaU K p=true) (h0:ohE s.ws p=0) (hl:s.ws.length≤98304):
 Calls Tryz.prog 144 #[.pointer (some ⟨g,0,none⟩),.int .i64 (p:Int)] w fun e w'=> ∃v',e=.returned v'∧Sl w' base 1 v' (Zkf s.ws (p+1) (ohF s.ws p).toNat).length (u64s (Zkf s.ws (p+1) (ohF s.ws p).toNat))∧Only nob w w':=by
 have hb:=Zcg h0;obtain⟨Aw,cw,rfl,haw,hcw⟩:=h.rd.words.form;have HA:=ZZ h.rd.words;have HLE:=ZZ h.le;have hm:=h.map.at_ p (by unfold I64;omega) hk;unfold hV at hm
 obtain⟨k,hkk⟩: ∃k,k=ohK s.ws p:=⟨_,rfl⟩
 obtain⟨f,hf⟩: ∃k,k=ohF s.ws p:=⟨_,rfl⟩
 obtain⟨r,hr⟩: ∃k,k=ohR s.ws p:=⟨_,rfl⟩
 obtain⟨m,hm'⟩: ∃k,k=ohM s.ws p:=⟨_,rfl⟩
 obtain⟨c,hc⟩: ∃k,k=ohC s.ws p:=⟨_,rfl⟩
 rw[← hkk, ← hf, ← hr, ← hm', ← hc] at hm;rw[← hf, ← hr] at hb;rw[← hf]
 obtain⟨fn,rfl⟩: ∃fn:Nat,f=fn:=⟨f.toNat,by omega⟩
 obtain⟨H1,H2,H3,H4, -⟩:=hb;have c5:=h.box.c5;have c12:=h.c12
 have hlen:p+1+fn≤s.ws.length:=by omega
 have HS:=ZZ hlen
 have hcut: ∀w:World,(Instr.sliceAt 30 (.slice Aw s.ws.length cw) (some (.int .i64 ((p+1:Nat):Int))) (some (.int .i64 ((p+1+fn:Nat):Int))) none).run Tryz.prog w=.ok (ZbU Aw (p+1) (p+1+fn) cw 1) w:=fun w=>by
  obtain⟨i,hi, -,h1, -⟩:=info_parts ZhP
  have:=Zep Tryz.underlying30 hi Aw s.ws.length cw (p+1) (p+1+fn) (by omega) (by omega) w
  rw[h1] at this;exact this
 have e1:((p+1:Nat):Int)=(p:Int)+1:=by omega
 have e2:((p+1+fn:Nat):Int)=(p:Int)+1+(fn:Int):=by omega
 rw[e1,e2] at hcut
 have hw: ∀W',Only nob w W'→(Instr.lookup 120 (.map (some mp)) (.int .i64 (p:Int)) false).run Tryz.prog W'=.ok (.agg #[.int .i64 k,.int .i64 fn,.int .i64 r,.bool m,.int .i64 c]) W':=fun W' o=>by
  have:=(h.map.keep o id).at_ p (by unfold I64;omega) hk
  unfold hV at this;rw[← hkk, ← hf, ← hr, ← hm', ← hc] at this;exact this
 have hw1: ∀n,(Instr.lookup 120 (.map (some mp)) (.int .i64 (p:Int)) false).run Tryz.prog (w.drewN n)=.ok (.agg #[.int .i64 k,.int .i64 fn,.int .i64 r,.bool m,.int .i64 c]) (w.drewN n):=fun n=>hw _ ((Only.refl nob w).drewN n);have hw2:=hw1 1
 have hfd: ∀w:World,(Instr.field 108 (.agg #[.int .i64 k,.int .i64 fn,.int .i64 r,.bool m,.int .i64 c]) 1).run Tryz.prog w=.ok (.int .i64 fn) w:=fun w=>by kernel_rfl
 have i1:(0:Int)≤(p:Int)+1:=by omega
 have i2:(p:Int)+1≤(p:Int)+1+(fn:Int):=by omega
 have i3:(p:Int)+1+(fn:Int)≤(s.ws.length:Int):=by omega
 have i4:(p:Int)+1+(fn:Int)≤98304:=by omega
 have i5:(p:Int)≤98304:=by omega
 clear hm hkk hf hr hm' hc hw h hk h0 hl e1 e2
 go_enter Tryz.func144,Tryz.ntmps144
 go_upto_region 2 with fail
 go_quiet (fail)
 go_wp2;go_ret;refine⟨_,rfl,?_,(Only.refl nob w).drewN _⟩;have h1:=HA.out.cut (l:=p+1) (k:=p+1+fn) (by omega) HS.out;have h2:Zkf s.ws (p+1) fn=(s.ws.drop (p+1)).take fn:=rfl;have h3:(Zkf s.ws (p+1) fn).length=fn:=ZhH _ _ _ HS.out
 have h4:((u64s s.ws).drop ((p+1) * 1)).take ((p+1+fn - (p+1)) * 1)=u64s (Zkf s.ws (p+1) fn):=by
  rw[h2];unfold u64s;rw[List.map_take,List.map_drop];congr 1 <;> simp
 rw[h4] at h1
 have h5:p+1+fn - (p+1)=fn:=by omega
 rw[h5] at h1;rw[Int.toNat_natCast,h3];exact h1.heap rfl
end
end
end Go.Proofs.YtknoncenblehkaaGreatDoor
