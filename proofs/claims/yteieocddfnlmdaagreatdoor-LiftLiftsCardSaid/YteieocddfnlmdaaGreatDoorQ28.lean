/- The document's own plans in memory: a plan's state behind a -/
import Derived.Test.YteieocddfnlmdaaGreatDoorQ26
import Derived.Test.YteieocddfnlmdaaGreatDoorQ27
set_option maxRecDepth 100000
set_option maxHeartbeats 32000000
set_option linter.unusedSimpArgs false
set_option linter.unusedVariables false
namespace Go.Proofs.YteieocddfnlmdaaGreatDoor
section
open Go.RowKit Go.Lib
theorem Zo0 {l:List Int} {x:Int} (h: ∀(j:Nat) y,j<l.length→l[j]? =some y→y≠x):decide (x∈l)=false:=by
 refine Yl fun hm=>?_;obtain⟨j,hj⟩:=List.getElem?_of_mem hm;exact h j x (Yk.1 hj).1 hj rfl
theorem ZjT (v:Value) (l:List Int) (x:Int) (B:Nat) (w:World) (h:Sl w B 1 v l.length (i64s l)):
 Calls Tryz.prog 81 #[v,.int .i64 x] w fun e w'=>e=.returned (.bool (decide (x∈l)))∧Only nob w w':=by
 have HA:=ZZ h;obtain⟨A,ca,rfl,hac,ham, -⟩:=h;unfold maxLen at ham
 obtain⟨q,hq⟩: ∃q,q=decide (x∈l):=⟨_,rfl⟩
 have HQ:=ZZ hq;rw[← hq];clear hq
 go_enter Tryz.func81,Tryz.ntmps81
 go_wp2
 go_loopw [5] (fun i wr=> ∃k:Nat,k≤l.length∧i=.int .i64 k∧Hid (∀(j:Nat) y,j<k→l[j]? =some y→y≠x)∧wr=w) (fun i _=>l.length - (intOf i).toNat)
 case atStart=>exact⟨0,Yu _,rfl,fun j _ hj _=>absurd hj (Nat.not_lt_zero j),rfl⟩
 case round=>
  obtain⟨k,hk,rfl,hno,rfl⟩:=hrel;by_cases hlt:k<l.length
  · obtain⟨y,hy⟩: ∃x,l[k]? =some x:=⟨_,Ya hlt⟩
    obtain⟨b1,o1,rfl, -,c0⟩:=ZaU HA.out (Below.refl _ _) hy;have HY:=ZZ hy;clear hy;by_cases hyx:y=x
    · subst hyx
      have HF:=ZZ (HQ.out.trans (Ym (Yo HY.out)));go_wp2;go_ret;exact⟨Zb (by rw[HF.out]),Only.refl _ _⟩
    · have hbq:(y==x)=false:=by simpa using hyx
      go_wp2
      go_roundw
      case rel=>
       refine⟨k+1,by omega,by go_num,fun j z hj hz=>?_,by first|rfl|trivial⟩;rcases Yq j k with h'|h'
       · exact hno.out j z h' hz
       · obtain rfl:j=k:=by omega
         rw[HY.out] at hz;rw[← Yp hz];exact hyx
      case measure=>simp[intOf];omega
  · obtain rfl:k=l.length:=by omega
    have HF:=ZZ (HQ.out.trans (Zo0 hno.out));go_wp2;go_ret;exact⟨Zb (by rw[HF.out]),Only.refl _ _⟩
def boos (l:List Bool):List Value:=l.map .bool
theorem Zko {l:List Bool} {k:Nat} {z:Bool} (h:l[k]? =some z):(boos l)[k]? =some (.bool z):=by simp[boos,h]
structure PV where
 s:Value
 b:Value
 l:Value
 g:Value
 p:Value
structure Pm (W:World) (b base:Nat) (vn vr:Value) (lim blk:Int) (v:PV) (s:PSt):Prop where
 box:Blk W b 179 #[vn,vr,.int .i64 lim,.int .i64 blk,v.s,v.b,v.l,v.g,v.p,.int .i64 s.top]
 new:base≤b
 sm:W.ownsRow base 3 1 v.s s.small.length (i64s s.small)
 bg:W.ownsRow base 3 1 v.b s.begins.length (i64s s.begins)
 lk:W.ownsRow base 4 1 v.l s.looked.length (boos s.looked)
 lg:W.ownsRow base 3 1 v.g s.large.length (i64s s.large)
 pl:W.ownsRow base 3 1 v.p s.pile.length (i64s s.pile)
 sb: ∀k,v.s.ownBlock=some k→ ¬v.b.ownBlock=some k
 sg: ∀k,v.s.ownBlock=some k→ ¬v.g.ownBlock=some k
 sp: ∀k,v.s.ownBlock=some k→ ¬v.p.ownBlock=some k
 bgx: ∀k,v.b.ownBlock=some k→ ¬v.g.ownBlock=some k
 bp: ∀k,v.b.ownBlock=some k→ ¬v.p.ownBlock=some k
 gp: ∀k,v.g.ownBlock=some k→ ¬v.p.ownBlock=some k
theorem Pm.nob {W W':World} {b base:Nat} {vn vr:Value} {lim blk:Int} {v:PV} {s:PSt} (h:Pm W b base vn vr lim blk v s) (o:Only nob W W'):Pm W' b base vn vr lim blk v s:=
 ⟨h.box.keep o id,h.new,Za h.sm o fun _ _=>id,Za h.bg o fun _ _=>id,Za h.lk o fun _ _=>id,Za h.lg o fun _ _=>id,Za h.pl o fun _ _=>id,h.sb,h.sg,h.sp,h.bgx,h.bp,h.gp⟩
def Za6 (block z:Int) (s:PSt):Int:=match Za9 (fun b=>decide (z<0)||decide (b.tdiv block=z)) s with|some i=>(i:Nat)|none=> -1
theorem ZgD {block z:Int} {s:PSt} {k:Nat} (hk:k<s.small.length) (hl:s.looked[k]? =some false) {c:Int} (hc:s.begins[k]? =some c) (hp:(decide (z<0)||decide (c.tdiv block=z))=true)
 (hn: ∀(j:Nat) y c,j<k→s.looked[j]? =some y→s.begins[j]? =some c→(!y&&(decide (z<0)||decide (c.tdiv block=z)))=false) (h1:s.looked.length=s.small.length) (h2:s.begins.length=s.small.length):Za6 block z s=k:=by
 have:Za9 (fun b=>decide (z<0)||decide (b.tdiv block=z)) s=some k:=by
  unfold Za9;rw[List.find?_range_eq_some];refine⟨by simp[hl,hc,Yn,hp],List.mem_range.2 hk,fun j hj=>?_⟩;have e1:s.looked[j]? =some s.looked[j]:=Ya (by omega);have e2:s.begins[j]? =some s.begins[j]:=Ya (by omega)
  have:=hn j _ _ hj e1 e2
  rw[Yn,Yn,e1,e2];simp at this ⊢
  cases hh:s.looked[j] with
  |true=>exact .inl rfl
  |false=>exact .inr (this hh)
 unfold Za6;rw[this]
theorem Zpz {block z:Int} {s:PSt} (hn: ∀(j:Nat) y c,j<s.small.length→s.looked[j]? =some y→s.begins[j]? =some c→(!y&&(decide (z<0)||decide (c.tdiv block=z)))=false) (h1:s.looked.length=s.small.length) (h2:s.begins.length=s.small.length):Za6 block z s= -1:=by
 have:Za9 (fun b=>decide (z<0)||decide (b.tdiv block=z)) s=none:=by
  unfold Za9;rw[List.find?_eq_none];intro j hj;have hj:=List.mem_range.1 hj;have e1:s.looked[j]? =some s.looked[j]:=Ya (by omega);have e2:s.begins[j]? =some s.begins[j]:=Ya (by omega)
  have:=hn j _ _ hj e1 e2
  rw[Yn,Yn,e1,e2];simpa using this
 unfold Za6;rw[this]
theorem Zun (x y:Int) (h: -9223372036854775808≤x∧x≤9223372036854775807∧1≤y):IntKind.i64.wrap (x.tdiv y)=x.tdiv y:=by
 first|exact Go.i64_quo' x y h|exact Go.IntWalk.i64_quo' x y h|exact Go.Lib.i64_quo' x y h
theorem Pm.sl {W:World} {base size:Nat} {E:TypeId} {n:Nat} {v:Value} {xs:List Value} (h:W.ownsRow base E size v n xs):Sl W W.heap.size size v n xs:=Sl.of_own h h.1
theorem Zk7 (W:World) (b base:Nat) (vn vr:Value) (lim blk z:Int) (v:PV) (s:PSt) (h:Pm W b base vn vr lim blk v s) (hb:1≤blk) (hbm:blk≤9223372036854775807) (hz: -1≤z∧z≤9223372036854775807) (h1:s.looked.length=s.small.length) (h2:s.begins.length=s.small.length)
 (hbg: ∀c∈s.begins,0≤c∧c≤9223372036854775807):
 Calls Tryz.prog 206 #[.pointer (some ⟨b,0,none⟩),.int .i64 z] W fun e w'=>e=.returned (.int .i64 (Za6 blk z s))∧Only nob W w':=by
 obtain⟨A1,k1,e1,hc1,hm1, -⟩:=Pm.sl h.sm;obtain⟨A2,k2,e2,hc2,hm2, -⟩:=Pm.sl h.bg;obtain⟨A3,k3,e3,hc3,hm3, -⟩:=Pm.sl h.lk;have HBX:=ZZ h.box;have HS2:=ZZ (Pm.sl h.bg);have HS3:=ZZ (Pm.sl h.lk);rw[e1,e2,e3,h1,h2] at HBX;rw[e2,h2] at HS2;rw[e3,h1] at HS3;unfold maxLen at hm1
 obtain⟨n,hn⟩: ∃n,n=s.small.length:=⟨_,rfl⟩
 have HN:=ZZ hn;rw[← hn] at HBX hc1 HS2 HS3 h1 h2;have H1:=ZZ h1;have H2:=ZZ h2
 obtain⟨q,hq⟩: ∃q,q=Za6 blk z s:=⟨_,rfl⟩
 have HQ:=ZZ hq;rw[← hq];have HBG:=ZZ hbg;clear hn hq h h1 h2 e1 e2 e3 hc2 hm2 hc3 hm3 hbg
 go_enter Tryz.func206,Tryz.ntmps206
 go_wp2
 go_loopw [5] (fun i wr=> ∃k:Nat,k≤n∧i=.int .i64 k∧Hid (∀(j:Nat) y c,j<k→s.looked[j]? =some y→s.begins[j]? =some c→(!y&&(decide (z<0)||decide (c.tdiv blk=z)))=false)∧Hid (Only nob W wr)) (fun i _=>n - (intOf i).toNat)
 case atStart=>exact⟨0,Yu _,rfl,fun j _ _ hj _ _=>absurd hj (Nat.not_lt_zero j),ZZ (Only.refl _ _)⟩
 case round=>
  obtain⟨k,hk,rfl,hno,HO⟩:=hrel;have BX:=HBX.out.keep HO.out id;have c2:wr.cell? ⟨b,3,none⟩=some (.int .i64 blk):=BX.cell 3;have c4:wr.cell? ⟨b,4,none⟩=some (.slice A1 n k1):=BX.cell 4;have c5:wr.cell? ⟨b,5,none⟩=some (.slice A2 n k2):=BX.cell 5;have c6:wr.cell? ⟨b,6,none⟩=some (.slice A3 n k3):=BX.cell 6;clear BX;by_cases hlt:k<n
  · obtain⟨y,hy⟩: ∃y,s.looked[k]? =some y:=⟨_,Ya (by rw[H1.out];exact hlt)⟩
    obtain⟨c,hc⟩: ∃c,s.begins[k]? =some c:=⟨_,Ya (by rw[H2.out];exact hlt)⟩
    have hcb:=HBG.out c (Yo hc);have HY:=ZZ hy;have HC:=ZZ hc;obtain⟨b3,o3,c3',e3, -, -,hl3,hc3⟩:=(HS3.out.below (HO.out.below (Yj _) fun _ h=>h.elim)).at_ (by omega);obtain⟨b2,o2,c2',e2, -, -,hl2,hc2⟩:=(HS2.out.below (HO.out.below (Yj _) fun _ h=>h.elim)).at_ (by omega)
    obtain⟨rfl,rfl⟩:A3=some ⟨b3,o3,none⟩∧k3=c3':=by simpa using e3
    obtain⟨rfl,rfl⟩:A2=some ⟨b2,o2,none⟩∧k2=c2':=by simpa using e2
    have g3:wr.cell? ⟨b3,o3+k,none⟩=some (.bool y):=hc3 k _ (Zko hy);have g2:wr.cell? ⟨b2,o2+k,none⟩=some (.int .i64 c):=hc2 k _ (Zdj hc)
    have hb0: ¬blk=0:=by omega
    obtain⟨dv,hdv⟩: ∃dv,dv=c.tdiv blk:=⟨_,rfl⟩
    have HDV:=ZZ hdv;have hw:IntKind.i64.wrap (c.tdiv blk)=dv:=(Zun _ _ (by omega)).trans hdv.symm;clear hdv;clear hy hc hc3 hc2 e3 e2
    cases y with
    |true=>
     have HX:=ZZ (show ∀(j:Nat) y c,j<k+1→s.looked[j]? =some y→s.begins[j]? =some c→(!y&&(decide (z<0)||decide (c.tdiv blk=z)))=false from fun j y c' hj e1 e2=>by
      rcases Yq j k with h'|h'
      · exact hno.out j y c' h' e1 e2
      · obtain rfl:j=k:=by omega
        rw[HY.out] at e1
        rw[← Yp e1];rfl)
     go_wp2
     go_quiet (fail)
     go_wp2
     go_roundw
     case rel=>exact⟨k+1,by omega,by go_num,HX,ZZ (HO.out.drewN _)⟩
     case measure=>simp[intOf];omega
    |false=>
     by_cases hz0:z<0
     · have HF:=ZZ (HQ.out.trans (ZgD (by rw[← HN.out];exact hlt) HY.out HC.out (by simp[hz0]) hno.out (H1.out.trans HN.out) (H2.out.trans HN.out)))
       go_wp2
       go_quiet (fail)
       go_wp2;go_ret;exact⟨ZB (by rw[HF.out]),HO.out.drewN _⟩
     · by_cases hzd:dv=z
       · subst hzd
         have HF:=ZZ (HQ.out.trans (ZgD (by rw[← HN.out];exact hlt) HY.out HC.out (by simp[HDV.out]) hno.out (H1.out.trans HN.out) (H2.out.trans HN.out)));go_wp2
         go_quiet (fail)
         go_wp2;go_ret;exact⟨ZB (by rw[HF.out]),HO.out.drewN _⟩
       · have HX:=ZZ (show ∀(j:Nat) y c,j<k+1→s.looked[j]? =some y→s.begins[j]? =some c→(!y&&(decide (z<0)||decide (c.tdiv blk=z)))=false from fun j y c' hj e1 e2=>by
          rcases Yq j k with h'|h'
          · exact hno.out j y c' h' e1 e2
          · obtain rfl:j=k:=by omega
            rw[HC.out] at e2;rw[← Yp e2];rw[← HDV.out]
            simp[hz0,hzd])
         have hbq:(dv==z)=false:=by simpa using hzd
         go_wp2
         go_quiet (fail)
         go_wp2
         go_roundw
         case rel=>exact⟨k+1,by omega,by go_num,HX,ZZ (HO.out.drewN _)⟩
         case measure=>simp[intOf];omega
  · obtain rfl:k=n:=by omega
    have HF:=ZZ (HQ.out.trans (Zpz (by rw[← HN.out];exact hno.out) (H1.out.trans HN.out) (H2.out.trans HN.out)));go_wp2;go_ret;exact⟨ZB (by rw[HF.out]),HO.out⟩
theorem ZtY:Tryz.prog.follows .mixedOrders=true:=by kernel_rfl
def Zho (order block:Int) (s:PSt):Int:=match ZcH order block s with|some i=>(i:Nat)|none=> -1
theorem ZgL {block:Int} {s:PSt}:Za6 block (-1) s=match Za9 (fun _=>true) s with|some i=>((i:Nat):Int)|none=> -1:=by
 unfold Za6
 have:(fun b:Int=>decide ((-1:Int)<0)||decide (b.tdiv block= -1))=fun _=>true:=by funext b;simp
 rw[this]
 all_goals (cases Za9 (fun _=>true) s <;> rfl)
theorem ZlR {order block:Int} {s:PSt} (h: ¬(order=2∧s.small≠[])):Zho order block s=Za6 block (-1) s:=by
 rw[ZgL];unfold Zho ZcH;rw[if_neg h]
theorem Zm5 {block z:Int} {s:PSt} (h:s.small≠[]) (hz:z=(s.begins.getLastD 0).tdiv block) (h0:0≤z):Zho 2 block s=if 0≤Za6 block z s then Za6 block z s else Za6 block (-1) s:=by
 rw[ZgL]
 have e:(fun b:Int=>decide (z<0)||decide (b.tdiv block=z))=fun b=>decide (b.tdiv block=(s.begins.getLastD 0).tdiv block):=by
  funext b
  rw[hz]
  have:decide ((s.begins.getLastD 0).tdiv block<0)=false:=Yl (by rw[← hz];omega)
  rw[this];rfl
 unfold Zho ZcH Za6;rw[if_pos ⟨rfl,h⟩,e]
 cases Za9 (fun b=>decide (b.tdiv block=(s.begins.getLastD 0).tdiv block)) s with
 |none=>simp
 |some i=>
  simp only;rw[if_pos (Int.natCast_nonneg i)]
theorem ZtG {l:List Int} (h:0<l.length): ∃c,l[l.length - 1]? =some c∧l.getLastD 0=c:=by
 refine⟨l[l.length - 1],Ya (by omega),?_⟩;rw[List.getLastD_eq_getLast?,List.getLast?_eq_getElem?,Ya (by omega)];rfl
theorem Zo5 (block z:Int) (s:PSt): -1≤Za6 block z s:=by
 unfold Za6
 cases Za9 (fun b=>decide (z<0)||decide (b.tdiv block=z)) s with
 |none=>simp
 |some i=>simp only;omega
theorem ZsX (W:World) (b base:Nat) (vn vr:Value) (lim blk order:Int) (v:PV) (s:PSt) (h:Pm W b base vn vr lim blk v s) (hb:1≤blk) (hbm:blk≤9223372036854775807) (h1:s.looked.length=s.small.length) (h2:s.begins.length=s.small.length)
 (hbg: ∀c∈s.begins,0≤c∧c≤9223372036854775807):
 Calls Tryz.prog 170 #[.pointer (some ⟨b,0,none⟩),.int .i64 order] W fun e w'=>e=.returned (.int .i64 (Zho order blk s))∧Only nob W w':=by
 have HALL:=ZZ (fun (W':World) (o:Only nob W W')=>Zk7 W' b base vn vr lim blk (-1) v s (h.nob o) hb hbm (by omega) h1 h2 hbg);have HZ:=ZZ (fun (z:Int) (hz:0≤z∧z≤9223372036854775807) (W':World) (o:Only nob W W')=>Zk7 W' b base vn vr lim blk z v s (h.nob o) hb hbm (by omega) h1 h2 hbg);obtain⟨A1,k1,e1,hc1,hm1, -⟩:=Pm.sl h.sm;obtain⟨A2,k2,e2,hc2,hm2, -⟩:=Pm.sl h.bg;have HBX:=ZZ h.box;have HS2:=ZZ (Pm.sl h.bg);rw[e1,e2,h2] at HBX;rw[e2,h2] at HS2;unfold maxLen at hm1;rw[h2] at hc2;unfold maxLen at hm2;have H2:=ZZ h2;have HBG:=ZZ hbg
 obtain⟨n,hn⟩: ∃n,n=s.small.length:=⟨_,rfl⟩
 have HN:=ZZ hn;rw[← hn] at HBX hc1 hc2 HS2 H2
 obtain⟨q,hq⟩: ∃q,q=Zho order blk s:=⟨_,rfl⟩
 have HQ:=ZZ hq
 obtain⟨fa,hfa⟩: ∃f,f=Za6 blk (-1) s:=⟨_,rfl⟩
 have HFA:=ZZ hfa;rw[← hq];rw[← hfa] at HALL;have c2:W.cell? ⟨b,3,none⟩=some (.int .i64 blk):=HBX.out.cell 3;have c4:W.cell? ⟨b,4,none⟩=some (.slice A1 n k1):=HBX.out.cell 4;have c5:W.cell? ⟨b,5,none⟩=some (.slice A2 n k2):=HBX.out.cell 5;clear hq hfa hn h h1 h2 e1 e2 hbg;have HE: ¬(order=2∧0<n)→q=fa:=fun hh=>HQ.out.trans ((ZlR fun h'=>hh ⟨h'.1,by rw[HN.out];exact List.length_pos_iff.2 h'.2⟩).trans HFA.out.symm);have HEH:=ZZ HE;clear HE;by_cases ho:order=2
 · by_cases hn0:0<n
   · subst ho
     obtain⟨c,hc,hlast⟩:=ZtG (l:=s.begins) (by rw[H2.out];exact hn0);rw[H2.out] at hc;have hcb:=HBG.out c (Yo hc);obtain⟨b2,o2,c2',e2, -, -,hl2,hc2c⟩:=HS2.out.at_ (by omega)
     obtain⟨rfl,rfl⟩:A2=some ⟨b2,o2,none⟩∧k2=c2':=by simpa using e2
     have g2:W.cell? ⟨b2,o2+(n - 1),none⟩=some (.int .i64 c):=hc2c (n - 1) _ (Zdj hc)
     have hb0: ¬blk=0:=by omega
     have hd0:0≤c.tdiv blk:=Int.tdiv_nonneg hcb.1 (by omega)
     have hd1:c.tdiv blk≤9223372036854775807:=by
      rw[Int.tdiv_eq_ediv_of_nonneg hcb.1];exact Int.le_trans (Int.ediv_le_self _ hcb.1) hcb.2
     obtain⟨dv,hdv⟩: ∃dv,dv=c.tdiv blk:=⟨_,rfl⟩
     have hw:IntKind.i64.wrap (c.tdiv blk)=dv:=(Zun _ _ (by omega)).trans hdv.symm;have hq:=HQ.out.trans (Zm5 (z:=dv) (fun e=>by have:=HN.out;rw[e] at this;simp at this;omega) (by rw[hlast];exact hdv) (by omega));have HC:=ZZ (HZ.out dv (by omega))
     obtain⟨fz,hfz⟩: ∃f,f=Za6 blk dv s:=⟨_,rfl⟩
     have HLO:=ZZ (show -1≤fz by rw[hfz];exact Zo5 _ _ _);rw[← hfz, ← HFA.out] at hq;rw[← hfz] at HC;have HQ2:=ZZ hq
     obtain⟨m,hm⟩: ∃m,m=n - 1:=⟨_,rfl⟩
     have hmn:m<n:=by omega
     have hws:IntKind.i64.wrap ((n:Int) - 1)=(m:Int):=by
      rw[IntWalk.i64_in _ (by omega)];omega
     rw[← hm] at g2;clear hc hlast hc2c e2 hdv hq hfz hd0 hd1 hm
     go_enter Tryz.func170,Tryz.ntmps170
     go_upto_region 2 with fail
     have OC:=ZZ (show Only nob W W.drew from(Only.refl nob W).drewN 1);have mixed:=ZtY
     go_region_held3 (fun w'=>w'.cell? ⟨b,3,none⟩=some (.int .i64 blk)∧w'.cell? ⟨b,5,none⟩=some (.slice (some ⟨b2,o2,none⟩) n k2)∧w'.cell? ⟨b2,o2+m,none⟩=some (.int .i64 c)) (first|(with_reducible exact And.intro (OC.out.keeps c2) (And.intro (OC.out.keeps c5) (OC.out.keeps g2)))|go_keep)
      (first
        |(go_at_call 206
          with_reducible refine(HC.out _ OC.out).mono ?_
          rintro e wt ⟨rfl,o⟩;have OC:=ZZ (OC.out.trans o)
          clear o))
     by_cases hf:0≤fz
     · go_wp2
       go_ret;exact⟨ZB (by rw[HQ2.out,if_pos hf]),OC.out⟩
     · go_wp2_with fail
       go_at_call 206;refine(HALL.out _ OC.out).mono ?_;rintro e w9 ⟨rfl,o⟩;have O9:=ZZ (OC.out.trans o);clear o;go_wp2;go_ret;exact⟨ZB (by rw[HQ2.out,if_neg (by omega)]),O9.out⟩
   · have hq:=HEH.out (fun h=>hn0 h.2)
     have HQ2:=ZZ hq;clear hq
     go_enter Tryz.func170,Tryz.ntmps170
     go_wp2_with fail
     go_at_call 206;refine(HALL.out _ (Only.refl _ _)).mono ?_;rintro e w9 ⟨rfl,o⟩;have O9:=ZZ o;clear o c2 c4 c5;go_wp2;go_ret;exact⟨ZB (by rw[HQ2.out]),O9.out⟩
 · have hq:=HEH.out (fun h=>ho h.1)
   have HQ2:=ZZ hq
   have hoq:(order==2)=false:=by simpa using ho
   clear hq
   go_enter Tryz.func170,Tryz.ntmps170
   go_wp2_with fail
   go_at_call 206;refine(HALL.out _ (Only.refl _ _)).mono ?_;rintro e w9 ⟨rfl,o⟩;have O9:=ZZ o;clear o c2 c4 c5;go_wp2;go_ret;exact⟨ZB (by rw[HQ2.out]),O9.out⟩
theorem ZL {w:World} {b2 g:Nat} {t E2:TypeId} {cs:Array Value} {s2 n2:Nat} {v2:Value} {x2:List Value} (h1:Blk w g t cs) (h2:w.ownsRow b2 E2 s2 v2 n2 x2) (hE:t≠E2): ¬v2.ownBlock=some g:=by
 intro e2
 rcases h2.2 with⟨rfl, -⟩|⟨g2,c2,cur2,rfl,_,hg2, -⟩
 · cases e2
 · have h2:g2=g:=Yp e2
   unfold Blk at h1;rw[h2,h1] at hg2
   have:=Yp hg2
   injection this with _ e
   exact hE e
theorem Zbj {w:World} {b1 b2:Nat} {E1 E2:TypeId} {s1 s2 n1 n2:Nat} {v1 v2:Value} {x1 x2:List Value} (h1:w.ownsRow b1 E1 s1 v1 n1 x1) (h2:w.ownsRow b2 E2 s2 v2 n2 x2) (hE:E1≠E2): ∀k,v1.ownBlock=some k→ ¬v2.ownBlock=some k:=by
 intro k e1
 rcases h1.2 with⟨rfl, -⟩|⟨g1,c1,cur1,rfl,_,hg1, -⟩
 · cases e1
 · have h3:g1=k:=Yp e1
   rw[h3] at hg1;exact ZL (t:=E1) hg1 h2 hE
theorem ZH {u v v':Value} {N:Nat} (h: ∀k,u.ownBlock=some k→ ¬v.ownBlock=some k) (hu: ∀k,u.ownBlock=some k→k<N) (hv:v'.ownBlock=v.ownBlock∨v'.ownBlock=some N): ∀k,u.ownBlock=some k→ ¬v'.ownBlock=some k:=by
 intro k e1 e2;rcases hv with hv|hv
 · exact h k e1 (hv▸e2)
 · have:=hu k e1
   rw[hv] at e2
   have:=Yp e2
   omega
theorem Zq {u v:Value} (h: ∀k,u.ownBlock=some k→ ¬v.ownBlock=some k): ∀k,v.ownBlock=some k→ ¬u.ownBlock=some k:=fun k e1 e2=>h k e2 e1
section
variable {W Wa W6:World} {b base:Nat} {vn vr v6:Value} {lim blk:Int} {v:PV} {s:PSt}
theorem Zqa (h:Pm W b base vn vr lim blk v s) (oa:Only nob W Wa) (x:Int) (H6:W6.ownsRow base 3 1 v6 (s.small.length+1) (i64s s.small++i64s [x])) (o6:Only (fun k=>v.s.ownBlock=some k) Wa W6) (hv:v6.ownBlock=v.s.ownBlock∨v6.ownBlock=some Wa.heap.size):
 Pm (W6.setCell ⟨b,4,none⟩ v6) b base vn vr lim blk {v with s:=v6} {s with small:=s.small++[x]}:=by
 have A:=h.nob oa;have HB:=A.box.keep o6 (ZL A.box A.sm (by decide));have ho:=Zd W6 b 4 v6
 have he:i64s (s.small++[x])=i64s s.small++i64s [x]:=by simp[i64s]
 have kb:=Za A.bg o6 (Zq A.sb);have kl:=Za A.lk o6 (Zbj A.lk A.sm (by decide));have kg:=Za A.lg o6 (Zq A.sg);have kp:=Za A.pl o6 (Zq A.sp)
 have ne: ∀{E:TypeId} {n:Nat} {u:Value} {xs:List Value},W6.ownsRow base E 1 u n xs→179≠E→ ∀k,u.ownBlock=some k→ ¬isb b k:=fun hw hE k e e2=>by
  unfold isb at e2;subst e2;exact ZL HB hw hE e
 exact⟨(by simpa using HB.put 4 v6),h.new,(by rw[he,Ys];exact Za H6 ho (ne H6 (by decide))),(Za kb ho (ne kb (by decide))),(Za kl ho (ne kl (by decide))),(Za kg ho (ne kg (by decide))),(Za kp ho (ne kp (by decide))),(Zq (ZH (Zq A.sb) (fun k e=>(Zj A.bg e).2) hv)),(Zq (ZH (Zq A.sg) (fun k e=>(Zj A.lg e).2) hv)),(Zq (ZH (Zq A.sp) (fun k e=>(Zj A.pl e).2) hv)),A.bgx,A.bp,A.gp⟩
theorem Zrx (h:Pm W b base vn vr lim blk v s) (oa:Only nob W Wa) (x:Int) (H6:W6.ownsRow base 3 1 v6 (s.begins.length+1) (i64s s.begins++i64s [x])) (o6:Only (fun k=>v.b.ownBlock=some k) Wa W6) (hv:v6.ownBlock=v.b.ownBlock∨v6.ownBlock=some Wa.heap.size):
 Pm (W6.setCell ⟨b,5,none⟩ v6) b base vn vr lim blk {v with b:=v6} {s with begins:=s.begins++[x]}:=by
 have A:=h.nob oa;have HB:=A.box.keep o6 (ZL A.box A.bg (by decide));have ho:=Zd W6 b 5 v6
 have he:i64s (s.begins++[x])=i64s s.begins++i64s [x]:=by simp[i64s]
 have ks:=Za A.sm o6 A.sb;have kl:=Za A.lk o6 (Zbj A.lk A.bg (by decide));have kg:=Za A.lg o6 (Zq A.bgx);have kp:=Za A.pl o6 (Zq A.bp)
 have ne: ∀{E:TypeId} {n:Nat} {u:Value} {xs:List Value},W6.ownsRow base E 1 u n xs→179≠E→ ∀k,u.ownBlock=some k→ ¬isb b k:=fun hw hE k e e2=>by
  unfold isb at e2;subst e2;exact ZL HB hw hE e
 exact⟨(by simpa using HB.put 5 v6),h.new,(Za ks ho (ne ks (by decide))),(by rw[he,Ys];exact Za H6 ho (ne H6 (by decide))),(Za kl ho (ne kl (by decide))),(Za kg ho (ne kg (by decide))),(Za kp ho (ne kp (by decide))),(ZH A.sb (fun k e=>(Zj A.sm e).2) hv),A.sg,A.sp,(Zq (ZH (Zq A.bgx) (fun k e=>(Zj A.lg e).2) hv)),(Zq (ZH (Zq A.bp) (fun k e=>(Zj A.pl e).2) hv)),A.gp⟩
theorem Zqy (h:Pm W b base vn vr lim blk v s) (oa:Only nob W Wa) (x:Bool) (H6:W6.ownsRow base 4 1 v6 (s.looked.length+1) (boos s.looked++boos [x])) (o6:Only (fun k=>v.l.ownBlock=some k) Wa W6) (hv:v6.ownBlock=v.l.ownBlock∨v6.ownBlock=some Wa.heap.size):
 Pm (W6.setCell ⟨b,6,none⟩ v6) b base vn vr lim blk {v with l:=v6} {s with looked:=s.looked++[x]}:=by
 have A:=h.nob oa;have HB:=A.box.keep o6 (ZL A.box A.lk (by decide));have ho:=Zd W6 b 6 v6
 have he:boos (s.looked++[x])=boos s.looked++boos [x]:=by simp[boos]
 have ks:=Za A.sm o6 (Zbj A.sm A.lk (by decide));have kb:=Za A.bg o6 (Zbj A.bg A.lk (by decide));have kg:=Za A.lg o6 (Zbj A.lg A.lk (by decide));have kp:=Za A.pl o6 (Zbj A.pl A.lk (by decide))
 have ne: ∀{E:TypeId} {n:Nat} {u:Value} {xs:List Value},W6.ownsRow base E 1 u n xs→179≠E→ ∀k,u.ownBlock=some k→ ¬isb b k:=fun hw hE k e e2=>by
  unfold isb at e2;subst e2;exact ZL HB hw hE e
 exact⟨(by simpa using HB.put 6 v6),h.new,(Za ks ho (ne ks (by decide))),(Za kb ho (ne kb (by decide))),(by rw[he,Ys];exact Za H6 ho (ne H6 (by decide))),(Za kg ho (ne kg (by decide))),(Za kp ho (ne kp (by decide))),A.sb,A.sg,A.sp,A.bgx,A.bp,A.gp⟩
theorem Zqn (h:Pm W b base vn vr lim blk v s) (oa:Only nob W Wa) (x:Int) (H6:W6.ownsRow base 3 1 v6 (s.large.length+1) (i64s s.large++i64s [x])) (o6:Only (fun k=>v.g.ownBlock=some k) Wa W6) (hv:v6.ownBlock=v.g.ownBlock∨v6.ownBlock=some Wa.heap.size):
 Pm (W6.setCell ⟨b,7,none⟩ v6) b base vn vr lim blk {v with g:=v6} {s with large:=s.large++[x]}:=by
 have A:=h.nob oa;have HB:=A.box.keep o6 (ZL A.box A.lg (by decide));have ho:=Zd W6 b 7 v6
 have he:i64s (s.large++[x])=i64s s.large++i64s [x]:=by simp[i64s]
 have ks:=Za A.sm o6 A.sg;have kb:=Za A.bg o6 A.bgx;have kl:=Za A.lk o6 (Zbj A.lk A.lg (by decide));have kp:=Za A.pl o6 (Zq A.gp)
 have ne: ∀{E:TypeId} {n:Nat} {u:Value} {xs:List Value},W6.ownsRow base E 1 u n xs→179≠E→ ∀k,u.ownBlock=some k→ ¬isb b k:=fun hw hE k e e2=>by
  unfold isb at e2;subst e2;exact ZL HB hw hE e
 exact⟨(by simpa using HB.put 7 v6),h.new,(Za ks ho (ne ks (by decide))),(Za kb ho (ne kb (by decide))),(Za kl ho (ne kl (by decide))),(by rw[he,Ys];exact Za H6 ho (ne H6 (by decide))),(Za kp ho (ne kp (by decide))),A.sb,(ZH A.sg (fun k e=>(Zj A.sm e).2) hv),A.sp,(ZH A.bgx (fun k e=>(Zj A.bg e).2) hv),A.bp,(Zq (ZH (Zq A.gp) (fun k e=>(Zj A.pl e).2) hv))⟩
theorem ZrG (h:Pm W b base vn vr lim blk v s) (oa:Only nob W Wa) (x:Int) (H6:W6.ownsRow base 3 1 v6 (s.pile.length+1) (i64s s.pile++i64s [x])) (o6:Only (fun k=>v.p.ownBlock=some k) Wa W6) (hv:v6.ownBlock=v.p.ownBlock∨v6.ownBlock=some Wa.heap.size):
 Pm (W6.setCell ⟨b,8,none⟩ v6) b base vn vr lim blk {v with p:=v6} {s with pile:=s.pile++[x]}:=by
 have A:=h.nob oa;have HB:=A.box.keep o6 (ZL A.box A.pl (by decide));have ho:=Zd W6 b 8 v6
 have he:i64s (s.pile++[x])=i64s s.pile++i64s [x]:=by simp[i64s]
 have ks:=Za A.sm o6 A.sp;have kb:=Za A.bg o6 A.bp;have kl:=Za A.lk o6 (Zbj A.lk A.pl (by decide));have kg:=Za A.lg o6 A.gp
 have ne: ∀{E:TypeId} {n:Nat} {u:Value} {xs:List Value},W6.ownsRow base E 1 u n xs→179≠E→ ∀k,u.ownBlock=some k→ ¬isb b k:=fun hw hE k e e2=>by
  unfold isb at e2;subst e2;exact ZL HB hw hE e
 exact⟨(by simpa using HB.put 8 v6),h.new,(Za ks ho (ne ks (by decide))),(Za kb ho (ne kb (by decide))),(Za kl ho (ne kl (by decide))),(Za kg ho (ne kg (by decide))),(by rw[he,Ys];exact Za H6 ho (ne H6 (by decide))),A.sb,A.sg,(ZH A.sp (fun k e=>(Zj A.sm e).2) hv),A.bgx,(ZH A.bp (fun k e=>(Zj A.bg e).2) hv),(ZH A.gp (fun k e=>(Zj A.lg e).2) hv)⟩
end
end
section
open Go.RowKit Go.Lib
theorem Zo9 {v:Sp} {s:PSt} (h:ZY v s=false):v.1≠2∨v.1=2∧v.2∈s.small∨v.1=2∧v.2∉s.small∧v.2∈s.large:=by
 unfold ZY at h;by_cases h2:v.1=2
 · by_cases hs:v.2∈s.small
   · exact .inr (.inl ⟨h2,hs⟩)
   · by_cases hl:v.2∈s.large
     · exact .inr (.inr ⟨h2,hs,hl⟩)
     · simp[h2,hs,hl] at h
 · exact .inl h2
theorem Zmn {g:Gr} {lim:Int} {v:Sp} {s:PSt} (h:ZY v s=false):Zv g lim v s=s∧ZaJ g lim v s=false:=by
 unfold Zv ZaJ;rw[h];exact⟨if_neg (by simp),rfl⟩
theorem Zl5 (W:World) (b base:Nat) (vn vr:Value) (lim blk:Int) (v:PV) (s:PSt) (x:Sp) (h:Pm W b base vn vr lim blk v s) (hn:ZY x s=false):
 Calls Tryz.prog 205 #[.pointer (some ⟨b,0,none⟩),.agg #[.int .i64 x.1,.int .i64 x.2]] W fun e w'=>e=.returned (.bool false)∧Only nob W w':=by
 obtain⟨vs,vb,vl,vg,vp⟩:=v;obtain⟨A1,k1,e1,hc1,hm1, -⟩:=Pm.sl h.sm;obtain⟨A4,k4,e4,hc4,hm4, -⟩:=Pm.sl h.lg;simp only at e1 e4;subst e1 e4;obtain⟨x1,x2⟩:=x;obtain⟨W1,hW1,HB1⟩:=Zae W x1 x2;have HW1:=ZZ hW1;have BX:=ZZ (h.box.keep HB1.out.1 id);have HI1:=ZZ (fun (W':World) (o:Only nob W W')=>ZjT (.slice A1 s.small.length k1) s.small x2 W.heap.size W' ((Pm.sl h.sm).below (o.below (Yj _) fun _ h=>h.elim)));have HI4:=ZZ (fun (W':World) (o:Only nob W W')=>ZjT (.slice A4 s.large.length k4) s.large x2 W.heap.size W' ((Pm.sl h.lg).below (o.below (Yj _) fun _ h=>h.elim)));have d0:W1.cell? ⟨W.heap.size,0,none⟩=some (.int .i64 x1):=HB1.out.2.cell 0;have d1:W1.cell? ⟨W.heap.size,1,none⟩=some (.int .i64 x2):=HB1.out.2.cell 1;have c4:W1.cell? ⟨b,4,none⟩=some (.slice A1 s.small.length k1):=BX.out.cell 4;have c7:W1.cell? ⟨b,7,none⟩=some (.slice A4 s.large.length k4):=BX.out.cell 7;have O1:=ZZ HB1.out.1;have hcs:=Zo9 hn;simp only at hcs;clear hW1 h hn
 rcases hcs with h2|⟨rfl,hm⟩|⟨rfl,hm,hl⟩
 · have hbq:(x1 !=2)=true:=by simpa using h2
   clear h2
   go_enter Tryz.func205,Tryz.ntmps205
   go_upto_region 1 with fail
   rw[HW1.out];go_wp2;go_ret;exact⟨rfl,O1.out⟩
 · have H1:=ZZ (HI1.out W1 O1.out)
   rw[Ym hm] at H1;clear hm
   go_enter Tryz.func205,Tryz.ntmps205
   go_upto_region 1 with fail
   rw[HW1.out]
   go_wp2_with fail
   go_at_call 81;refine H1.out.mono ?_;rintro e w3 ⟨rfl,o⟩;have O3:=ZZ (O1.out.trans o);clear o d0 d1 c4 c7;go_wp2;go_ret;exact⟨rfl,O3.out⟩
 · have H1:=ZZ (HI1.out W1 O1.out)
   rw[Yl hm] at H1;have H4:=ZZ (fun (W':World) (o:Only nob W W')=>HI4.out W' o);rw[Ym hl] at H4;clear hm hl
   go_enter Tryz.func205,Tryz.ntmps205
   go_upto_region 1 with fail
   rw[HW1.out]
   go_wp2_with fail
   go_at_call 81;refine H1.out.mono ?_;rintro e w3 ⟨rfl,o⟩;have O3:=ZZ (O1.out.trans o);have e7:=o.keeps c7;clear o d0 d1 c4 c7
   go_wp2_with fail
   go_at_call 81;refine(H4.out w3 O3.out).mono ?_;rintro e w5 ⟨rfl,o⟩;have O5:=ZZ (O3.out.trans o);clear o e7;go_wp2;go_ret;exact⟨rfl,O5.out⟩
theorem Zfi {v:Sp} {s:PSt} (h:ZY v s=true):v.1=2∧v.2∉s.small∧v.2∉s.large:=by
 unfold ZY at h;simpa using h
theorem Zg3 {g:Gr} {lim:Int} {v:Sp} {s:PSt} (h:ZY v s=true) (hb:lim<ZbK (ZbC g v.2)):Zv g lim v s={s with large:=s.large++[v.2],pile:=s.pile++[v.2]}∧ZaJ g lim v s=false:=by
 unfold Zv ZaJ;rw[if_pos h,if_pos hb,h];exact⟨rfl,by simp[hb]⟩
def ZeY (base:Nat) (k:Nat):Prop:=base≤k
theorem ZcN {base:Nat} {W W':World} (h:Only nob W W'):Only (ZeY base) W W':=h.mono fun _ _ e=>e.elim
theorem Zi2 {base:Nat} {E:TypeId} {size n:Nat} {v:Value} {xs:List Value} {W W':World} (h:W.ownsRow base E size v n xs) (o:Only (fun k=>v.ownBlock=some k) W W'):Only (ZeY base) W W':=o.mono fun k _ e=>(Zj h e).1
theorem Zg0 {base b i:Nat} {u:Value} (W:World) (h:base≤b):Only (ZeY base) W (W.setCell ⟨b,i,none⟩ u):=(Zd W b i u).mono fun k _ e=>by unfold isb at e;subst e;exact h
theorem ZjA {g:Gr} {n:Nat} {d:Nd} (h:g.nd[n]? =some d):ZbC g (n:Int)=d:=by
 unfold ZbC;rw[Int.toNat_natCast,Yn,h];rfl
theorem ZmO (W:World) (b base B:Nat) (g:Gr) (vn vr:Value) (hs:List (Value×Value)) (lim blk:Int) (v:PV) (s:PSt) (x:Sp) (h:Pm W b base vn vr lim blk v s) (hr:RdG W B g vn vr hs) (hB:B≤W.heap.size) (hbase:base≤W.heap.size) (hn:ZY x s=true)
 (hx:0≤x.2∧x.2<(g.nd.length:Int)) (hbig:lim<ZbK (ZbC g x.2)) (hlg:s.large.length≤1000) (hpl:s.pile.length≤1000):
 Calls Tryz.prog 205 #[.pointer (some ⟨b,0,none⟩),.agg #[.int .i64 x.1,.int .i64 x.2]] W fun e w'=>e=.returned (.bool false)∧ ∃v',Pm w' b base vn vr lim blk v' (Zv g lim x s)∧Only (ZeY base) W w':=by
 obtain⟨j0,hj0,hy0,hy1,hy2⟩:=info_parts Zac;rw[(Zg3 hn hbig).1];obtain⟨hx1,hm,hl⟩:=Zfi hn;obtain⟨vs,vb,vl,vg,vp⟩:=v;obtain⟨A1,k1,e1,hc1,hm1, -⟩:=Pm.sl h.sm;obtain⟨A4,k4,e4,hc4,hm4, -⟩:=Pm.sl h.lg;obtain⟨A5,k5,e5,hc5,hm5, -⟩:=Pm.sl h.pl;simp only at e1 e4 e5;subst e1 e4 e5;obtain⟨x1,x2⟩:=x;simp only at hx1 hm hl hx hbig ⊢;subst hx1
 obtain⟨n,rfl⟩: ∃n:Nat,x2=n:=⟨x2.toNat,by omega⟩
 have hlt:n<g.nd.length:=by omega
 obtain⟨A,c,rfl,hac,hcm⟩:=hr.nodes.form;unfold maxLen at hcm
 obtain⟨d,hd⟩: ∃x,g.nd[n]? =some x:=⟨_,Ya hlt⟩
 obtain⟨bb,oo,fv,rv,hA,hbb,hh',g0,g1,g2,hnd⟩:=hr.at_ (Below.refl _ _) hd;obtain⟨Af,cf,hfv,hafc,hcfm⟩:=hnd.fields.form;obtain⟨Arw,crw,hrv,harw,hcrw⟩:=hnd.raws.form;simp only at hfv hrv;subst hfv hrv
 obtain⟨rfl, -⟩:A=some ⟨bb,oo,none⟩∧True:=by simpa using hA
 rw[ZjA hd] at hbig;have HSZ:=ZZ (fun (W':World) (o:Only nob W W')=>Zjq d _ _ W' (hnd.below (o.below hB fun _ h=>h.elim)))
 obtain⟨kd,hkd⟩: ∃kd,kd=d.kd:=⟨_,rfl⟩
 obtain⟨sz,hsz⟩: ∃z,z=ZbK d:=⟨_,rfl⟩
 rw[← hsz] at HSZ hbig;rw[← hkd] at HSZ g0;obtain⟨W1,hW1,HB1⟩:=Zae W 2 (n:Int);have HW1:=ZZ hW1;have HP:=ZZ h;have BX:=ZZ (h.box.keep HB1.out.1 id);have HI1:=ZZ (fun (W':World) (o:Only nob W W')=>ZjT (.slice A1 s.small.length k1) s.small (n:Int) W.heap.size W' ((Pm.sl h.sm).below (o.below (Yj _) fun _ h=>h.elim)));have HI4:=ZZ (fun (W':World) (o:Only nob W W')=>ZjT (.slice A4 s.large.length k4) s.large (n:Int) W.heap.size W' ((Pm.sl h.lg).below (o.below (Yj _) fun _ h=>h.elim)));rw[Yl hm] at HI1;rw[Yl hl] at HI4;have d0:W1.cell? ⟨W.heap.size,0,none⟩=some (.int .i64 2):=HB1.out.2.cell 0;have d1:W1.cell? ⟨W.heap.size,1,none⟩=some (.int .i64 n):=HB1.out.2.cell 1;have c4:W1.cell? ⟨b,4,none⟩=some (.slice A1 s.small.length k1):=BX.out.cell 4;have c7:W1.cell? ⟨b,7,none⟩=some (.slice A4 s.large.length k4):=BX.out.cell 7;have O1:=ZZ HB1.out.1;have HX:=ZZ (And.intro h.new hbase);clear hW1 h hn hm hl hd hh' hnd hr hsz hkd hA
 go_enter Tryz.func205,Tryz.ntmps205
 go_upto_region 1 with fail
 rw[HW1.out]
 go_wp2_with fail
 go_at_call 81;refine(HI1.out W1 O1.out).mono ?_;rintro e w3 ⟨rfl,o⟩;have O3:=ZZ (O1.out.trans o);have e7:=o.keeps c7;clear o d0 d1 c4 c7
 go_wp2_with fail
 go_at_call 81;refine(HI4.out w3 O3.out).mono ?_;rintro e w5 ⟨rfl,o⟩;have O5:=ZZ (O3.out.trans o);have B5:=ZZ (HP.out.box.keep O5.out id);have c0:w5.cell? ⟨b,0,none⟩=some (.slice (some ⟨bb,oo,none⟩) g.nd.length c):=B5.out.cell 0;have f0:=O5.out.keeps g0;have f1:=O5.out.keeps g1;have f2:=O5.out.keeps g2;clear o e7 g0 g1 g2
 go_wp2_with fail
 go_at_call 124;refine(HSZ.out w5 O5.out).mono ?_;rintro e w6 ⟨rfl,o⟩;have O6:=ZZ (O5.out.trans o);have B6:=ZZ (HP.out.box.keep O6.out id);have P6:=ZZ (HP.out.nob O6.out);have c2:w6.cell? ⟨b,2,none⟩=some (.int .i64 lim):=B6.out.cell 2;have c7:w6.cell? ⟨b,7,none⟩=some (.slice A4 s.large.length k4):=B6.out.cell 7
 obtain⟨nl,hnl⟩: ∃m,m=s.large.length:=⟨_,rfl⟩
 have HNL:=ZZ hnl;rw[← hnl] at c7 hlg;have hR:=P6.out.lg;simp only at hR;rw[← hnl] at hR;have HR4:=ZZ hR;have h6:=ZZ (show base≤w6.heap.size from Yi HX.out.2 O6.out.size);clear o c0 f0 f1 f2 hnl hR
 go_wp2_with (with_reducible refine Ze (o:=⟨some 48,_,_,_,_,_⟩) _ rfl (.tmp 45) (.tmp 47) _ rfl base 3 j0 _ 1 8 Tryz.underlying35 hj0 hy0 hy1 hy2 rfl (by decide) (.slice A4 nl k4) nl (i64s s.large) rfl ?c1 (w6.heap.size+1) (.slice (some ⟨w6.heap.size,0,none⟩) 1 1) 1 (i64s [(n:Int)]) rfl ?c6 (Za4 _) ?c2 ?c3 ?c4 ?c5)
 case c1=>exact Za HR4.out ((Only.refl nob w6).alloc _) (fun _ _ h=>h)
 case c6=>exact ZcF w6 _
 case c2=>unfold maxLen;omega
 case c3=>omega
 case c4=>have:=h6.out;simp;omega
 case c5=>
  intro v7 w7 H7 o7 hv7;obtain⟨A7,k7,rfl, -, -⟩:=Zi H7.out;have H7':=H7.out;rw[HNL.out] at H7' o7 hv7;have oa:Only nob w6 (w6.alloc (.cells #[.int .i64 (n:Int)] 3)):=(Only.refl nob w6).alloc _;have PA:=P6.out.nob oa;have B7:=PA.box.keep o7 (ZL PA.box PA.lg (by decide))
  have c7:w7.cell? ⟨b,7,none⟩=some (.slice A4 nl k4):=by rw[HNL.out];exact B7.cell 7
  have f7:=B7.free 7;have hP7:=Zqn P6.out oa (n:Int) H7' o7 (by simpa using hv7);rw[← HNL.out] at hP7
  obtain⟨X7,hX7,P7⟩: ∃X,w7.setCell ⟨b,7,none⟩ (.slice A7 (nl+1) k7)=X∧Hid (Pm X b base _ _ _ _ _ _):=⟨_,rfl,ZZ hP7⟩
  clear hP7;have HX7:=ZZ hX7;have OX7:=ZZ (show Only (ZeY base) W X7 from hX7▸((ZcN (O6.out.trans oa)).trans (Zi2 PA.lg o7)).trans (Zg0 w7 HX.out.1));clear hX7 PA B7 H7' H7 o7 hv7 oa c2
  go_upto_region 9 with fail
  rw[HX7.out];clear c7 f7;have c8:X7.cell? ⟨b,8,none⟩=some (.slice A5 s.pile.length k5):=P7.out.box.cell 8
  obtain⟨np,hnp⟩: ∃m,m=s.pile.length:=⟨_,rfl⟩
  have HNP:=ZZ hnp;rw[← hnp] at c8 hpl;have hR:=P7.out.pl;simp only at hR;rw[← hnp] at hR;have HR5:=ZZ hR;have h7:=ZZ (show base≤X7.heap.size from Yi HX.out.2 OX7.out.size);clear hnp hR
  go_wp2_with (with_reducible refine Ze (o:=⟨some 58,_,_,_,_,_⟩) _ rfl (.tmp 55) (.tmp 57) _ rfl base 3 j0 _ 1 8 Tryz.underlying35 hj0 hy0 hy1 hy2 rfl (by decide) (.slice A5 np k5) np (i64s s.pile) rfl ?e1 (X7.heap.size+1) (.slice (some ⟨X7.heap.size,0,none⟩) 1 1) 1 (i64s [(n:Int)]) rfl ?e6 (Za4 _) ?e2 ?e3 ?e4 ?e5)
  case e1=>exact Za HR5.out ((Only.refl nob X7).alloc _) (fun _ _ h=>h)
  case e6=>exact ZcF X7 _
  case e2=>unfold maxLen;omega
  case e3=>omega
  case e4=>have:=h7.out;simp;omega
  case e5=>
   intro v8 w8 H8 o8 hv8;obtain⟨A8,k8,rfl, -, -⟩:=Zi H8.out;have H8':=H8.out;rw[HNP.out] at H8' o8 hv8;have oa:Only nob X7 (X7.alloc (.cells #[.int .i64 (n:Int)] 3)):=(Only.refl nob X7).alloc _;have PA:=P7.out.nob oa;have B8:=PA.box.keep o8 (ZL PA.box PA.pl (by decide))
   have c8:w8.cell? ⟨b,8,none⟩=some (.slice A5 np k5):=by rw[HNP.out];exact B8.cell 8
   have f8:=B8.free 8;have hP8:=ZrG P7.out oa (n:Int) H8' o8 (by simpa using hv8);simp only at hP8;rw[← HNP.out] at hP8
   obtain⟨X8,hX8,P8⟩: ∃X,w8.setCell ⟨b,8,none⟩ (.slice A8 (np+1) k8)=X∧Hid (Pm X b base _ _ _ _ _ _):=⟨_,rfl,ZZ hP8⟩
   clear hP8;have HX8:=ZZ hX8;have OX8:=ZZ (show Only (ZeY base) W X8 from hX8▸((OX7.out.trans (ZcN oa)).trans (Zi2 PA.pl o8)).trans (Zg0 w8 HX.out.1));clear hX8 PA B8 H8' H8 o8 hv8 oa
   go_upto_region 10 with fail
   rw[HX8.out];clear c8 f8;go_wp2;go_ret
   first|exact⟨rfl,_,P8.out,OX8.out⟩|exact⟨_,P8.out,OX8.out⟩
theorem Znx (z:Int):IntKind.i64.wrap z=wrap64 z:=by rw[IntKind.wrap_i64];unfold wrap64;omega
theorem Zud {W:World} {b base:Nat} {vn vr:Value} {lim blk:Int} {v:PV} {s:PSt} (h:Pm W b base vn vr lim blk v s) (y:Int):Pm (W.setCell ⟨b,9,none⟩ (.int .i64 y)) b base vn vr lim blk v {s with top:=y}:=by
 have ho:=Zd W b 9 (.int .i64 y)
 have ne: ∀{E:TypeId} {n:Nat} {u:Value} {xs:List Value},W.ownsRow base E 1 u n xs→179≠E→ ∀k,u.ownBlock=some k→ ¬isb b k:=fun hw hE k e e2=>by
  unfold isb at e2;subst e2;exact ZL h.box hw hE e
 exact⟨(by simpa using h.box.put 9 (.int .i64 y)),h.new,Za h.sm ho (ne h.sm (by decide)),Za h.bg ho (ne h.bg (by decide)),Za h.lk ho (ne h.lk (by decide)),Za h.lg ho (ne h.lg (by decide)),Za h.pl ho (ne h.pl (by decide)),h.sb,h.sg,h.sp,h.bgx,h.bp,h.gp⟩
theorem Zjz:(Tryz.prog.info? 4).map (fun i=>(i.zero,i.size,i.bytes))=some (some (.bool false),1,1):=by kernel_rfl
theorem ZmY (w:World) (x:Bool):Sl (w.alloc (.cells #[.bool x] 4)) (w.heap.size+1) 1 (.slice (some ⟨w.heap.size,0,none⟩) 1 1) 1 (boos [x]):=by
 have:=Sl.of_blk (size:=1) (n:=1) (c:=1) (Blk.new w 4 #[.bool x]) (by simp) (Yj _) (by decide)
 simpa[boos] using this
theorem Zq0 (l:List Bool): ∀v∈boos l,v.oneCell'=true:=by
 intro v hv;unfold boos at hv;simp only[List.mem_map] at hv;obtain⟨x, -,rfl⟩:=hv;rfl
theorem Zet {g:Gr} {lim:Int} {v:Sp} {s:PSt} (h:ZY v s=true) (hb: ¬lim<ZbK (ZbC g v.2)):Zv g lim v s={s with small:=s.small++[v.2],begins:=s.begins++[s.top],looked:=s.looked++[false],top:=wrap64 (s.top+ZbK (ZbC g v.2))}∧ZaJ g lim v s=true:=by
 unfold Zv ZaJ;rw[if_pos h,if_neg hb,h];exact⟨rfl,by simp[hb]⟩
theorem ZiE (W:World) (b base B:Nat) (g:Gr) (vn vr:Value) (hs:List (Value×Value)) (lim blk:Int) (v:PV) (s:PSt) (x:Sp) (h:Pm W b base vn vr lim blk v s) (hr:RdG W B g vn vr hs) (hB:B≤W.heap.size) (hbase:base≤W.heap.size) (hn:ZY x s=true)
 (hx:0≤x.2∧x.2<(g.nd.length:Int)) (hbig: ¬lim<ZbK (ZbC g x.2)) (hsl:s.small.length≤1000) (hbl:s.begins.length≤1000) (hll:s.looked.length≤1000) (ht: -9223372036854775808≤s.top∧s.top≤9223372036854775807):
 Calls Tryz.prog 205 #[.pointer (some ⟨b,0,none⟩),.agg #[.int .i64 x.1,.int .i64 x.2]] W fun e w'=>e=.returned (.bool true)∧ ∃v',Pm w' b base vn vr lim blk v' (Zv g lim x s)∧Only (ZeY base) W w':=by
 obtain⟨j0,hj0,hy0,hy1,hy2⟩:=info_parts Zac;rw[(Zet hn hbig).1];obtain⟨hx1,hm,hl⟩:=Zfi hn;obtain⟨vs,vb,vl,vg,vp⟩:=v;obtain⟨A1,k1,e1,hc1,hm1, -⟩:=Pm.sl h.sm;obtain⟨A4,k4,e4,hc4,hm4, -⟩:=Pm.sl h.lg;obtain⟨A2,k2,e2,hc2,hm2, -⟩:=Pm.sl h.bg;obtain⟨A3,k3,e3,hc3,hm3, -⟩:=Pm.sl h.lk;simp only at e1 e2 e3 e4;subst e1 e2 e3 e4;obtain⟨x1,x2⟩:=x;simp only at hx1 hm hl hx hbig ⊢;subst hx1
 obtain⟨n,rfl⟩: ∃n:Nat,x2=n:=⟨x2.toNat,by omega⟩
 have hlt:n<g.nd.length:=by omega
 obtain⟨A,c,rfl,hac,hcm⟩:=hr.nodes.form;unfold maxLen at hcm
 obtain⟨d,hd⟩: ∃x,g.nd[n]? =some x:=⟨_,Ya hlt⟩
 obtain⟨bb,oo,fv,rv,hA,hbb,hh',g0,g1,g2,hnd⟩:=hr.at_ (Below.refl _ _) hd;obtain⟨Af,cf,hfv,hafc,hcfm⟩:=hnd.fields.form;obtain⟨Arw,crw,hrv,harw,hcrw⟩:=hnd.raws.form;simp only at hfv hrv;subst hfv hrv
 obtain⟨rfl, -⟩:A=some ⟨bb,oo,none⟩∧True:=by simpa using hA
 rw[ZjA hd] at hbig;have HSZ:=ZZ (fun (W':World) (o:Only nob W W')=>Zjq d _ _ W' (hnd.below (o.below hB fun _ h=>h.elim)))
 obtain⟨kd,hkd⟩: ∃kd,kd=d.kd:=⟨_,rfl⟩
 obtain⟨sz,hsz⟩: ∃z,z=ZbK d:=⟨_,rfl⟩
 rw[← hsz] at HSZ hbig;rw[← hkd] at HSZ g0;have HTOP:=ZZ (show ZbK (ZbC g (n:Int))=sz by rw[ZjA hd,hsz]);obtain⟨W1,hW1,HB1⟩:=Zae W 2 (n:Int);have HW1:=ZZ hW1;have HP:=ZZ h;have BX:=ZZ (h.box.keep HB1.out.1 id);have HI1:=ZZ (fun (W':World) (o:Only nob W W')=>ZjT (.slice A1 s.small.length k1) s.small (n:Int) W.heap.size W' ((Pm.sl h.sm).below (o.below (Yj _) fun _ h=>h.elim)));have HI4:=ZZ (fun (W':World) (o:Only nob W W')=>ZjT (.slice A4 s.large.length k4) s.large (n:Int) W.heap.size W' ((Pm.sl h.lg).below (o.below (Yj _) fun _ h=>h.elim)));rw[Yl hm] at HI1;rw[Yl hl] at HI4;have d0:W1.cell? ⟨W.heap.size,0,none⟩=some (.int .i64 2):=HB1.out.2.cell 0;have d1:W1.cell? ⟨W.heap.size,1,none⟩=some (.int .i64 n):=HB1.out.2.cell 1;have c4:W1.cell? ⟨b,4,none⟩=some (.slice A1 s.small.length k1):=BX.out.cell 4;have c7:W1.cell? ⟨b,7,none⟩=some (.slice A4 s.large.length k4):=BX.out.cell 7;have O1:=ZZ HB1.out.1;have HX:=ZZ (And.intro h.new hbase);clear hW1 h hn hm hl hd hh' hnd hr hsz hkd hA
 go_enter Tryz.func205,Tryz.ntmps205
 go_upto_region 1 with fail
 rw[HW1.out]
 go_wp2_with fail
 go_at_call 81;refine(HI1.out W1 O1.out).mono ?_;rintro e w3 ⟨rfl,o⟩;have O3:=ZZ (O1.out.trans o);have e7:=o.keeps c7;clear o d0 d1 c4 c7
 go_wp2_with fail
 go_at_call 81;refine(HI4.out w3 O3.out).mono ?_;rintro e w5 ⟨rfl,o⟩;have O5:=ZZ (O3.out.trans o);have B5:=ZZ (HP.out.box.keep O5.out id);have c0:w5.cell? ⟨b,0,none⟩=some (.slice (some ⟨bb,oo,none⟩) g.nd.length c):=B5.out.cell 0;have f0:=O5.out.keeps g0;have f1:=O5.out.keeps g1;have f2:=O5.out.keeps g2;clear o e7 g0 g1 g2
 go_wp2_with fail
 go_at_call 124;refine(HSZ.out w5 O5.out).mono ?_;rintro e w6 ⟨rfl,o⟩;have O6:=ZZ (O5.out.trans o);have B6:=ZZ (HP.out.box.keep O6.out id);have P6:=ZZ (HP.out.nob O6.out);have c2:w6.cell? ⟨b,2,none⟩=some (.int .i64 lim):=B6.out.cell 2;have c4:w6.cell? ⟨b,4,none⟩=some (.slice A1 s.small.length k1):=B6.out.cell 4;have hb6:=ZZ (show base≤w6.heap.size from Yi HX.out.2 O6.out.size);clear o c0 f0 f1 f2
 obtain⟨ns,hns⟩: ∃m,m=s.small.length:=⟨_,rfl⟩
 have HNS:=ZZ hns;rw[← hns] at c4 hsl;have hR:=P6.out.sm;simp only at hR;rw[← hns] at hR;have HR1:=ZZ hR;clear hns hR
 go_wp2_with (with_reducible refine Ze (o:=⟨some 68,_,_,_,_,_⟩) _ rfl (.tmp 65) (.tmp 67) _ rfl base 3 j0 _ 1 8 Tryz.underlying35 hj0 hy0 hy1 hy2 rfl (by decide) (.slice A1 ns k1) ns (i64s s.small) rfl ?c1 (w6.heap.size+1) (.slice (some ⟨w6.heap.size,0,none⟩) 1 1) 1 (i64s [(n:Int)]) rfl ?c6 (Za4 _) ?c2 ?c3 ?c4 ?c5)
 case c1=>exact Za HR1.out ((Only.refl nob w6).alloc _) (fun _ _ h=>h)
 case c6=>exact ZcF w6 _
 case c2=>unfold maxLen;omega
 case c3=>omega
 case c4=>have:=hb6.out;simp;omega
 case c5=>
  intro v7 w7 H7 o7 hv7;obtain⟨A7,k7,rfl, -, -⟩:=Zi H7.out;have H7':=H7.out;rw[HNS.out] at H7' o7 hv7;have oa:Only nob w6 (w6.alloc (.cells #[.int .i64 (n:Int)] 3)):=(Only.refl nob w6).alloc _;have PA:=P6.out.nob oa;have B7:=PA.box.keep o7 (ZL PA.box PA.sm (by decide))
  have c4:w7.cell? ⟨b,4,none⟩=some (.slice A1 ns k1):=by rw[HNS.out];exact B7.cell 4
  have f7:=B7.free 4;have hP7:=Zqa P6.out oa (n:Int) H7' o7 (by simpa using hv7);simp only at hP7;rw[← HNS.out] at hP7
  obtain⟨X7,hX7,P7⟩: ∃X,w7.setCell ⟨b,4,none⟩ (.slice A7 (ns+1) k7)=X∧Hid (Pm X b base _ _ _ _ _ _):=⟨_,rfl,ZZ hP7⟩
  clear hP7;have HX7:=ZZ hX7;have OX7:=ZZ (show Only (ZeY base) W X7 from hX7▸((ZcN (O6.out.trans oa)).trans (Zi2 PA.sm o7)).trans (Zg0 w7 HX.out.1));clear hX7 PA B7 H7' H7 o7 hv7 oa c2
  go_upto_region 12 with fail
  rw[HX7.out];clear c4 f7
  obtain⟨nb,hnb⟩: ∃m,m=s.begins.length:=⟨_,rfl⟩
  have HNB:=ZZ hnb
  have c5:X7.cell? ⟨b,5,none⟩=some (.slice A2 nb k2):=by rw[hnb];exact P7.out.box.cell 5
  have c9:X7.cell? ⟨b,9,none⟩=some (.int .i64 s.top):=P7.out.box.cell 9
  obtain⟨tp,htp⟩: ∃t,t=s.top:=⟨_,rfl⟩
  have HTP:=ZZ htp;rw[← htp] at c9 ht;rw[← hnb] at hbl;clear hnb htp;refine ZaC (stop:=13) (S:=fun w':World=>w'.cell? ⟨b,5,none⟩=some (.slice A2 nb k2)∧w'.cell? ⟨b,9,none⟩=some (.int .i64 tp)) (by kernel_rfl) ?_ (fun hHeld=>?_)
  · exact⟨c5,c9⟩
  clear c5 c9;have OD:=ZZ (show Only nob X7 X7.drew from(Only.refl nob X7).drewN 1);generalize X7.drew=WD at hHeld OD ⊢;refine Zc (i:=0) (v:=?_) rfl (by kernel_rfl) (by kernel_rfl) (by kernel_rfl) (by kernel_rfl) (fun _ _ _ h=>h) (Or.inl ⟨by rfl,?_⟩) hHeld ?_;rotate_left
  · intro w hSw;(try dsimp only at hSw);go_simp;first|done|with_reducible rfl
  try simp only[Act.put,Yb,Yd,Yc,Yh,Yf,Yg]
  refine Zc (i:=1) (v:=?_) rfl (by kernel_rfl) (by kernel_rfl) (by kernel_rfl) (by kernel_rfl) (fun _ _ _ h=>h) (Or.inl ⟨by rfl,?_⟩) hHeld ?_;rotate_left
  · intro w hSw;(try dsimp only at hSw);go_simp;first|done|with_reducible rfl
  try simp only[Act.put,Yb,Yd,Yc,Yh,Yf,Yg]
  refine Zc (i:=2) (v:=?_) rfl (by kernel_rfl) (by kernel_rfl) (by kernel_rfl) (by kernel_rfl) (fun _ _ _ h=>h) (Or.inl ⟨by rfl,?_⟩) hHeld ?_;rotate_left
  · intro w hSw;(try dsimp only at hSw);go_simp;first|done|with_reducible rfl
  try simp only[Act.put,Yb,Yd,Yc,Yh,Yf,Yg]
  refine Zc (i:=3) (v:=?_) rfl (by kernel_rfl) (by kernel_rfl) (by kernel_rfl) (by kernel_rfl) (fun _ _ _ h=>h) (Or.inl ⟨by rfl,?_⟩) hHeld ?_;rotate_left
  · intro w hSw;(try dsimp only at hSw);go_simp;first|done|with_reducible rfl
  try simp only[Act.put,Yb,Yd,Yc,Yh,Yf,Yg]
  refine Zc (i:=4) (v:=?_) rfl (by kernel_rfl) (by kernel_rfl) (by kernel_rfl) (by kernel_rfl) (fun _ _ _ h=>h) (Or.inl ⟨by rfl,?_⟩) hHeld ?_;rotate_left
  · intro w hSw;(try dsimp only at hSw);go_simp;first|done|with_reducible rfl
  try simp only[Act.put,Yb,Yd,Yc,Yh,Yf,Yg]
  refine Zc (i:=5) (v:=?_) rfl (by kernel_rfl) (by kernel_rfl) (by kernel_rfl) (by kernel_rfl) (fun _ _ _ h=>h) (Or.inl ⟨by rfl,?_⟩) hHeld ?_;rotate_left
  · intro w hSw;(try dsimp only at hSw);go_simp;first|done|with_reducible rfl
  try simp only[Act.put,Yb,Yd,Yc,Yh,Yf,Yg]
  refine Zc (i:=6) (v:=?_) rfl (by kernel_rfl) (by kernel_rfl) (by kernel_rfl) (by kernel_rfl) (fun _ _ _ h=>h) (Or.inl ⟨by rfl,?_⟩) hHeld ?_;rotate_left
  · intro w hSw;(try dsimp only at hSw);go_simp;first|done|with_reducible rfl
  try simp only[Act.put,Yb,Yd,Yc,Yh,Yf,Yg]
  refine Zc (i:=7) (v:=?_) rfl (by kernel_rfl) (by kernel_rfl) (by kernel_rfl) (by kernel_rfl) (fun _ _ _ h=>h) (Or.inl ⟨by rfl,?_⟩) hHeld ?_;rotate_left
  · intro w hSw;(try dsimp only at hSw);go_simp;first|done|with_reducible rfl
  try simp only[Act.put,Yb,Yd,Yc,Yh,Yf,Yg]
  refine Zc (i:=8) (v:=?_) rfl (by kernel_rfl) (by kernel_rfl) (by kernel_rfl) (by kernel_rfl) (fun _ _ _ h=>h) (Or.inl ⟨by rfl,?_⟩) hHeld ?_;rotate_left
  · intro w hSw;(try dsimp only at hSw);go_simp;first|done|with_reducible rfl
  try simp only[Act.put,Yb,Yd,Yc,Yh,Yf,Yg]
  have PD:=ZZ (P7.out.nob OD.out)
  obtain⟨XL,hX,oX,sX⟩: ∃X,WD.alloc (.cells #[.int .i64 tp] 3)=X∧Only nob WD X∧Sl X (WD.heap.size+1) 1 (.slice (some ⟨WD.heap.size,0,none⟩) 1 1) 1 (i64s [tp]):=⟨_,rfl,(Only.refl nob WD).alloc _,ZcF WD tp⟩
  have HWE:=ZZ hX;have OL:=ZZ oX;have SL:=ZZ sX;have hszL:=ZZ (show XL.heap.size=WD.heap.size+1 by rw[← hX];simp);clear hX oX sX;refine Zk (rs:=[9]) (by kernel_rfl) (by simp) ?_;refine(ZaI.cons rfl (fun K hK=>?_) ZaI.nil);go_simp
  with_reducible rw[HWE.out]
  refine hK.out _ _ (fun _=>⟨OL.out.keeps hHeld.1,OL.out.keeps hHeld.2⟩) (fun hHeld2=>?_);clear hK K hHeld;have hHeld:=hHeld2 (by decide);clear hHeld2
  try simp only[Act.put,Yb,Yd,Yc,Yh,Yf,Yg]
  have PL:=ZZ (PD.out.nob OL.out);have hR:=PL.out.bg;simp only at hR;rw[← HNB.out] at hR;refine Zk (rs:=[10]) (by kernel_rfl) (by simp) ?_;refine(ZaI.cons rfl (fun K hK=>?_) ZaI.nil);refine ZX _ (by rfl) _ _ _ (by rfl) base 3 j0 _ 1 8 Tryz.underlying35 hj0 hy0 hy1 hy2 (by rfl) (by decide) (.slice A2 nb k2) nb (i64s s.begins) (by rfl) hR (WD.heap.size+1) (.slice (some ⟨WD.heap.size,0,none⟩) 1 1) 1 (i64s [tp]) (by rfl) SL.out (Za4 _) (by unfold maxLen;omega) (by omega) (by have h1:=HX.out.2;have h2:=OX7.out.size;have h3:=OD.out.size;have h4:=OL.out.size;omega) ?_;intro v8 w8 H8 o8 hv8;obtain⟨A8,k8,rfl, -, -⟩:=Zi H8.out;have H8':=H8.out;rw[HNB.out] at H8' o8 hv8;have B8:=PL.out.box.keep o8 (ZL PL.out.box PL.out.bg (by decide))
  have c5:w8.cell? ⟨b,5,none⟩=some (.slice A2 nb k2):=by rw[HNB.out];exact B8.cell 5
  have c9:w8.cell? ⟨b,9,none⟩=some (.int .i64 tp):=by rw[HTP.out];exact B8.cell 9
  have f8:=B8.free 5;rw[HTP.out] at H8';have hP8:=Zrx PD.out OL.out s.top H8' o8 hv8;simp only at hP8;rw[← HNB.out] at hP8
  obtain⟨X8,hX8,P8⟩: ∃X,w8.setCell ⟨b,5,none⟩ (.slice A8 (nb+1) k8)=X∧Hid (Pm X b base _ _ _ _ _ _):=⟨_,rfl,ZZ hP8⟩
  clear hP8;have HX8:=ZZ hX8;have OX8:=ZZ (show Only (ZeY base) W X8 from hX8▸((OX7.out.trans (ZcN (OD.out.trans OL.out))).trans (Zi2 PL.out.bg o8)).trans (Zg0 w8 HX.out.1));clear hX8 B8 H8' H8 o8 hv8 hR;refine hK.out _ _ (fun _=>⟨c5,c9⟩) (fun hHeld2=>?_);clear hK K hHeld;have hHeld:=hHeld2 (by decide);clear hHeld2
  try simp only[Act.put,Yb,Yd,Yc,Yh,Yf,Yg]
  refine Zk (rs:=[11]) (by kernel_rfl) (by simp) ?_;refine(ZaI.cons rfl (fun K hK=>?_) ZaI.nil);go_simp;refine hK.out _ _ (fun _=>hHeld) (fun hHeld2=>?_);clear hK K hHeld;have hHeld:=hHeld2 (by decide);clear hHeld2
  try simp only[Act.put,Yb,Yd,Yc,Yh,Yf,Yg]
  refine Zk (rs:=[12]) (by kernel_rfl) (by simp) ?_;refine(ZaI.cons rfl (fun K hK=>?_) ZaI.nil);go_simp;refine hK.out _ _ (fun _=>hHeld) (fun hHeld2=>?_);clear hK K hHeld;have hHeld:=hHeld2 (by decide);clear hHeld2
  try simp only[Act.put,Yb,Yd,Yc,Yh,Yf,Yg]
  refine Zk (rs:=[13]) (by kernel_rfl) (by simp) ?_;refine(ZaI.cons rfl (fun K hK=>?_) ZaI.nil);go_simp
  with_reducible rw[HX8.out]
  refine hK.out _ _ (fun h=>absurd rfl h) (fun hHeld2=>?_);clear hK K hHeld hHeld2 c5 c9 f8
  try simp only[Act.put,Yb,Yd,Yc,Yh,Yf,Yg]
  refine ZbA (by kernel_rfl) ?_ _
  obtain⟨nq,hnq⟩: ∃m,m=s.looked.length:=⟨_,rfl⟩
  have HNQ:=ZZ hnq
  have c6:X8.cell? ⟨b,6,none⟩=some (.slice A3 nq k3):=by rw[hnq];exact P8.out.box.cell 6
  rw[← hnq] at hll;have hR:=P8.out.lk;simp only at hR;rw[← hnq] at hR;have HR3:=ZZ hR;have h8:=ZZ (show base≤X8.heap.size from Yi HX.out.2 OX8.out.size);obtain⟨u0,hu0,hu1,hu2,hu3⟩:=info_parts Zjz;clear hnq hR
  go_wp2_with (with_reducible refine Ze (o:=⟨some 90,_,_,_,_,_⟩) _ rfl (.tmp 88) (.tmp 89) _ rfl base 4 u0 _ 1 1 Tryz.underlying167 hu0 hu1 hu2 hu3 rfl (by decide) (.slice A3 nq k3) nq (boos s.looked) rfl ?e1 (X8.heap.size+1) (.slice (some ⟨X8.heap.size,0,none⟩) 1 1) 1 (boos [false]) rfl ?e6 (Zq0 _) ?e2 ?e3 ?e4 ?e5)
  case e1=>exact Za HR3.out ((Only.refl nob X8).alloc _) (fun _ _ h=>h)
  case e6=>exact ZmY X8 _
  case e2=>unfold maxLen;omega
  case e3=>omega
  case e4=>have:=h8.out;simp;omega
  case e5=>
   intro v9 w9 H9 o9 hv9;obtain⟨A9,k9,rfl, -, -⟩:=Zi H9.out;have H9':=H9.out;rw[HNQ.out] at H9' o9 hv9;have oa:Only nob X8 (X8.alloc (.cells #[.bool false] 4)):=(Only.refl nob X8).alloc _;have PA:=P8.out.nob oa;have B9:=PA.box.keep o9 (ZL PA.box PA.lk (by decide))
   have c6:w9.cell? ⟨b,6,none⟩=some (.slice A3 nq k3):=by rw[HNQ.out];exact B9.cell 6
   have f9:=B9.free 6;have hP9:=Zqy P8.out oa false H9' o9 (by simpa using hv9);simp only at hP9;rw[← HNQ.out] at hP9
   obtain⟨X9,hX9,P9⟩: ∃X,w9.setCell ⟨b,6,none⟩ (.slice A9 (nq+1) k9)=X∧Hid (Pm X b base _ _ _ _ _ _):=⟨_,rfl,ZZ hP9⟩
   clear hP9;have HX9:=ZZ hX9;have OX9:=ZZ (show Only (ZeY base) W X9 from hX9▸((OX8.out.trans (ZcN oa)).trans (Zi2 PA.lk o9)).trans (Zg0 w9 HX.out.1));clear hX9 PA B9 H9' H9 o9 hv9 oa
   go_upto_region 14 with fail
   rw[HX9.out];clear c6 f9
   have c9:X9.cell? ⟨b,9,none⟩=some (.int .i64 tp):=by rw[HTP.out];exact P9.out.box.cell 9
   have f10:=P9.out.box.free 9;have hww:IntKind.i64.wrap (tp+sz)=wrap64 (tp+sz):=Znx _;have P10:=ZZ (Zud P9.out (wrap64 (tp+sz)));have OX10:=ZZ (OX9.out.trans (Zg0 (i:=9) (u:=.int .i64 (wrap64 (tp+sz))) X9 HX.out.1));go_wp2;go_ret;rw[HTOP.out,show wrap64 (s.top+sz)=wrap64 (tp+sz) by rw[HTP.out]]
   first|exact⟨rfl,_,P10.out,OX10.out⟩|exact⟨rfl,⟨_,P10.out⟩,OX10.out⟩|exact⟨_,P10.out,OX10.out⟩
end
section
open Go.RowKit
theorem ZqU {g:Gr} (hg:Z9 g=true) {x:Int} (hx:0≤x∧x<(g.nd.length:Int)):1≤ZbK (ZbC g x)∧ZbK (ZbC g x)≤8193:=by
 have hlt:x.toNat<g.nd.length:=by omega
 have hm:ZbC g x∈g.nd:=by
  unfold ZbC;rw[Yn,Ya hlt];exact List.getElem_mem hlt
 obtain⟨-,h2,h3, -⟩:=Zb6.1 ((Zb9.1 hg).1 _ hm);unfold ZbK ZhH;rw[ZdV _ (by omega) (by omega)];omega
structure Bg (s:PSt):Prop where
 bs: ∀b∈s.begins,0≤b∧b≤s.top
 tn:0≤s.top∧s.top≤8193 * (s.small.length:Int)
theorem Bg.none_:Bg .none:=⟨fun b hb=>(by cases hb),Int.le_refl _,Int.le_refl _⟩
theorem Bg.meet {g:Gr} (hg:Z9 g=true) {lim:Int} {v:Sp} {s:PSt} (h:Bg s) (hl:s.small.length≤1000000) (hx:v.1=2→0≤v.2∧v.2<(g.nd.length:Int)):Bg (Zv g lim v s):=by
 unfold Zv;by_cases hn:ZY v s=true
 · rw[if_pos hn]
   by_cases hb:lim<ZbK (ZbC g v.2)
   · rw[if_pos hb];exact⟨h.bs,h.tn⟩
   · rw[if_neg hb]
     have hs:=ZqU hg (hx (Zo7 hn).1);have ht:=h.tn;have hw:wrap64 (s.top+ZbK (ZbC g v.2))=s.top+ZbK (ZbC g v.2):=ZdV _ (by omega) (by omega);refine⟨fun b hb=>?_,?_⟩
     · show 0≤b∧b≤wrap64 (s.top+ZbK (ZbC g v.2))
       rw[hw];rcases Yr.1 (show b∈s.begins++[s.top] from hb) with h'|h'
       · have:=h.bs b h';omega
       · rw[Yt.1 h'];omega
     · show 0≤wrap64 (s.top+ZbK (ZbC g v.2))∧wrap64 (s.top+ZbK (ZbC g v.2))≤8193 * ((s.small++[v.2]).length:Int)
       rw[hw,Ys,List.length_singleton];omega
 · rw[if_neg hn];exact h
theorem Bg.mark {s:PSt} (h:Bg s) (i:Nat):Bg (s.mark i):=⟨h.bs,h.tn⟩
theorem Zg1 {g:Gr} {lim:Int} (v:Sp): ∀(l:List Sp) (s:PSt),lookW g lim (l++[v]) s=Zv g lim v (lookW g lim l s)
 |[],s=>rfl
 |u::l,s=>Zg1 v l (Zv g lim u s)
def Zpo (g:Gr) (lim:Int):Nat→Sp→PSt→PSt
 |0,v,s=>Zv g lim v s
 |n+1,v,s=>if ZaJ g lim v s=true then lookD g lim n (ZbB g v.2) ((Zv g lim v s).mark s.small.length) else Zv g lim v s
theorem Zel {g:Gr} {lim:Int} (n:Nat) (v:Sp): ∀(l:List Sp) (s:PSt),lookD g lim n (l++[v]) s=Zpo g lim n v (lookD g lim n l s)
 |[],s=>by cases n <;> simp[lookD,Zpo]
 |u::l,s=>by
  cases n with
  |zero=>rw[List.cons_append,lookD,lookD];exact Zel 0 v l _
  |succ n=>rw[List.cons_append,lookD,lookD];exact Zel (n+1) v l _
theorem Bg.lookW {g:Gr} (hg:Z9 g=true) (hN:g.nd.length≤1000000) {lim:Int}: ∀(l:List Sp) (s:PSt),Bg s→Wf g s→Okl g l→Bg (lookW g lim l s)
 |[],s,h,_,_=>h
 |v::l,s,h,hw,ho=>by
  have hr:=hw.room;rw[ZW] at hr;exact Bg.lookW hg hN l _ (h.meet hg (by omega) fun h2=>(ho v (List.mem_cons_self ..) h2).1) (ZcI hw (ho v (List.mem_cons_self ..))).1 fun u hu=>ho u (List.mem_cons_of_mem _ hu)
theorem Bg.lookD {g:Gr} (hg:Z9 g=true) (hN:g.nd.length≤1000000) {lim:Int}: ∀(n:Nat) (l:List Sp) (s:PSt),Bg s→Wf g s→Okl g l→g.nd.length≤n+s.met.length→Bg (lookD g lim n l s):=by
 intro n
 induction n with
 |zero=>
  intro l
  induction l with
  |nil=>intro s h _ _ _;rw[Go.Proofs.YteieocddfnlmdaaGreatDoor.lookD];exact h
  |cons v l ih=>
   intro s h hw ho hf;have hr:=hw.room;rw[ZW] at hr;rw[Go.Proofs.YteieocddfnlmdaaGreatDoor.lookD];obtain⟨m1,m2, -⟩:=ZcI (lim:=lim) hw (ho v (List.mem_cons_self ..));exact ih _ (h.meet hg (by omega) fun h2=>(ho v (List.mem_cons_self ..) h2).1) m1 (fun u hu=>ho u (List.mem_cons_of_mem _ hu)) (by have:=m2.len;omega)
 |succ n ihn=>
  intro l
  induction l with
  |nil=>intro s h _ _ _;rw[Go.Proofs.YteieocddfnlmdaaGreatDoor.lookD];exact h
  |cons v l ih=>
   intro s h hw ho hf;have hr:=hw.room;rw[ZW] at hr;obtain⟨m1,m2,m3,m4,m5⟩:=ZcI (lim:=lim) hw (ho v (List.mem_cons_self ..));have hb1:=h.meet hg (lim:=lim) (v:=v) (by omega) fun h2=>(ho v (List.mem_cons_self ..) h2).1;rw[Go.Proofs.YteieocddfnlmdaaGreatDoor.lookD]
   cases hb:ZaJ g lim v s with
   |false=>
    rw[if_neg (by simp)];exact ih _ hb1 m1 (fun u hu=>ho u (List.mem_cons_of_mem _ hu)) (by have:=m2.len;omega)
   |true=>
    rw[if_pos rfl];obtain⟨e1,e2,hv2⟩:=m5 hb;have hx:=ho v (List.mem_cons_self ..) hv2;have hfs:=Zg7 hg hx.2 hx.1
    have hl2:s.met.length+1≤((Zv g lim v s).mark s.small.length).met.length:=by
     have h3:=m2.lg.length_le;have h4:((Zv g lim v s).mark s.small.length).met.length=(Zv g lim v s).met.length:=rfl
     have h5:(s.small++[v.2]).length=s.small.length+1:=by simp
     rw[h4,ZW,ZW,e1,h5];omega
    obtain⟨p1,p2, -, -⟩:=ZhO (lim:=lim) hg n (ZbB g v.2) _ (m1.mark s.small.length) hfs (by omega);exact ih _ (ihn _ _ (hb1.mark _) (m1.mark _) hfs (by omega)) p1 (fun u hu=>ho u (List.mem_cons_of_mem _ hu)) (by have:=p2.len;omega)
inductive StR (g:Gr) (lim order block:Int):Nat→PSt→PSt→Prop
 |stop {s:PSt}:ZaY g lim order block s=none→StR g lim order block 0 s s
 |go {s s' e:PSt} {n:Nat}:ZaY g lim order block s=some s'→StR g lim order block n s' e→StR g lim order block (n+1) s e
theorem Zk8 {g:Gr} {lim order block:Int}: ∀(n:Nat) (s:PSt),ZaY g lim order block (Zhp g lim order block n s)=none→ ∃m,StR g lim order block m s (Zhp g lim order block n s)
 |0,s,h=>⟨0,.stop h⟩
 |n+1,s,h=>by
  rw[Zhp] at h ⊢
  cases hs:ZaY g lim order block s with
  |none=>exact⟨0,.stop hs⟩
  |some s'=>
   rw[hs] at h;obtain⟨m,hm⟩:=Zk8 n s' h;exact⟨m+1,.go hs hm⟩
theorem ZmJ {g:Gr} (lim order block:Int) (hg:Z9 g=true): ∃m,StR g lim order block m (ZS g lim order g.rt .none) (ZbZ g lim order block):=by
 obtain⟨h1,h2⟩:=ZdU lim order hg;obtain⟨w,c,e⟩:=ZiH (block:=block) hg (g.nd.length+1) _ h1 h2 (by omega);exact Zk8 _ _ e
end
section
open Go.RowKit Go.Lib
theorem ZnQ (W:World) (b base B:Nat) (g:Gr) (vn vr:Value) (hs:List (Value×Value)) (lim blk:Int) (v:PV) (s:PSt) (x:Sp) (h:Pm W b base vn vr lim blk v s) (hr:RdG W B g vn vr hs) (hB:B≤W.heap.size) (hbase:base≤W.heap.size) (hw:Wf g s) (hbg:Bg s) (hN:g.nd.length≤1000)
 (hx:x.1=2→0≤x.2∧x.2<(g.nd.length:Int)):
 Calls Tryz.prog 205 #[.pointer (some ⟨b,0,none⟩),.agg #[.int .i64 x.1,.int .i64 x.2]] W fun e w'=>e=.returned (.bool (ZaJ g lim x s))∧ ∃v',Pm w' b base vn vr lim blk v' (Zv g lim x s)∧Only (ZeY base) W w':=by
 have hr1:=hw.room;rw[ZW] at hr1;have hp:=hw.pile_le;have hk:=hw.lk;have hb:=hw.bg;have ht:=hbg.tn
 cases hn:ZY x s with
 |false=>
  obtain⟨e1,e2⟩:=Zmn (g:=g) (lim:=lim) hn;rw[e1,e2];refine(Zl5 W b base vn vr lim blk v s x h hn).mono ?_;rintro e w' ⟨rfl,o⟩;exact⟨rfl,v,h.nob o,ZcN o⟩
 |true=>
  have hx2:=hx (Zfi hn).1;by_cases hbig:lim<ZbK (ZbC g x.2)
  · rw[(Zg3 hn hbig).2]
    exact ZmO W b base B g vn vr hs lim blk v s x h hr hB hbase hn hx2 hbig (by omega) (by omega)
  · rw[(Zet hn hbig).2]
    exact ZiE W b base B g vn vr hs lim blk v s x h hr hB hbase hn hx2 hbig (by omega) (by omega) (by omega) (by omega)
theorem Zoe {W:World} {b base:Nat} {vn vr:Value} {lim blk:Int} {v:PV} {s:PSt} (h:Pm W b base vn vr lim blk v s) {gl n c:Nat} (hv:v.l=.slice (some ⟨gl,0,none⟩) n c) {k:Nat} (hk:k<s.looked.length):
 Pm (W.setCell ⟨gl,k,none⟩ (.bool true)) b base vn vr lim blk v (s.mark k)∧Only (ZeY base) W (W.setCell ⟨gl,k,none⟩ (.bool true)):=by
 have hown:v.l.ownBlock=some gl:=by rw[hv];rfl
 have ho:=Zd W gl k (.bool true)
 have hne: ∀{E:TypeId} {n:Nat} {u:Value} {xs:List Value},W.ownsRow base E 1 u n xs→E≠4→ ∀j,u.ownBlock=some j→ ¬isb gl j:=fun hw hE j e e2=>by
  unfold isb at e2;subst e2;exact Zbj hw h.lk hE j e hown
 refine⟨⟨h.box.keep ho fun e=>by unfold isb at e;subst e;exact ZL h.box h.lk (by decide) hown,h.new,Za h.sm ho (hne h.sm (by decide)),Za h.bg ho (hne h.bg (by decide)),?_,Za h.lg ho (hne h.lg (by decide)),Za h.pl ho (hne h.pl (by decide)),h.sb,h.sg,h.sp,h.bgx,h.bp,h.gp⟩,ho.mono fun j _ e=>by unfold isb at e;rw[e];exact(Zj h.lk hown).1⟩;have hl:=h.lk;refine⟨by unfold PSt.mark boos;simp,?_⟩
 rcases hl.2 with⟨h0,_⟩|⟨g2,cap,cur,e,hb,hg,h1,h2,h3,h4⟩
 · rw[hv] at h0;cases h0
 · rw[hv] at e
   simp only[Value.slice.injEq,Option.some.injEq,Addr.mk.injEq] at e;obtain⟨⟨rfl, -, -⟩,rfl,rfl⟩:=e;have hB:Blk W gl 4 cur:=hg;refine .inr ⟨gl,c,_,?_,hb,hB.put k (.bool true),?_,h2,by simpa using h3,?_⟩
   · rw[hv];unfold PSt.mark;simp
   · unfold PSt.mark;simpa using h1
   · unfold PSt.mark
     simp only[List.length_set,Nat.mul_one] at h4 ⊢;rw[Array.toList_setIfInBounds,List.take_set,h4];unfold boos;rw[List.map_set]
structure LookP (b base B:Nat) (g:Gr) (vn vr:Value) (hs:List (Value×Value)) (lim blk:Int) (deep:Bool) (F:List Sp→PSt→PSt) (M:Nat):Prop where
 call: ∀(W:World) (v:PV) (s:PSt) (A:Option Addr) (c:Nat) (l:List Sp),Pm W b base vn vr lim blk v s→RdG W B g vn vr hs→B≤base→base≤W.heap.size→Wf g s→Bg s→Okl g l→g.nd.length≤M+s.met.length→Sl W B 2 (.slice A l.length c) l.length (spc l)→
  Calls Tryz.prog 169 #[.pointer (some ⟨b,0,none⟩),.slice A l.length c,.bool deep] W fun e w'=>e=.returned (.tuple #[])∧ ∃v',Pm w' b base vn vr lim blk v' (F l s)∧Only (ZeY base) W w'
theorem Zs2 (b base B:Nat) (g:Gr) (vn vr:Value) (hs:List (Value×Value)) (lim blk:Int) (hg:Z9 g=true) (hN:g.nd.length≤1000):LookP b base B g vn vr hs lim blk false (lookW g lim) 1000000:=by
 refine⟨?_⟩;intro W v s A c l h hr hB hbase hw hbg ho hM hl
 have HM:=ZZ (fun (W':World) (v':PV) (k:Nat) (x:Sp) (h':Pm W' b base vn vr lim blk v' (lookW g lim (l.take k) s)) (o:Only (ZeY base) W W') (hx:l[k]? =some x)=>
  have w1:=ZdH (lim:=lim) (l.take k) s hw fun u hu=>ho u (List.mem_of_mem_take hu)
  ZnQ W' b base B g vn vr hs lim blk v' _ x h' (hr.below (o.below (Yi hB hbase) fun _ hk=>Yi hB hk)) (Yi (Yi hB hbase) o.size) (Yi hbase o.size) w1.1 (Bg.lookW hg (by omega) (l.take k) s hbg hw fun u hu=>ho u (List.mem_of_mem_take hu)) hN fun h2=>(ho x (Yo hx) h2).1)
 have HS:=ZZ (fun (k:Nat) (x:Sp) (hx:l[k]? =some x)=>show Zv g lim x (lookW g lim (l.take k) s)=lookW g lim (l.take (k+1)) s by rw[List.take_add_one,hx];exact(Zg1 x _ s).symm);have HP:=ZZ h;have HL:=ZZ hl;have HBB:=ZZ (And.intro hB hbase);obtain⟨-, -, -,hac,hcm, -⟩:=id hl
 obtain⟨n,hn⟩: ∃n,n=l.length:=⟨_,rfl⟩
 have HN:=ZZ hn;rw[← hn] at HL ⊢
 obtain⟨F,hF⟩: ∃F,F=lookW g lim l s:=⟨_,rfl⟩
 have HF:=ZZ hF;rw[← hF]
 have hnb:n≤9223372036854775807:=by
  have:=hl.form
  obtain⟨A',c',e,h1,h2⟩:=this;unfold maxLen at h2;simp only[Value.slice.injEq] at e;omega
 clear h hr hB hbase hw hbg ho hM hl hn hF
 go_enter Tryz.func169,Tryz.ntmps169
 go_wp2_with fail
 go_loopw [6,7] (fun i _ wr=> ∃(k:Nat) (v':PV),k≤n∧i=.int .i64 k∧Hid (Pm wr b base vn vr lim blk v' (lookW g lim (l.take k) s))∧Hid (Only (ZeY base) W wr)) (fun i _ _=>n - (intOf i).toNat)
 case atStart=>exact⟨0,v,Yu _,rfl,HP,ZZ (Only.refl _ _)⟩
 case round=>
  obtain⟨k,v',hk,rfl,HPk,HO⟩:=hrel;by_cases hlt:k<n
  · obtain⟨x,hx⟩: ∃x,l[k]? =some x:=⟨_,Ya (by rw[← HN.out];exact hlt)⟩
    have HMk:=ZZ (HM.out wr v' k x HPk.out HO.out hx);rw[HS.out k x hx] at HMk;obtain⟨vs,vb,vl,vg,vp⟩:=v';obtain⟨A1,k1,e1,hc1,hm1, -⟩:=Pm.sl HPk.out.sm;simp only at e1;subst e1;have c4:wr.cell? ⟨b,4,none⟩=some (.slice A1 (lookW g lim (l.take k) s).small.length k1):=HPk.out.box.cell 4
    obtain⟨ns,hns⟩: ∃m,m=(lookW g lim (l.take k) s).small.length:=⟨_,rfl⟩
    rw[← hns] at c4;obtain⟨bs,os,c2,es,_,_,hbs,hcs⟩:=(HL.out.only HO.out (Yi HBB.out.1 HBB.out.2) fun _ hk=>Yi HBB.out.1 hk).at_ (by omega)
    obtain⟨rfl,rfl⟩:A=some ⟨bs,os,none⟩∧c=c2:=by simpa using es
    obtain⟨q0,q1⟩:=ZgT hx;have g0:=hcs _ _ q0;have g1:=hcs _ _ q1;rw[← Nat.add_assoc] at g1;obtain⟨x1,x2⟩:=x;simp only at HMk g0 g1
    obtain⟨mb,hmb⟩: ∃mb,mb=ZaJ g lim (x1,x2) (lookW g lim (l.take k) s):=⟨_,rfl⟩
    rw[← hmb] at HMk;clear hns hcs q0 q1 es hx hmb
    go_wp2_with fail
    go_at_call 205;refine HMk.out.mono ?_;rintro e w2 ⟨rfl,v2,P2,o2⟩;have HP2:=ZZ P2;have HO2:=ZZ (HO.out.trans o2);clear P2 o2 c4 g0 g1
    cases mb <;>
    · go_wp2
      go_roundw
      case rel=>exact⟨k+1,v2,by omega,by go_num,HP2,HO2⟩
      case measure=>simp[intOf];omega
  · obtain rfl:k=n:=by omega
    have HE:=ZZ (show lookW g lim (l.take k) s=F by rw[HF.out,List.take_of_length_le (by rw[HN.out];exact Yj _)]);rw[HE.out] at HPk;go_wp2
    go_end0
    exact⟨rfl,v',HPk.out,HO.out⟩
theorem ZeW {g:Gr} {n:Nat} {d:Nd} (h:g.nd[n]? =some d):ZbB g (n:Int)=d.fs:=by
 unfold ZbB ZbC;rw[Int.toNat_natCast,Yn,h];rfl
theorem Zg5 (b base B:Nat) (g:Gr) (vn vr:Value) (hs:List (Value×Value)) (lim blk:Int) (hg:Z9 g=true) (hN:g.nd.length≤1000) (N:Nat) (ih: ∀n,N=n+1→LookP b base B g vn vr hs lim blk true (lookD g lim n) n):LookP b base B g vn vr hs lim blk true (lookD g lim N) N:=by
 refine⟨?_⟩;intro W v s A c l h hr hB hbase hw hbg ho hM hl;have HWF:=ZZ (fun (k:Nat)=>ZhO (lim:=lim) hg N (l.take k) s hw (fun u hu=>ho u (List.mem_of_mem_take hu)) hM);have HBG:=ZZ (fun (k:Nat)=>Bg.lookD hg (by omega) (lim:=lim) N (l.take k) s hbg hw (fun u hu=>ho u (List.mem_of_mem_take hu)) hM)
 have HM:=ZZ (fun (W':World) (v':PV) (k:Nat) (x:Sp) (h':Pm W' b base vn vr lim blk v' (lookD g lim N (l.take k) s)) (o:Only (ZeY base) W W') (hx:l[k]? =some x)=>
  ZnQ W' b base B g vn vr hs lim blk v' _ x h' (hr.below (o.below (Yi hB hbase) fun _ hk=>Yi hB hk)) (Yi (Yi hB hbase) o.size) (Yi hbase o.size) (HWF.out k).1 (HBG.out k) hN fun h2=>(ho x (Yo hx) h2).1)
 have HS:=ZZ (fun (k:Nat) (x:Sp) (hx:l[k]? =some x)=>show Zpo g lim N x (lookD g lim N (l.take k) s)=lookD g lim N (l.take (k+1)) s by rw[List.take_add_one,hx];exact(Zel N x _ s).symm);have HRM:=ZZ hM;have HOL:=ZZ ho;have HGD:=ZZ hr;have HP:=ZZ h;have HL:=ZZ hl;have HBB:=ZZ (And.intro hB hbase);have HGG:=ZZ hg;have HWW:=ZZ hw;obtain⟨-, -, -,hac,hcm, -⟩:=id hl
 obtain⟨n,hn⟩: ∃n,n=l.length:=⟨_,rfl⟩
 have HN:=ZZ hn;rw[← hn] at HL ⊢
 obtain⟨F,hF⟩: ∃F,F=lookD g lim N l s:=⟨_,rfl⟩
 have HF:=ZZ hF;rw[← hF]
 have hnb:n≤9223372036854775807:=by
  have:=hl.form
  obtain⟨A',c',e,h1,h2⟩:=this;unfold maxLen at h2;simp only[Value.slice.injEq] at e;omega
 have HIH:=ZZ ih;obtain⟨An,cn,hvn,hacn,hcmn⟩:=hr.nodes.form;subst hvn;unfold maxLen at hcmn;clear h hr hB hbase hw hbg ho hM hl hn hF ih hg
 go_enter Tryz.func169,Tryz.ntmps169
 go_wp2_with fail
 go_loopw [6,7] (fun i _ wr=> ∃(k:Nat) (v':PV),k≤n∧i=.int .i64 k∧Hid (Pm wr b base (.slice An g.nd.length cn) vr lim blk v' (lookD g lim N (l.take k) s))∧Hid (Only (ZeY base) W wr)) (fun i _ _=>n - (intOf i).toNat)
 case atStart=>exact⟨0,v,Yu _,rfl,by cases N <;> (simp only[List.take_zero];rw[lookD];exact HP),ZZ (Only.refl _ _)⟩
 case round=>
  obtain⟨k,v',hk,rfl,HPk,HO⟩:=hrel;by_cases hlt:k<n
  · obtain⟨x,hx⟩: ∃x,l[k]? =some x:=⟨_,Ya (by rw[← HN.out];exact hlt)⟩
    have HMk:=ZZ (HM.out wr v' k x HPk.out HO.out hx);have HSk:=ZZ (HS.out k x hx);have HWk:=ZZ (HWF.out k);have HBk:=ZZ (HBG.out k);have HXk:=ZZ (HOL.out x (Yo hx))
    obtain⟨sk,hsk⟩: ∃sk,sk=lookD g lim N (l.take k) s:=⟨_,rfl⟩
    rw[← hsk] at HMk HSk HWk HBk HPk;obtain⟨vs,vb,vl,vg,vp⟩:=v';obtain⟨A1,k1,e1,hc1,hm1, -⟩:=Pm.sl HPk.out.sm;simp only at e1;subst e1;have c4:wr.cell? ⟨b,4,none⟩=some (.slice A1 sk.small.length k1):=HPk.out.box.cell 4
    obtain⟨ns,hns⟩: ∃m,m=sk.small.length:=⟨_,rfl⟩
    have HNS:=ZZ hns;rw[← hns] at c4;obtain⟨bs,os,c2,es,_,_,hbs,hcs⟩:=(HL.out.only HO.out (Yi HBB.out.1 HBB.out.2) fun _ hk=>Yi HBB.out.1 hk).at_ (by omega)
    obtain⟨rfl,rfl⟩:A=some ⟨bs,os,none⟩∧c=c2:=by simpa using es
    obtain⟨q0,q1⟩:=ZgT hx;have g0:=hcs _ _ q0;have g1:=hcs _ _ q1;rw[← Nat.add_assoc] at g1;obtain⟨x1,x2⟩:=x;simp only at HMk g0 g1 HXk;have HG1:=ZZ g1;have HBS:=ZZ hbs
    cases hmb:ZaJ g lim (x1,x2) sk with
    |false=>
     rw[hmb] at HMk
     have HST:=ZZ (show Zv g lim (x1,x2) sk=lookD g lim N (l.take (k+1)) s by
      rw[← HSk.out]
      cases N with
      |zero=>rfl
      |succ N=>rw[Zpo,hmb,if_neg (by simp)])
     rw[HST.out] at HMk;clear hns hcs q0 q1 es hx hmb hsk
     go_wp2_with fail
     go_at_call 205;refine HMk.out.mono ?_;rintro e w2 ⟨rfl,v2,P2,o2⟩;have HP2:=ZZ P2;have HO2:=ZZ (HO.out.trans o2);clear P2 o2 c4 g0 g1;go_wp2
     go_roundw
     case rel=>exact⟨k+1,v2,by omega,by go_num,HP2,HO2⟩
     case measure=>simp[intOf];omega
    |true=>
     rw[hmb] at HMk
     have hx1:x1=2:=by
      unfold ZaJ ZY at hmb;simp at hmb;exact hmb.1.1
     have hxr:=HXk.out hx1;obtain⟨m1,m2, -, -,m5⟩:=ZcI (lim:=lim) (v:=(x1,x2)) HWk.out.1 fun _=>hxr;obtain⟨e1,e2, -⟩:=m5 hmb
     have hl2:sk.met.length+1≤(Zv g lim (x1,x2) sk).met.length:=by
      have h3:=m2.lg.length_le
      have h5:(sk.small++[x2]).length=sk.small.length+1:=by simp
      rw[ZW,ZW,e1,h5];omega
     have hM:=HRM.out;have hsl:=HWk.out.2.1.len;have hroom:=m1.room
     obtain⟨N',rfl⟩: ∃N',N=N'+1:=⟨N - 1,by omega⟩
     have hbg1:Bg (Zv g lim (x1,x2) sk):=HBk.out.meet HGG.out (by have:=HWk.out.1.room;rw[ZW] at this;omega) fun _=>hxr.1;have HCL:=ZZ ((HIH.out N' rfl).call)
     have HST:=ZZ (show lookD g lim N' (ZbB g x2) ((Zv g lim (x1,x2) sk).mark ns)=lookD g lim (N'+1) (l.take (k+1)) s by
      rw[← HSk.out,HNS.out]
      rw[Zpo,hmb,if_pos rfl])
     have HW1:=ZZ (show Wf g ((Zv g lim (x1,x2) sk).mark ns)∧Bg ((Zv g lim (x1,x2) sk).mark ns)∧Okl g (ZbB g x2)∧g.nd.length≤N'+((Zv g lim (x1,x2) sk).mark ns).met.length from
      ⟨m1.mark _,hbg1.mark _,Zg7 HGG.out hxr.2 hxr.1,by show _≤N'+(Zv g lim (x1,x2) sk).met.length;omega⟩)
     have HLK:=ZZ (show(Zv g lim (x1,x2) sk).looked.length=ns+1∧(Zv g lim (x1,x2) sk).looked[ns]? =some false by
      rw[e2,Ys,HWk.out.1.lk,HNS.out];refine⟨rfl,?_⟩
      rw[← HWk.out.1.lk];simp)
     obtain⟨xn,hxn⟩: ∃y:Nat,x2=y:=⟨x2.toNat,by have:=hxr.1;omega⟩
     subst hxn
     have hlt2:xn<g.nd.length:=by have:=hxr.1;omega
     obtain⟨d,hd⟩: ∃d,g.nd[xn]? =some d:=⟨_,Ya hlt2⟩
     have HFS:=ZZ (ZeW hd);have HD:=ZZ hd;clear hns hcs q0 q1 es hx hmb hsk m1 m2 m5 e1 e2 hl2 hM hsl hroom hbg1 hd hxr hx1
     go_wp2_with fail
     go_at_call 205;refine HMk.out.mono ?_;rintro e w2 ⟨rfl,v2,P2,o2⟩;obtain⟨us,ub,ul,ug,up⟩:=v2;obtain⟨g3,c3,hul,hc3,hm3,hb3⟩:=ZcV P2.lk (by rw[HLK.out.1];omega);simp only at hul;subst hul;rw[HLK.out.1] at hc3
     have c6:w2.cell? ⟨b,6,none⟩=some (.slice (some ⟨g3,0,none⟩) (ns+1) c3):=by
      rw[P2.box.cell];show some (Value.slice (some ⟨g3,0,none⟩) (Zv g lim (x1,(xn:Int)) sk).looked.length c3)=_;rw[HLK.out.1]
     obtain⟨b9,o9,c9,e9, -, -, -,h9⟩:=(Pm.sl P2.lk).at_ (by rw[HLK.out.1];omega)
     obtain⟨⟨rfl,rfl⟩,rfl⟩:(g3=b9∧0=o9)∧c3=c9:=by simpa using e9
     have k6:w2.cell? ⟨g3,ns,none⟩=some (.bool false):=by simpa using h9 ns _ (Zko HLK.out.2)
     have f6:w2.frozen? ⟨g3,ns,none⟩=false:=by
      rcases P2.lk.2 with⟨h0,_⟩|⟨g4,cap,cur,e,_,hgg,_⟩
      · cases h0
      · simp only[Value.slice.injEq,Option.some.injEq,Addr.mk.injEq] at e
        obtain⟨⟨rfl, -, -⟩, -, -⟩:=e;exact Blk.free (w:=w2) (t:=4) hgg ns
     obtain⟨P3,o3⟩:=Zoe P2 (k:=ns) rfl (by rw[HLK.out.1];omega)
     obtain⟨W3,hW3⟩: ∃X,w2.setCell ⟨g3,ns,none⟩ (.bool true)=X:=⟨_,rfl⟩
     rw[hW3] at P3 o3;have HW3:=ZZ hW3;have HP3:=ZZ P3;have HO3:=ZZ (HO.out.trans (o2.trans o3))
     obtain⟨n3,hn3⟩: ∃m,m=ns+1:=⟨_,rfl⟩
     rw[← hn3] at c6 hc3
     have hnn:ns<n3:=by omega
     unfold maxLen at hm3;have HBl:=ZZ (HO3.out.below (Yi HBB.out.1 HBB.out.2) fun _ hk=>Yi HBB.out.1 hk);obtain⟨bb,oo,fv,rv,hA,hbb,hh',n0,n1,n2,hnd⟩:=HGD.out.at_ HBl.out HD.out;subst hA;obtain⟨Af,cf,hfv,hafc,hcfm⟩:=hnd.fields.form;simp only at hfv;subst hfv;have HFL:=ZZ hnd.fields;have hbb2:=hbb;have d0:W3.cell? ⟨b,0,none⟩=some (.slice (some ⟨bb,oo,none⟩) g.nd.length cn):=P3.box.cell 0
     have g1':W3.cell? ⟨bs,os+k * 2+1,none⟩=some (.int .i64 xn):=by
      have:=(o2.trans o3).below (B:=B) (Yi (Yi HBB.out.1 HBB.out.2) HO.out.size) fun _ hk=>Yi HBB.out.1 hk
      rw[this.cell HBS.out];exact HG1.out
     clear P2 o2 P3 o3 hW3 e9 h9 hb3 n0 n2 hnd hh' hbb hn3 hafc hcfm c4 g0 g1
     go_upto_region 6 with fail
     with_reducible rw[HW3.out]
     clear c6 k6 f6
     have HCW:=ZZ (fun (W':World) (o:Only nob W3 W')=>by
      have HOD:=HO3.out.trans (ZcN (base:=base) o)
      have:=HCL.out W' _ _ Af cf d.fs (HP3.out.nob o) (HGD.out.below (HOD.below (Yi HBB.out.1 HBB.out.2) fun _ hk=>Yi HBB.out.1 hk)) HBB.out.1 (Yi HBB.out.2 HOD.size) HW1.out.1 HW1.out.2.1 (by rw[← HFS.out];exact HW1.out.2.2.1) HW1.out.2.2.2 (HFL.out.only o (Yi (Yi HBB.out.1 HBB.out.2) HO3.out.size) fun _ h=>h.elim)
      rw[← HFS.out,HST.out,HFS.out] at this
      exact this)
     have mixed:Tryz.prog.follows .mixedOrders=true:=by kernel_rfl
     have OC:=ZZ (show Only nob W3 W3.drew from(Only.refl nob W3).drewN 1);have HBL3:=ZZ (show B≤W3.heap.size from Yi (Yi HBB.out.1 HBB.out.2) HO3.out.size);have HBB2:=ZZ hbb2
     go_region_held3 (fun w'=>w'.cell? ⟨b,0,none⟩=some (.slice (some ⟨bb,oo,none⟩) g.nd.length cn)∧w'.cell? ⟨bs,os+k * 2+1,none⟩=some (.int .i64 xn)∧w'.cell? ⟨bb,oo+xn * 3+1,none⟩=some (.slice Af d.fs.length cf))
      (first|(with_reducible exact And.intro k0 (And.intro k1 k2))|(with_reducible exact And.intro (OC.out.keeps d0) (And.intro (OC.out.keeps g1') (OC.out.keeps n1)))|go_keep)
      (first
        |(go_at_call 169
          with_reducible refine(HCW.out _ OC.out).mono ?_
          rintro e wt ⟨rfl,v5,P5,o5⟩;have HP5:=ZZ P5;have HO5:=ZZ ((HO3.out.trans (ZcN OC.out)).trans o5);have k0:wt.cell? ⟨b,0,none⟩=some (.slice (some ⟨bb,oo,none⟩) g.nd.length cn):=P5.box.cell 0
          have k1:wt.cell? ⟨bs,os+k * 2+1,none⟩=some (.int .i64 xn):=by rw[((OC.out.below HBL3.out fun _ h=>h.elim).trans (o5.below (Yi HBL3.out OC.out.size) fun _ hk=>Yi HBB.out.1 hk)).cell HBS.out];exact g1'
          have k2:wt.cell? ⟨bb,oo+xn * 3+1,none⟩=some (.slice Af d.fs.length cf):=by rw[((OC.out.below HBL3.out fun _ h=>h.elim).trans (o5.below (Yi HBL3.out OC.out.size) fun _ hk=>Yi HBB.out.1 hk)).cell HBB2.out];exact n1
          clear P5 o5))
     clear k0 k1 k2 d0 g1' n1;go_wp2
     go_roundw
     case rel=>exact⟨k+1,v5,by omega,by go_num,HP5,HO5⟩
     case measure=>simp[intOf];omega
  · obtain rfl:k=n:=by omega
    have HE:=ZZ (show lookD g lim N (l.take k) s=F by rw[HF.out,List.take_of_length_le (by rw[HN.out];exact Yj _)]);rw[HE.out] at HPk;go_wp2
    go_end0
    exact⟨rfl,v',HPk.out,HO.out⟩
theorem ZsL (b base B:Nat) (g:Gr) (vn vr:Value) (hs:List (Value×Value)) (lim blk:Int) (hg:Z9 g=true) (hN:g.nd.length≤1000): ∀N,LookP b base B g vn vr hs lim blk true (lookD g lim N) N:=by
 intro N
 induction N with
 |zero=>exact Zg5 b base B g vn vr hs lim blk hg hN 0 (fun n h=>by cases h)
 |succ N ih=>exact Zg5 b base B g vn vr hs lim blk hg hN (N+1) (fun n h=>by obtain rfl:=Nat.succ.inj h;exact ih)
end
end Go.Proofs.YteieocddfnlmdaaGreatDoor
