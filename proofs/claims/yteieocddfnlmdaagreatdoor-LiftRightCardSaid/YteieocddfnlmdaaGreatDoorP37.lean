/- LiftRight, walked over what packages lift and state are aske -/
import Derived.Test.YteieocddfnlmdaaGreatDoorP36
namespace Go.Proofs.YteieocddfnlmdaaGreatDoor
open Go.RowKit Go.Lib
set_option maxRecDepth 100000
set_option linter.unusedSimpArgs false
set_option linter.unusedVariables false
def Zen (n i:Nat):List Int:=((List.range i).map fun k:Nat=>(k:Int))++List.replicate (n - i) 0
theorem Zmc {n i:Nat} (h:i≤n):(Zen n i).length=n:=by unfold Zen;simp;omega
theorem ZmB {n i:Nat} (h:i<n):(Zen n i).set i (i:Int)=Zen n (i+1):=by
 unfold Zen;rw[List.set_append_right _ _ (by simp),show i - ((List.range i).map fun k:Nat=>(k:Int)).length=0 by simp,show n - i=(n - (i+1))+1 by omega,List.replicate_succ,List.set_cons_zero,List.range_succ,List.map_append,List.append_assoc];rfl
theorem Znl {n:Nat}:Zen n n=ZnD n:=by unfold Zen ZnD;simp
def Zqu (s:St) (a:Int) (i:Nat):Prop:=(a<0∨(s.ws.length:Int)≤a)∨ ∃p,p∈s.objs.take i∧p≤a∧a<p+1+ohF s.ws p+ohR s.ws p
theorem Zl7 {s:St} {a:Int} {i:Nat} {x:Int} (hx:s.objs[i]? =some x):Zqu s a (i+1)↔Zqu s a i∨(x≤a∧a<x+1+ohF s.ws x+ohR s.ws x):=by
 unfold Zqu;rw[Zap hx];constructor
 · rintro(h|⟨p,hp,h⟩)
   · exact .inl (.inl h)
   · rcases List.mem_append.1 hp with hp|hp
     · exact .inl (.inr ⟨p,hp,h⟩)
     · rw[List.mem_singleton.1 hp] at h
       exact .inr h
 · rintro((h|⟨p,hp,h⟩)|h)
   · exact .inl h
   · exact .inr ⟨p,List.mem_append_left _ hp,h⟩
   · exact .inr ⟨x,List.mem_append_right _ (List.mem_singleton.2 rfl),h⟩
theorem ZnY {l:List Sp} {k:Nat} {x:Sp} (h:l[k]? =some x) (u:Int):wrap64 (wrap64 (u+Zk9 (l.take k))+x.2)=wrap64 (u+Zk9 (l.take (k+1))):=by
 rw[Zap h,ZbW];unfold Zk9;rw[List.map_append,List.sum_append];simp only[List.map_cons,List.map_nil,List.sum_cons,List.sum_nil]
 congr 1;omega
theorem Zle {s:St} (h:ZT s=0) {x:Int} (hx:x∈s.objs):Ze5 (liN s.objs s.ws x)=1+ohF s.ws x+ohR s.ws x:=by
 have hm:=ZE.1 h;obtain⟨b1,b2,b3,b4,b5,b6,b7⟩:=Zaj (hm.head hx).1;unfold Ze5;rw[ZlV hm hx];show wrap64 (1+ohF s.ws x+ohR s.ws x)=_;exact Zc4 _ (by omega) (by omega)
theorem Zlc {s:St} (h:ZT s=0):usT s=s.top - s.frm.1:=by
 have hm:=ZE.1 h;unfold usT;rw[if_pos ⟨hm.ok,hm.top⟩]
theorem ZrB {s:St} (h:ZT s=0):0≤usT s∧usT s≤32768:=by
 have hm:=ZE.1 h;rw[Zlc h];have h1:=Zah hm.ok s.sec;have h2:=of_decide_eq_true hm.top;unfold St.frm at h2 ⊢;omega
set_option maxHeartbeats 32000000 in
theorem ZnG (CK:ZpD 19) (CU:Zsv 21) (CY:Zrg 24) (C:LiC) (AW:AwL19) (s:St) (at_:Int) (y:Nat) (vw vt vf vs:Value) (w:World) (h:Rd w w.heap.size s vw vt vf vs) (hok:Wide15 s) (hy:y<full) (hpar:Par w):
 Calls Tryz.prog 5 #[.agg #[.int .i64 s.cf.semi,.int .i64 s.cf.large,.int .i64 s.cf.slots,.int .i64 s.cf.limit,.bool s.sec,vw,.int .i64 s.top,vt,vf,vs],.int .i64 at_,.int .u64 (y:Nat)] w fun e w'=>e=.returned (.bool true)∧Below w.heap.size w w':=by
 obtain⟨Aw,cw,rfl,haw,hcw⟩:=h.words.form;obtain⟨At,ct,rfl,hat,hct⟩:=h.tab.form;unfold maxLen at hcw hct;obtain⟨W,hW,HB⟩:=Zv w s (.slice Aw s.ws.length cw) (.slice At s.tb.length ct) vf vs;have HW:=ZZ hW
 obtain⟨p,hp⟩: ∃p,p=w.heap.size:=⟨_,rfl⟩
 have HBX:=ZZ HB.out.2.2;rw[← hp] at HBX;have HP:=ZZ hp;have HR:=ZZ h;have HPAR:=ZZ hpar;have HY:=ZZ hy;have HLG:=ZZ (Zr1 s _ _ vf vs w.heap.size W (h.only HB.out.1 (Nat.le_refl _)));have HAW:=ZZ (show ∀W',Below w.heap.size w W'→Calls Tryz.prog 7 #[] W' fun e w'=>e=.returned (.bool true)∧Only nob W' w' from fun W' o=>AW W' (ZjX HPAR.out o));obtain⟨c0,c1,c2,c3,c4,c5,c6,c7,c8,c9⟩:=HBX.out;clear hW hp hy
 go_enter Tryz.func5,Tryz.ntmps5
 go_upto_region 1 with fail
 rw[HW.out, ← HP.out]
 go_wp2_with fail
 go_at_call 6;refine HLG.out.mono ?_
 cases hL:ZH s
 case true=>
  rintro e w1 ⟨rfl,o⟩;have O1:=ZZ (HB.out.1.trans o);clear o hL c0 c1 c2 c3 c4 c5 c6 c7 c8 c9 h hok hpar
  go_wp2_with fail
  go_at_call 7;refine(HAW.out _ O1.out.whole).mono ?_;rintro e w9 ⟨rfl,o9⟩;have O9:=ZZ (O1.out.trans o9);clear o9;go_wp2;go_ret;exact⟨rfl,O9.out.whole⟩
 case false=>
 rintro e w1 ⟨rfl,o⟩;have O1:=ZZ (HB.out.1.trans o);have X1:=ZZ (HBX.out.keep o);have HOK:=ZZ (hok.ok hL);have HL:=ZZ hL;have hfew:=Zd6 hL;clear o hL c0 c1 c2 c3 c4 c5 c6 c7 c8 c9 h hok hpar;obtain⟨c0,c1,c2,c3,c4,c5,c6,c7,c8,c9⟩:=X1.out
 go_wp2_with fail
 go_at_call 19;refine(CK s _ _ _ _ _ w1 (HR.out.only O1.out (Nat.le_refl _)) O1.out.size HOK.out (HPAR.out.old O1.out)).mono ?_
 obtain⟨q,hq⟩: ∃q,q=ZT s:=⟨_,rfl⟩
 have HQ:=ZZ hq;rw[← hq];rintro e w2 ⟨rfl,o⟩;have O2:=ZZ (O1.out.trans o);have X2:=ZZ (X1.out.keep o);clear o hq c0 c1 c2 c3 c4 c5 c6 c7 c8 c9;by_cases hq0:q=0
 case neg=>
  have hbq:(q !=0)=true:=by simpa using hq0
  clear hq0
  go_wp2_with fail
  go_at_call 7;refine(HAW.out _ O2.out.whole).mono ?_;rintro e w9 ⟨rfl,o9⟩;have O9:=ZZ (O2.out.trans o9);clear o9;go_wp2;go_ret;exact⟨rfl,O9.out.whole⟩
 case pos=>
 subst hq0;have H0:=ZZ HQ.out.symm;have HFIT:=ZZ (liG_fit HOK.out HL.out);have hbd:=liG_bd HL.out;have HGO:=ZZ (Zpn H0.out HOK.out (by have:=Zc0 (ZE.1 H0.out) HL.out;omega));have HND:=ZZ (Zpz H0.out);have HQL:=ZZ (C.lift s _ _ vf vs _ w2 (HR.out.only O2.out (Nat.le_refl _)) O2.out.size HOK.out (HPAR.out.old O2.out) HL.out)
 obtain⟨G,hG⟩: ∃z,z=liG s:=⟨_,rfl⟩
 have HG:=ZZ hG
 obtain⟨n,hn⟩: ∃n,n=s.objs.length:=⟨_,rfl⟩
 have HN:=ZZ hn;rw[(Za6 H0.out).1,(Za6 H0.out).2, ← hG, ← hn] at HQL;rw[← hG] at HFIT hbd HGO;rw[← hG, ← hn] at HND
 have hn4:n≤460:=by have:=HND.out;omega
 have HWDS:=ZZ (Zll H0.out);rw[← hG] at HWDS;rw[HND.out, ← Zlc H0.out] at HWDS;have hui:=ZrB H0.out
 obtain⟨u,hu⟩: ∃u,u=usT s:=⟨_,rfl⟩
 rw[← hu] at HWDS hui;have HUS:=ZZ (fun (W':World) (o:Only nob w W')=>CU s _ _ vf vs _ W' (HR.out.only o (Nat.le_refl _)) o.size HOK.out);rw[← hu] at HUS;clear hG hn hu;obtain⟨c0,c1,c2,c3,c4,c5,c6,c7,c8,c9⟩:=X2.out
 go_wp2_with fail
 go_at_call 8;refine HQL.out.mono ?_;rintro e z ⟨un,ur,js,vl,rfl,rd,hs,o⟩;obtain⟨An,cn,hun, -⟩:=rd.nodes.form;obtain⟨Ar,cr,hur, -⟩:=rd.roots.form;obtain⟨Al,cl,hvl,hlc,hlm⟩:=hs.form;subst hun hur hvl;unfold maxLen at hlm;obtain⟨Y,hYe,HYB⟩:=ZF z (.slice An G.nd.length cn) (.slice Ar G.rt.length cr);have HYE:=ZZ hYe;have RG:=ZZ ((rd.only HYB.out.1 (Nat.le_refl _)).more HYB.out.1.size);have SL:=ZZ ((hs.below HYB.out.1.whole).more HYB.out.1.size)
 obtain⟨gb,hgb⟩: ∃b,b=z.heap.size:=⟨_,rfl⟩
 have BG:=ZZ HYB.out.2;rw[← hgb] at BG;have HGB:=ZZ hgb;have hgl:=BG.out.lt;have OY:=ZZ (O2.out.trans (o.trans HYB.out.1));have XY:=ZZ (X2.out.keep (o.trans HYB.out.1));clear rd hs o hYe hgb c0 c1 c2 c3 c4 c5 c6 c7 c8 c9
 go_upto_region 4 with fail
 rw[HYE.out, ← HGB.out];have g0:Y.cell? ⟨gb,0,none⟩=some (.slice An G.nd.length cn):=BG.out.cell 0;have g1:Y.cell? ⟨gb,1,none⟩=some (.slice Ar G.rt.length cr):=BG.out.cell 1
 go_wp2_with fail
 go_at_call 20;refine(Zcy G _ _ js Y.heap.size Y RG.out (Nat.le_refl _) HFIT.out).mono ?_;rw[HGO.out];rintro e Z ⟨rfl,o⟩;have OZ:=ZZ (OY.out.trans o);have XZ:=ZZ (XY.out.keep o);have RG:=ZZ ((RG.out.only o (Nat.le_refl _)).more o.size);have SL:=ZZ ((SL.out.below o.whole).more o.size);have BG:=ZZ (BG.out.keep o id);have hnn:G.nd.length=n:=HND.out;clear o g0 g1;have g0:Z.cell? ⟨gb,0,none⟩=some (.slice An G.nd.length cn):=BG.out.cell 0;rw[hnn] at g0;have hzl:gb<Z.heap.size:=BG.out.lt;obtain⟨WM,hmk,om,hown⟩:=Zil n (by omega) Z
 obtain⟨b,hb⟩: ∃b,b=Z.heap.size:=⟨_,rfl⟩
 have HOW:=ZZ (show WM.ownsRow Z.heap.size 3 1 (.slice (some ⟨Z.heap.size,0,none⟩) n n) n (i64s (Zen n 0)) from by simpa[Zen] using hown);rw[← hb] at hmk HOW;have HBB:=ZZ hb;have OM:=ZZ om;clear om hown hb
 have hnn2:((n:Int) !=(n:Int))=false:=by simp
 go_upto_region 7 with fail
 clear hmk g0 hnn2 hnn;have OWM:=ZZ (OZ.out.trans OM.out);have XM:=ZZ (XZ.out.keep OM.out);obtain⟨c0,c1,c2,c3,c4,c5,c6,c7,c8,c9⟩:=XM.out
 go_wp2_with fail
 go_at_call 21;refine(HUS.out WM OWM.out).mono ?_;rintro e w6 ⟨rfl,o⟩;have O6:=ZZ (OWM.out.trans o);have N6:=ZZ (OM.out.trans o);have X6:=ZZ (XM.out.keep o);have HOW:=ZZ (Zb HOW.out o fun _ _=>id);clear o c0 c1 c2 c3 c4 c5 c6 c7 c8 c9;obtain⟨c0,c1,c2,c3,c4,c5,c6,c7,c8,c9⟩:=X6.out
 have hu0:wrap64 (u+Zk9 (s.tb.take 0))=u:=by rw[List.take_zero];show wrap64 (u+0)=u;rw[Int.add_zero];exact Zc4 _ (by omega) (by omega)
 go_wp2_with fail
 go_loopw [11,12] (fun m i wr=> ∃k:Nat,k≤s.tb.length∧i=.int .i64 k∧m=.int .i64 (wrap64 (u+Zk9 (s.tb.take k)))∧wr=w6) (fun _ i _=>s.tb.length - (RowKit.intOf i).toNat)
 case atStart=>exact⟨0,Nat.zero_le _,rfl,by rw[hu0],rfl⟩
 case round=>
 obtain⟨k,hk,rfl,rfl,rfl⟩:=hrel;by_cases hlt:k<s.tb.length
 case pos=>
  obtain⟨x,hx⟩: ∃x,s.tb[k]? =some x:=⟨_,List.getElem?_eq_getElem hlt⟩
  obtain⟨bt,ot,hAt, -, -,t1⟩:=ZG HR.out.tab (O6.out.below (Nat.le_refl _) fun _ h=>h.elim) hx;subst hAt;have HT:=ZZ (ZnY hx u)
  obtain⟨m,hm⟩: ∃m,m=wrap64 (u+Zk9 (s.tb.take k)):=⟨_,rfl⟩
  rw[← hm] at HT ⊢
  obtain⟨m2,hm2⟩: ∃m,m=wrap64 (u+Zk9 (s.tb.take (k+1))):=⟨_,rfl⟩
  have HM2:=ZZ hm2;rw[← hm2] at HT
  have hadd:IntKind.i64.wrap (m+x.2)=m2:=by rw[ZmS];exact HT.out
  clear hx hm hm2;go_wp2
  go_roundw
  case rel=>exact⟨k+1,by omega,by go_num,by rw[HM2.out],by first|rfl|trivial⟩
  case measure=>simp[RowKit.intOf];omega
 case neg=>
 obtain rfl:k=s.tb.length:=by omega
 rw[List.take_length]
 obtain⟨m,hm⟩: ∃m,m=wrap64 (u+Zk9 s.tb):=⟨_,rfl⟩
 rw[← hm] at HWDS ⊢;clear hm hu0 hk hlt
 obtain⟨w6,rfl⟩: ∃w6:World,w6=wr:=⟨_,rfl⟩
 have HOBS:=ZZ (fun (i:Nat) (x:Int) (hx:s.objs[i]? =some x)=>Zle H0.out (List.mem_of_getElem? hx))
 go_upto_region 12 with fail
 go_cut [13] (fun s13 wx=> ∃b0:Bool,s13=.bool b0∧Hid (b0=true↔Zqu s at_ 0)∧wx=w6)
 case first=>
  by_cases ha:at_<0
  case pos=>
   go_wp2
   go_meet
   exact⟨true,rfl,ZZ ⟨fun _=>.inl (.inl ha),fun _=>rfl⟩,rfl⟩
  case neg=>
   by_cases ha2:(s.ws.length:Int)≤at_
   case pos=>go_wp2;go_meet;exact⟨true,rfl,ZZ ⟨fun _=>.inl (.inr ha2),fun _=>rfl⟩,rfl⟩
   case neg=>go_wp2;go_meet;exact⟨false,rfl,ZZ ⟨fun h=>(by cases h),fun h=>by exfalso;rcases h with(h|h)|⟨x,hx, -⟩;omega;omega;simp at hx⟩,rfl⟩
 case rest=>
 obtain⟨b0,rfl,HB0,hwc⟩:=hcut;subst hwc
 obtain⟨w6,rfl⟩: ∃w6:World,w6=wc:=⟨_,rfl⟩
 have HGE:=ZZ (show ∀(i:Nat) (x:Int),s.objs[i]? =some x→G.nd[i]? =some (liN s.objs s.ws x) from fun i x hx=>by rw[HG.out,Za2 H0.out];simp only;rw[List.getElem?_map,hx];rfl);have HOBX:=ZZ (show ∀x∈s.objs,(0≤x∧x≤400)∧0≤ohF s.ws x∧ohF s.ws x≤4096∧0≤ohR s.ws x∧ohR s.ws x≤4096 from fun x hx=>by have:=Zaj ((ZE.1 H0.out).head hx).1;omega);clear c0 c1 c2 c3 c4 c5 c6 c7 c8 c9
 go_wp2_with fail
 go_loopw [13,14] (fun vo vi wr=> ∃(i:Nat) (bo:Bool),i≤n∧vi=.int .i64 i∧vo=.bool bo∧Hid (bo=true↔Zqu s at_ i)∧Hid (wr.ownsRow b 3 1 (.slice (some ⟨b,0,none⟩) n n) n (i64s (Zen n i)))∧Hid (Only nob Z wr)) (fun _ vi _=>n - (RowKit.intOf vi).toNat)
 case atStart=>exact⟨0,b0,Nat.zero_le _,rfl,rfl,HB0,HOW,N6⟩
 case round=>
 obtain⟨i,bo,hi,rfl,rfl,HBO,HRW,HO⟩:=hrel;by_cases hlt:i<n
 case pos=>
  obtain⟨x,hx⟩: ∃x,s.objs[i]? =some x:=⟨_,List.getElem?_eq_getElem (by rw[← HN.out];exact hlt)⟩
  have HX:=ZZ hx;have HNX:=ZZ (Zl7 (a:=at_) hx);have hxb:=HOBX.out x (List.mem_of_getElem? hx);have HSZ0:=ZZ (HOBS.out i x hx)
  obtain⟨z0,hz0⟩: ∃z,(Zen n i)[i]? =some z:=⟨_,List.getElem?_eq_getElem (by rw[Zmc hi];exact hlt)⟩
  have s0:wr.cell? ⟨b,i,none⟩=some (.int .i64 z0):=(HRW.out.cellAt i (by omega)).trans (ZiS hz0);obtain⟨cs,hblk⟩:=Zbb HRW.out (k:=b) rfl;have fs0:=hblk.free i;have hset:=ZaU HRW.out i (by omega) (.int .i64 (i:Nat));rw[Zdf,ZmB hlt] at hset;have HO1:=HO.out.setCell (p:=⟨b,i,none⟩) (fun h=>absurd h (by rw[HBB.out];exact Nat.lt_irrefl _)) (.int .i64 (i:Nat))
  obtain⟨W1,hW1⟩: ∃W1,wr.setCell ⟨b,i,none⟩ (.int .i64 (i:Nat))=W1:=⟨_,rfl⟩
  have HW1:=ZZ hW1;rw[hW1] at hset HO1;have HSET:=ZZ hset;have ON1:=ZZ HO1
  obtain⟨bl,ol,hAl, -,l0⟩:=(show ∃bl ol,Al=some ⟨bl,ol,none⟩∧bl<Z.heap.size∧W1.cell? ⟨bl,ol+i,none⟩=some (.int .i64 x) from by have h9:=SL.out;rw[HN.out] at h9;exact ZdE h9 (HO1.below (Nat.le_refl _) fun _ h=>h.elim) hx)
  subst hAl;clear hx hz0 hblk hset HO1 hW1
  go_upto_region 17 with fail
  rw[HW1.out];clear s0 fs0
  cases bo with
  |true=>
   go_quiet (fail)
   rename_i nq
   go_wp2
   go_roundw
   case rel=>exact⟨i+1,true,by omega,by go_num,rfl,ZZ ⟨fun _=>HNX.out.2 (.inl (HBO.out.1 rfl)),fun _=>rfl⟩,ZZ (Zb HSET.out ((Only.refl nob W1).drewN _) fun _ _ h=>h),ZZ (ON1.out.drewN _)⟩
   case measure=>simp[RowKit.intOf];omega
  |false=>
   have HNB:=ZZ (show ¬Zqu s at_ i from fun h=>by have:=HBO.out.2 h;cases this);by_cases hg1:x≤at_
   case neg=>
    go_quiet (fail)
    go_wp2
    go_roundw
    case rel=>exact⟨i+1,false,by omega,by go_num,rfl,ZZ ⟨fun h=>(by cases h),fun h=>by rcases HNX.out.1 h with h|h;exact absurd h HNB.out;exact absurd h.1 hg1⟩,ZZ (Zb HSET.out ((Only.refl nob W1).drewN _) fun _ _ h=>h),ZZ (ON1.out.drewN _)⟩
    case measure=>simp[RowKit.intOf];omega
   case pos=>
    obtain⟨d,hd⟩: ∃d,d=liN s.objs s.ws x:=⟨_,rfl⟩
    have hgd:=HGE.out i x HX.out;rw[← hd] at hgd HSZ0;obtain⟨bb,oo,fv,rv,hA,hbb,hh,q0,q1,q2,hnd⟩:=RG.out.at_ (c:=cn) (ON1.out.below (Nat.le_refl _) fun _ h=>h.elim) hgd;subst hA;obtain⟨Af,cf,hfv, -⟩:=hnd.fields.form;obtain⟨Ag,cg,hrv, -⟩:=hnd.raws.form;simp only at hfv hrv;subst hfv hrv;have g0:W1.cell? ⟨gb,0,none⟩=some (.slice (some ⟨bb,oo,none⟩) G.nd.length cn):=(BG.out.keep ON1.out id).cell 0;rw[HND.out] at g0
    obtain⟨sz,hsz⟩: ∃sz,sz=1+ohF s.ws x+ohR s.ws x:=⟨_,rfl⟩
    rw[← hsz] at HSZ0;have HSZ:=ZZ (fun (W':World) (o:Only nob W1 W')=>Zdk d _ _ W' (hnd.below (o.below ON1.out.size fun _ h=>h.elim)));rw[HSZ0.out] at HSZ
    have hsb:0≤sz∧sz≤8193:=by omega
    obtain⟨kd,hkd⟩: ∃k,k=d.kd:=⟨_,rfl⟩
    rw[← hkd] at q0 HSZ
    have hw1:IntKind.i64.wrap (x+sz)=x+sz:=by rw[IntKind.wrap_i64];omega
    have HSZE:=ZZ hsz;have OC:=ZZ (show Only nob W1 W1.drew from(Only.refl nob W1).drewN 1);have mixed:=Ze1;have HSC:=ZZ (show ∀w':World,Only nob W1 w'→w'.cell? ⟨bl,ol+i,none⟩=some (.int .i64 x)∧w'.cell? ⟨gb,0,none⟩=some (.slice (some ⟨bb,oo,none⟩) n cn)∧w'.cell? ⟨bb,oo+i * 3,none⟩=some (.int .i64 kd)∧w'.cell? ⟨bb,oo+i * 3+1,none⟩=some (.slice Af d.fs.length cf)∧w'.cell? ⟨bb,oo+i * 3+2,none⟩=some (.slice Ag d.rs.length cg) from fun w' o=>⟨o.keeps l0,o.keeps g0,o.keeps q0,o.keeps q1,o.keeps q2⟩);clear hd hgd hbb hh hnd hsz hkd;by_cases hg2:at_<x+sz
    case pos=>
     go_region_held3 (fun w':World=>w'.cell? ⟨bl,ol+i,none⟩=some (.int .i64 x)∧w'.cell? ⟨gb,0,none⟩=some (.slice (some ⟨bb,oo,none⟩) n cn)∧w'.cell? ⟨bb,oo+i * 3,none⟩=some (.int .i64 kd)∧w'.cell? ⟨bb,oo+i * 3+1,none⟩=some (.slice Af d.fs.length cf)∧w'.cell? ⟨bb,oo+i * 3+2,none⟩=some (.slice Ag d.rs.length cg)) (first|(with_reducible exact HSC.out _ OC.out)|go_keep)
      ((go_at_call 22
        with_reducible refine(HSZ.out _ OC.out).mono ?_
        rintro e wt ⟨rfl,o⟩;have OC:=ZZ (OC.out.trans o)
        clear o))
     clear l0 g0 q0 q1 q2 hw1;go_wp2
     go_roundw
     case rel=>exact⟨i+1,true,by omega,by go_num,rfl,ZZ ⟨fun _=>HNX.out.2 (.inr ⟨hg1,by have:=HSZE.out;omega⟩),fun _=>rfl⟩,ZZ (Zb HSET.out OC.out fun _ _ h=>h),ZZ (ON1.out.trans OC.out)⟩
     case measure=>simp[RowKit.intOf];omega
    case neg=>
     go_region_held3 (fun w':World=>w'.cell? ⟨bl,ol+i,none⟩=some (.int .i64 x)∧w'.cell? ⟨gb,0,none⟩=some (.slice (some ⟨bb,oo,none⟩) n cn)∧w'.cell? ⟨bb,oo+i * 3,none⟩=some (.int .i64 kd)∧w'.cell? ⟨bb,oo+i * 3+1,none⟩=some (.slice Af d.fs.length cf)∧w'.cell? ⟨bb,oo+i * 3+2,none⟩=some (.slice Ag d.rs.length cg)) (first|(with_reducible exact HSC.out _ OC.out)|go_keep)
      ((go_at_call 22
        with_reducible refine(HSZ.out _ OC.out).mono ?_
        rintro e wt ⟨rfl,o⟩;have OC:=ZZ (OC.out.trans o)
        clear o))
     clear l0 g0 q0 q1 q2 hw1;go_wp2
     go_roundw
     case rel=>exact⟨i+1,false,by omega,by go_num,congrArg Value.bool (decide_eq_false (by omega)),ZZ ⟨fun h=>(by cases h),fun h=>by rcases HNX.out.1 h with h|h;exact absurd h HNB.out;(exfalso;have:=h.2;have:=HSZE.out;omega)⟩,ZZ (Zb HSET.out OC.out fun _ _ h=>h),ZZ (ON1.out.trans OC.out)⟩
     case measure=>simp[RowKit.intOf];omega
 case neg=>
 obtain rfl:i=n:=by omega
 obtain⟨w4,rfl⟩: ∃w4:World,w4=wr:=⟨_,rfl⟩
 have RG4:=ZZ ((RG.out.only HO.out (Nat.le_refl _)).more HO.out.size);have SA4:=ZZ (show Sl w4 w4.heap.size 1 (.slice (some ⟨b,0,none⟩) i i) (ZnD i).length (i64s (ZnD i)) from by have h9:=HRW.out;rw[Znl] at h9;have h8:=Sl.of_own h9 h9.1;rwa [show(ZnD i).length=i by simp[ZnD]]);have OW4:=ZZ (OZ.out.trans HO.out);have XW4:=ZZ (XZ.out.keep HO.out);have BG4:=ZZ (BG.out.keep HO.out id);have HWD:=ZZ (fun (W':World) (o:Only nob w4 W')=>Zco G (ZnD i) _ _ _ js w4.heap.size W' (RG4.out.only o (Nat.le_refl _)) (SA4.out.below (o.below (Nat.le_refl _) fun _ h=>h.elim)) o.size HFIT.out (by simp[ZnD];omega));rw[HWDS.out] at HWD;have g0:w4.cell? ⟨gb,0,none⟩=some (.slice An G.nd.length cn):=BG4.out.cell 0;have g1:w4.cell? ⟨gb,1,none⟩=some (.slice Ar G.rt.length cr):=BG4.out.cell 1
 have hmm:(m !=m)=false:=by simp
 clear hlt
 go_wp2_with fail
 go_at_call 23;refine(HWD.out w4 (Only.refl nob w4)).mono ?_;rintro e w5 ⟨rfl,o5⟩;have O5:=ZZ o5;clear g0 g1 o5
 cases bo with
 |true=>
  have BG5:=ZZ (BG4.out.keep O5.out id);have g0:w5.cell? ⟨gb,0,none⟩=some (.slice An G.nd.length cn):=BG5.out.cell 0;have g1:w5.cell? ⟨gb,1,none⟩=some (.slice Ar G.rt.length cr):=BG5.out.cell 1
  go_wp2_with fail
  go_at_call 23;refine(HWD.out w5 O5.out).mono ?_;rintro e w6 ⟨rfl,o6⟩;have O6:=ZZ (OW4.out.trans (O5.out.trans o6));clear g0 g1 o6 hmm
  go_wp2_with fail
  go_at_call 7;refine(HAW.out _ O6.out.whole).mono ?_;rintro e w9 ⟨rfl,o9⟩;have O9:=ZZ (O6.out.trans o9);clear o9;go_wp2;go_ret;exact⟨rfl,O9.out.whole⟩
 |false=>
  have hno: ¬Zqu s at_ i:=fun h=>by have:=HBO.out.2 h;cases this
  have ha0:0≤at_:=by rcases Int.lt_or_le at_ 0 with h|h;exact absurd (.inl (.inl h)) hno;exact h
  have ha1:at_<s.ws.length:=by rcases Int.lt_or_le at_ s.ws.length with h|h;exact h;exact absurd (.inl (.inr h)) hno
  obtain⟨a,rfl⟩: ∃a:Nat,at_=a:=⟨at_.toNat,by omega⟩
  have hb:a<s.ws.length:=by omega
  obtain⟨hm0,hmG⟩:=ZoC H0.out (a:=a) y (fun x hx hh=>hno (.inr ⟨x,by rw[HN.out,List.take_length];exact hx,hh⟩));rw[← HG.out] at hmG;have HM0:=ZZ (And.intro hm0 hmG);have OW5:=ZZ (OW4.out.trans O5.out);have XW5:=ZZ (XW4.out.keep O5.out);have RG5:=ZZ ((RG4.out.only O5.out (Nat.le_refl _)).more O5.out.size);have BG5:=ZZ (BG4.out.keep O5.out id);obtain⟨c0,c1,c2,c3,c4,c5,c6,c7,c8,c9⟩:=XW5.out;clear hno ha0 ha1 hm0 hmG
  go_wp2_with fail
  go_at_call 24;refine(CY s _ _ _ _ _ w5 (HR.out.only OW5.out (Nat.le_refl _)) OW5.out.size HOK.out).mono ?_;rintro e w6 ⟨dw,dt,df,ds,rfl,hown,o⟩;obtain⟨Dw,mw,rfl, -, -⟩:=Zg hown.words;obtain⟨Dt,mt,rfl, -, -⟩:=Zg hown.tab;obtain⟨Df,mf,rfl, -, -⟩:=Zg hown.free;obtain⟨Ds,ms,rfl, -, -⟩:=Zg hown.slots;obtain⟨W5,hW5,HB5⟩:=Zv w6 s (.slice Dw s.ws.length mw) (.slice Dt s.tb.length mt) (.slice Df s.fr.length mf) (.slice Ds s.sl.length ms);have HW5:=ZZ hW5;have o5:=o.trans HB5.out.1;have N5:=ZZ o5;have O6:=ZZ (OW5.out.trans o5)
  obtain⟨pd,hpd⟩: ∃pd,pd=w6.heap.size:=⟨_,rfl⟩
  have XD5:=ZZ HB5.out.2.2;rw[← hpd] at XD5;have HPD:=ZZ hpd;have OD5:=hown.keep HB5.out.1;obtain⟨g,cc,eg,hgc,hgm,hfz,hcl,hput⟩:=ZbV OD5.words (i:=a) (by omega)
  obtain⟨rfl,rfl⟩:Dw=some ⟨g,0,none⟩∧mw=cc:=by simpa using eg
  obtain⟨W6,hW6⟩: ∃W6,W5.setCell ⟨g,a,none⟩ (.int .u64 (y:Nat))=W6:=⟨_,rfl⟩
  have HW6:=ZZ hW6;obtain⟨hr6,o6⟩:=hput (.int .u64 (y:Nat));rw[hW6,ZjT] at hr6;rw[hW6] at o6;have hgl:=Zm hown.words (k:=g) rfl;have hwl:w.heap.size≤w5.heap.size:=OW5.out.size;have nV: ∀{T:TypeId} {size n:Nat} {v:Value} {xs:List Value},W5.ownsRow w5.heap.size T size v n xs→48≠T→W6.ownsRow w5.heap.size T size v n xs:=fun h hne=>Zb h o6 fun k e f=>ZqN OD5.words h hne k f e
  have OD6:=ZZ (show Own4 W6 w5.heap.size {s with ws:=s.ws.set a y} (.slice (some ⟨g,0,none⟩) s.ws.length mw) (.slice Dt s.tb.length mt) (.slice Df s.fr.length mf) (.slice Ds s.sl.length ms) from
   ⟨by show W6.ownsRow _ _ _ _ (s.ws.set a y).length _;rw[List.length_set];exact hr6,nV OD5.tab (by decide),nV OD5.free (by decide),nV OD5.slots (by decide),OD5.apart⟩)
  have N6:=ZZ (show Only nob w5 W6 from N5.out.andThen o6 fun k hk e=>by
   have:g=k:=by simpa[Value.ownBlock] using e
   omega)
  have ON6:=ZZ (OW5.out.trans N6.out)
  have XD6:=ZZ (XD5.out.keepF o6 fun e=>by
   have:g=pd:=by simpa[Value.ownBlock] using e
   rw[HPD.out] at this
   omega)
  have HSO:=ZZ (show StOk {s with ws:=s.ws.set a y} from⟨HOK.out.cf,HOK.out.ws.set a y HY.out,HOK.out.top,HOK.out.tb,HOK.out.fr,HOK.out.sl,by
   have:=HOK.out.few
   show(s.ws.set a y).length≤_∧_
   rw[List.length_set];exact this⟩)
  have HLS:=ZZ (show ZH {s with ws:=s.ws.set a y}=false from by have:=HL.out;unfold ZH at this ⊢;simpa using this)
  have hcm:mw≤9223372036854775807:=by unfold maxLen at hgm;omega
  obtain⟨z0,hz0⟩: ∃z,W5.cell? ⟨g,a,none⟩=some (.int .u64 z):=⟨_,hcl.trans (Zjp _ a hb)⟩
  have HLF:=ZZ (show Calls Tryz.prog 8 #[.agg #[.int .i64 s.cf.semi,.int .i64 s.cf.large,.int .i64 s.cf.slots,.int .i64 s.cf.limit,.bool s.sec,.slice (some ⟨g,0,none⟩) s.ws.length mw,.int .i64 s.top,.slice Dt s.tb.length mt,.slice Df s.fr.length mf,.slice Ds s.sl.length ms]] W6 fun e w'=> ∃un ur js v,e=.returned (.tuple #[.agg #[un,ur],v,.int .i64 0])∧RdG w' w'.heap.size G un ur js∧(∃A c n,v=.slice A n c)∧Only nob W6 w' from by
   have hc:=C.lift {s with ws:=s.ws.set a y} _ _ _ _ _ W6 OD6.out.rd (Nat.le_refl _) HSO.out (HPAR.out.old ON6.out) HLS.out;rw[HM0.out.2,(Za6 HM0.out.1).1] at hc;refine hc.mono ?_;rintro e w' ⟨un,ur,js,v,rfl,rd,hs,o⟩;obtain⟨A,c,rfl, -, -⟩:=hs.form
   exact⟨un,ur,js,_,rfl,rd,⟨_,_,_,rfl⟩,o⟩)
  have RG6:=ZZ ((RG5.out.only N6.out (Nat.le_refl _)).more N6.out.size);have BG6:=ZZ (BG5.out.keep N6.out id);clear o o5 hW5 hpd hown OD5 eg hgm hcl hput hW6 hr6 o6 hgl nV c0 c1 c2 c3 c4 c5 c6 c7 c8 c9;obtain⟨d0,d1,d2,d3,d4,d5,d6,d7,d8,d9⟩:=XD5.out
  go_upto_region 21 with fail
  rw[HW5.out, ← HPD.out]
  go_upto_region 22 with fail
  rw[HW6.out];clear d0 d1 d2 d3 d4 d5 d6 d7 d8 d9 hz0 hfz;obtain⟨d0,d1,d2,d3,d4,d5,d6,d7,d8,d9⟩:=XD6.out
  go_wp2_with fail
  go_at_call 8;refine HLF.out.mono ?_;rintro e w7 ⟨un,ur,js7,v7,rfl,rd,⟨A7,k7,n7,rfl⟩,o⟩;obtain⟨An7,cn7,rfl, -⟩:=rd.nodes.form;obtain⟨Ar7,cr7,rfl, -⟩:=rd.roots.form;obtain⟨Y7,hY7,HYB7⟩:=ZF w7 (.slice An7 G.nd.length cn7) (.slice Ar7 G.rt.length cr7);have HY7:=ZZ hY7;have N7:=ZZ (o.trans HYB7.out.1);have RH:=ZZ ((rd.only HYB7.out.1 (Nat.le_refl _)).more HYB7.out.1.size);have RG7:=ZZ ((RG6.out.only N7.out (Nat.le_refl _)).more N7.out.size);have g0:Y7.cell? ⟨gb,0,none⟩=some (.slice An G.nd.length cn):=(BG6.out.keep N7.out id).cell 0;have g1:Y7.cell? ⟨gb,1,none⟩=some (.slice Ar G.rt.length cr):=(BG6.out.keep N7.out id).cell 1;have e0:Y7.cell? ⟨w7.heap.size,0,none⟩=some (.slice An7 G.nd.length cn7):=HYB7.out.2.cell 0;have e1:Y7.cell? ⟨w7.heap.size,1,none⟩=some (.slice Ar7 G.rt.length cr7):=HYB7.out.2.cell 1;have O7:=ZZ (ON6.out.trans N7.out);clear o rd hY7 d0 d1 d2 d3 d4 d5 d6 d7 d8 d9
  go_upto_region 23 with fail
  rw[HY7.out]
  go_wp2_with fail
  go_at_call 14;refine(ZnW G _ _ _ _ js js7 Y7.heap.size Y7.heap.size Y7 RG7.out RH.out (Nat.le_refl _) (Nat.le_refl _) HFIT.out).mono ?_;rintro e w8 ⟨rfl,o8⟩;have O8:=ZZ (O7.out.trans o8);clear o8 g0 g1 e0 e1
  go_wp2_with fail
  go_at_call 7;refine(HAW.out _ O8.out.whole).mono ?_;rintro e w9 ⟨rfl,o9⟩;have O9:=ZZ (O8.out.trans o9);clear o9;go_wp2;go_ret;exact⟨rfl,O9.out.whole⟩
end Go.Proofs.YteieocddfnlmdaaGreatDoor
