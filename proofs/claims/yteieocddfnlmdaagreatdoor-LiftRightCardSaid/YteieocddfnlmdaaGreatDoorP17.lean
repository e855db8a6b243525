/- A heap in plain words: its objects, the rules by which it ma The document's own answers for heaps: whether a word leads s -/
import Derived.Test.YteieocddfnlmdaaGreatDoorP12
import Derived.Test.YteieocddfnlmdaaGreatDoorP14
import Derived.Test.YteieocddfnlmdaaGreatDoorP16
namespace Go.Proofs.YteieocddfnlmdaaGreatDoor
open Go.RowKit
structure St where
 cf:Cf
 sec:Bool
 ws:List Nat
 top:Int
 tb:List Sp
 fr:List Sp
 sl:List Slt
def St.frm (s:St):Sp:=ZO s.cf s.sec
def St.steps (s:St):List It:=ZX (hAr s.ws) s.frm s.top
def St.smalls (s:St):List Int:=wkL s.steps
def St.objs (s:St):List Int:=s.smalls++s.tb.map (·.1)
def idle (l:List Nat) (p:Int):Bool:=!ohM l p&&decide (ohC l p=0)
def leads (all:List Int) (x:Nat):Bool:=decide (dE x=0)&&(!decide (dK x=2)||Zbf all (dX x))
def r3 (s:St):Bool:=decide (s.frm.1≤s.top∧s.top≤s.frm.1+s.frm.2)
def low (c:Cf) (l:List Nat) (p:Int):Bool:=idle l p&&ZaY c (osz (hAr l) p)
def r5 (s:St):Bool:=s.smalls.all (low s.cf s.ws)
def big (c:Cf) (l:List Nat) (x:Sp):Bool:=decide (ohE l x.1=0)&&(decide (osz (hAr l) x.1=x.2)&&(idle l x.1&&!ZaY c x.2))
noncomputable def r6 (s:St):Bool:=decide (ZaV (Zl s.cf) s.tb s.fr)&&s.tb.all (big s.cf s.ws)
def r7 (s:St):Bool:=Za9 dE s.sl s.cf.slots
def ZcA (all:List Int) (l:List Nat) (p:Int):Bool:=(List.range (ohF l p).toNat).all fun k=>leads all (wd l (p+1+(k:Nat)).toNat)
def r8 (s:St):Bool:=s.objs.all (ZcA s.objs s.ws)
def r9 (s:St):Bool:=s.sl.all fun t=>!t.1||leads s.objs t.2.2
noncomputable def ZT (s:St):Int:=
 if s.cf.ok then(if(s.ws.length:Int)=Zh s.cf then(if r3 s=true then(if wkE s.steps=0 then(if r5 s=true then(if r6 s=true then(if r7 s=true then(if r8 s=true then(if r9 s=true then 0 else 9) else 8) else 7) else 6) else 5) else 4) else 3) else 2) else 1
structure May15 (s:St):Prop where
 ok:s.cf.ok
 many:(s.ws.length:Int)=Zh s.cf
 top:r3 s=true
 walk:wkE s.steps=0
 low:r5 s=true
 big:r6 s=true
 slots:r7 s=true
 fields:r8 s=true
 leads:r9 s=true
theorem ZE {s:St}:ZT s=0↔May15 s:=by
 constructor
 · intro h
   unfold ZT at h
   repeat' split at h
   all_goals first|(exact⟨by assumption,by assumption,by assumption,by assumption,by assumption,by assumption,by assumption,by assumption,by assumption⟩)|cases h
 · rintro⟨h1,h2,h3,h4,h5,h6,h7,h8,h9⟩
   unfold ZT;rw[if_pos h1,if_pos h2,if_pos h3,if_pos h4,if_pos h5,if_pos h6,if_pos h7,if_pos h8,if_pos h9]
theorem ZlT {l:List Nat} {a:Nat} {w:Nat} {p:Int} (h:p≠a) (h0:0≤p):hAr (l.set a w) p=hAr l p:=by
 have hw:wd (l.set a w) p.toNat=wd l p.toNat:=by
  unfold wd;rw[List.getD_eq_getElem?_getD,List.getD_eq_getElem?_getD,List.getElem?_set_ne (by omega)]
 unfold hAr ohE ohK ohF ohR ohM ohC ohE;rw[hw,List.length_set]
theorem ZjC {h h':Int→Hd} (H:Zk5 h) (H':Zk5 h') (top a:Int) (he: ∀y∈tr h top a,y.e=0) (hh: ∀y∈tr h top a,h' y.at_=h y.at_):tr h' top a=tr h top a:=by
 refine ZgZ (P:=fun a=>(∀y∈tr h top a,y.e=0)→(∀y∈tr h top a,h' y.at_=h y.at_)→tr h' top a=tr h top a) H top ?_ ?_ ?_ a he hh
 · intro a ha _ _
   rw[Zc6 ha,Zc6 ha]
 · intro a ha hs he _
   exfalso;rw[Zdy ha hs] at he
   have:=he _ (List.mem_singleton.2 rfl)
   rw[ZcP] at this;exact hs this
 · intro a ha hs ih he hh
   rw[Zfk H ha hs] at he hh;have h1:=hh _ (List.mem_cons_self ..);rw[Zax] at h1
   have h2:swE h' top a=swE h top a:=by unfold swE osz;rw[h1]
   have h3:osz h' a=osz h a:=by unfold osz;rw[h1]
   have h4:item h' top a=item h top a:=by unfold item;rw[h2,h1]
   rw[Zfk H ha hs,Zfk H' ha (h2.trans hs),h3,h4]
   congr 1
   exact ih (fun y hy=>he y (List.mem_cons_of_mem _ hy)) (fun y hy=>hh y (List.mem_cons_of_mem _ hy))
theorem Zah {c:Cf} (h:c.ok) (b:Bool):0≤(ZO c b).1∧1≤(ZO c b).2∧(ZO c b).1+(ZO c b).2≤c.semi+c.semi∧(ZO c b).1≤32768∧(ZO c b).2≤32768:=by
 have h':=h;unfold Cf.ok at h;unfold ZO ZcU;rcases b with _|_
 · simp only[Bool.false_eq_true,if_false,if_pos h'];omega
 · simp only[if_true,if_pos h'];omega
theorem Zbc (s:St):s.smalls.length≤32768:=by
 unfold St.smalls wkL
 split
 · rw[ZiM]
   unfold St.steps ZX
   split
   · rename_i hm
     have:=Zni (ZaX s.ws) (top:=s.top) s.frm.1
     unfold St.frm at hm this ⊢;by_cases hc:s.cf.ok
     · have hb:=Zah hc s.sec
       obtain⟨-,h1,h2⟩:=hm
       split at this <;> omega
     · exfalso
       have:ZO s.cf s.sec=(0,0):=by
        unfold ZO ZcU;simp[hc]
       rw[this] at hm;obtain⟨⟨-,h1, -⟩, -⟩:=hm;simp at h1
   · simp
 · simp
theorem ZfV {s:St} (h4:wkE s.steps=0) {p:Int} (hp:p∈s.smalls):ohE s.ws p=0:=by
 have hok:=ZgA h4;have hats:s.smalls=ats s.steps:=(Zn9 hok s.top).2.2;rw[hats] at hp;obtain⟨y,hy,rfl⟩:=List.mem_map.1 hp;have h0:=hok y hy;unfold St.steps ZX at hy
 split at hy
 · obtain⟨e1, -⟩:=ZpR (ZaX _) _ y hy
   rw[e1,ZcP] at h0;exact(Za5 h0).1
 · rw[List.mem_singleton] at hy
   rw[hy] at h0;exact absurd h0 (by decide)
section
variable {s:St}
theorem May15.may9 (h:May15 s):may9 s.frm s.top:=by
 have h1:=Zah h.ok s.sec;have h2:=of_decide_eq_true h.top;unfold Proofs.YteieocddfnlmdaaGreatDoor.may9 Sp.ok ZcO;unfold St.frm at h2 ⊢;omega
theorem May15.steps_tr (h:May15 s):s.steps=tr (hAr s.ws) s.top s.frm.1:=by
 unfold St.steps ZX;rw[if_pos h.may9]
theorem May15.steps_ok (h:May15 s): ∀y∈s.steps,y.e=0:=ZgA h.walk
theorem May15.smalls_ats (h:May15 s):s.smalls=ats s.steps:=(Zn9 h.steps_ok s.top).2.2
theorem May15.head (h:May15 s) {p:Int} (hp:p∈s.objs):ohE s.ws p=0∧0≤p:=by
 have key:ohE s.ws p=0:=by
  unfold St.objs at hp;rcases List.mem_append.1 hp with hp|hp
  · rw[h.smalls_ats] at hp
    obtain⟨y,hy,rfl⟩:=List.mem_map.1 hp;have h0:=h.steps_ok y hy;rw[h.steps_tr] at hy;obtain⟨e1, -⟩:=ZpR (ZaX _) _ y hy;rw[e1,ZcP] at h0;exact(Za5 h0).1
  · obtain⟨x,hx,rfl⟩:=List.mem_map.1 hp
    have h6:=h.big;unfold r6 at h6;rw[Bool.and_eq_true,List.all_eq_true] at h6
    have:=h6.2 x hx
    unfold Proofs.YteieocddfnlmdaaGreatDoor.big at this;rw[Bool.and_eq_true,decide_eq_true_iff] at this;exact this.1
 refine⟨key,?_⟩;obtain⟨n,rfl, -⟩:=ZqS key;omega
theorem May15.far (h:May15 s) {p:Int} (hp:p∈s.objs): ∃n:Nat,p=n∧n<s.ws.length∧p+osz (hAr s.ws) p≤s.ws.length∧0≤ohF s.ws p∧0≤ohR s.ws p:=by
 obtain⟨h0, -⟩:=h.head hp;obtain⟨n,rfl,hb⟩:=ZqS h0;obtain⟨-, -,h3,h4, -⟩:=Znv hb;have hf:=hb.far;have ha:=ZaX s.ws n h0;have hm:=ZaD.1 ha;refine⟨n,rfl,hb.there,?_,?_,?_⟩
 · show(n:Int)+(1+ohF s.ws n+ohR s.ws n)≤_
   rw[h3,h4];omega
 · have:(0:Int)≤(hAr s.ws n).f:=by omega
   exact this
 · have:(0:Int)≤(hAr s.ws n).r:=by omega
   exact this
theorem May15.idle (h:May15 s) {a:Nat} (w:Nat) (hn: ∀p∈s.objs, ¬(p≤a∧(a:Int)<p+1+ohF s.ws p+ohR s.ws p)):May15 {s with ws:=s.ws.set a w}:=by
 have hh: ∀p∈s.objs,hAr (s.ws.set a w) p=hAr s.ws p:=fun p hp=>by
  obtain⟨n,rfl, -, -,h3,h4⟩:=h.far hp;refine ZlT (fun e=>hn _ hp ?_) (by omega);omega
 have hE: ∀p∈s.objs,ohE (s.ws.set a w) p=ohE s.ws p:=fun p hp=>congrArg Hd.e (hh p hp);have hF: ∀p∈s.objs,ohF (s.ws.set a w) p=ohF s.ws p:=fun p hp=>congrArg Hd.f (hh p hp);have hM: ∀p∈s.objs,ohM (s.ws.set a w) p=ohM s.ws p:=fun p hp=>congrArg Hd.m (hh p hp);have hC: ∀p∈s.objs,ohC (s.ws.set a w) p=ohC s.ws p:=fun p hp=>congrArg Hd.c (hh p hp)
 have hZ: ∀p∈s.objs,osz (hAr (s.ws.set a w)) p=osz (hAr s.ws) p:=fun p hp=>by unfold osz;rw[hh p hp]
 have hI: ∀p∈s.objs,Proofs.YteieocddfnlmdaaGreatDoor.idle (s.ws.set a w) p=Proofs.YteieocddfnlmdaaGreatDoor.idle s.ws p:=fun p hp=>by unfold Proofs.YteieocddfnlmdaaGreatDoor.idle;rw[hM p hp,hC p hp]
 have hsm: ∀p∈s.smalls,p∈s.objs:=fun p hp=>List.mem_append_left _ hp
 have hst:St.steps {s with ws:=s.ws.set a w}=s.steps:=by
  have e1:St.steps {s with ws:=s.ws.set a w}=tr (hAr (s.ws.set a w)) s.top s.frm.1:=by
   unfold St.steps ZX;exact if_pos h.may9
  rw[e1,h.steps_tr];have hok:=h.steps_ok;have hats:=h.smalls_ats;rw[h.steps_tr] at hok hats;refine ZjC (ZaX _) (ZaX _) _ _ hok fun y hy=>hh _ (hsm _ ?_);rw[hats];exact List.mem_map.2 ⟨y,hy,rfl⟩
 have hob:St.objs {s with ws:=s.ws.set a w}=s.objs:=by
  unfold St.objs St.smalls;rw[hst]
 refine⟨h.ok,by rw[List.length_set];exact h.many,h.top,by rw[hst];exact h.walk,?_,?_,h.slots,?_,?_⟩
 · have h5:=h.low
   unfold r5 at h5 ⊢;rw[List.all_eq_true] at h5 ⊢;intro p hp
   have hp':p∈s.smalls:=by unfold St.smalls at hp ⊢;rw[hst] at hp;exact hp
   have:=h5 p hp'
   unfold Proofs.YteieocddfnlmdaaGreatDoor.low at this ⊢;show(Proofs.YteieocddfnlmdaaGreatDoor.idle (s.ws.set a w) p&&ZaY s.cf (osz (hAr (s.ws.set a w)) p))=true;rw[hI p (hsm p hp'),hZ p (hsm p hp')];exact this
 · have h6:=h.big
   unfold r6 at h6 ⊢;rw[Bool.and_eq_true,List.all_eq_true] at h6 ⊢;refine⟨h6.1,fun x hx=>?_⟩;have hp:x.1∈s.objs:=List.mem_append_right _ (List.mem_map.2 ⟨x,hx,rfl⟩)
   have:=h6.2 x hx
   unfold Proofs.YteieocddfnlmdaaGreatDoor.big at this ⊢;show(decide (ohE (s.ws.set a w) x.1=0)&&(decide (osz (hAr (s.ws.set a w)) x.1=x.2)&&(Proofs.YteieocddfnlmdaaGreatDoor.idle (s.ws.set a w) x.1&&!ZaY s.cf x.2)))=true;rw[hI _ hp,hZ _ hp,hE _ hp];exact this
 · have h8:=h.fields
   unfold r8 at h8 ⊢;rw[hob];rw[List.all_eq_true] at h8 ⊢;intro p hp
   have:=h8 p hp
   unfold ZcA at this ⊢;show((List.range (ohF (s.ws.set a w) p).toNat).all fun k=>Proofs.YteieocddfnlmdaaGreatDoor.leads s.objs (wd (s.ws.set a w) (p+1+(k:Nat)).toNat))=true;rw[hF p hp];rw[List.all_eq_true] at this ⊢;intro k hk;have hk':=List.mem_range.1 hk;obtain⟨n,rfl, -, -,h3,h4⟩:=h.far hp
   have hw:wd (s.ws.set a w) ((n:Int)+1+(k:Nat)).toNat=wd s.ws ((n:Int)+1+(k:Nat)).toNat:=by
    unfold wd;rw[List.getD_eq_getElem?_getD,List.getD_eq_getElem?_getD,List.getElem?_set_ne];intro e
    have:=hn _ hp
    omega
   rw[hw];exact this k hk
 · have h9:=h.leads
   unfold r9 at h9 ⊢;rw[hob];exact h9
end
end Go.Proofs.YteieocddfnlmdaaGreatDoor
namespace Go.Proofs.YteieocddfnlmdaaGreatDoor
open Go.RowKit
set_option maxRecDepth 100000
structure Rd (w:World) (B:Nat) (s:St) (vw vt vf vs:Value):Prop where
 words:Sl w B 1 vw s.ws.length (u64s s.ws)
 tab:Sl w B 2 vt s.tb.length (spc s.tb)
 free:Sl w B 2 vf s.fr.length (spc s.fr)
 slots:Sl w B 3 vs s.sl.length (slc s.sl)
section
variable {w w':World} {B B':Nat} {s:St} {vw vt vf vs:Value}
theorem Rd.below (h:Rd w B s vw vt vf vs) (b:Below B w w'):Rd w' B s vw vt vf vs:=⟨h.words.below b,h.tab.below b,h.free.below b,h.slots.below b⟩
theorem Rd.more (h:Rd w B s vw vt vf vs) (b:B≤B'):Rd w B' s vw vt vf vs:=⟨h.words.more b,h.tab.more b,h.free.more b,h.slots.more b⟩
theorem Rd.only (h:Rd w B s vw vt vf vs) (o:Only nob w w') (hB:B≤w.heap.size):Rd w' B s vw vt vf vs:=h.below (o.below hB fun _ h=>h.elim)
end
def ZoZ (l:List Sp):Prop:= ∀x∈l,I64 x.1∧I64 x.2
theorem ZoZ.fits {l:List Sp} (h:ZoZ l):Zii l:=fun x hx=>(h x hx).1.2
structure StOk (s:St):Prop where
 cf:CFit s.cf
 ws:ZaC s.ws
 top:I64 s.top
 tb:ZoZ s.tb
 fr:ZoZ s.fr
 sl:Zhd s.sl
 few:s.ws.length≤98304∧s.tb.length≤1000∧s.fr.length≤1000∧s.sl.length≤2000
structure SBox (W:World) (b:Nat) (s:St) (vw vt vf vs:Value):Prop where
 c0:W.cell? ⟨b,0,none⟩=some (.int .i64 s.cf.semi)
 c1:W.cell? ⟨b,1,none⟩=some (.int .i64 s.cf.large)
 c2:W.cell? ⟨b,2,none⟩=some (.int .i64 s.cf.slots)
 c3:W.cell? ⟨b,3,none⟩=some (.int .i64 s.cf.limit)
 c4:W.cell? ⟨b,4,none⟩=some (.bool s.sec)
 c5:W.cell? ⟨b,5,none⟩=some vw
 c6:W.cell? ⟨b,6,none⟩=some (.int .i64 s.top)
 c7:W.cell? ⟨b,7,none⟩=some vt
 c8:W.cell? ⟨b,8,none⟩=some vf
 c9:W.cell? ⟨b,9,none⟩=some vs
section
variable {W W':World} {b:Nat} {s:St} {vw vt vf vs:Value}
theorem SBox.keep (h:SBox W b s vw vt vf vs) (o:Only nob W W'):SBox W' b s vw vt vf vs:=⟨o.keeps h.c0,o.keeps h.c1,o.keeps h.c2,o.keeps h.c3,o.keeps h.c4,o.keeps h.c5,o.keeps h.c6,o.keeps h.c7,o.keeps h.c8,o.keeps h.c9⟩
theorem SBox.keepF {F:Nat→Prop} (h:SBox W b s vw vt vf vs) (o:Only F W W') (hn: ¬F b):SBox W' b s vw vt vf vs:=
 have hb:b<W.heap.size:=World.block_lt_of_cell? W _ h.c0;have k: ∀{i:Nat} {v:Value},W.cell? ⟨b,i,none⟩=some v→W'.cell? ⟨b,i,none⟩=some v:=fun {i _} hc=>(o.cell (p:=⟨b,i,none⟩) hb hn).trans hc
 ⟨k h.c0,k h.c1,k h.c2,k h.c3,k h.c4,k h.c5,k h.c6,k h.c7,k h.c8,k h.c9⟩
theorem SBox.of (h:Blk W b 28 #[.int .i64 s.cf.semi,.int .i64 s.cf.large,.int .i64 s.cf.slots,.int .i64 s.cf.limit,.bool s.sec,vw,.int .i64 s.top,vt,vf,vs]):SBox W b s vw vt vf vs:=⟨h.cell 0,h.cell 1,h.cell 2,h.cell 3,h.cell 4,h.cell 5,h.cell 6,h.cell 7,h.cell 8,h.cell 9⟩
theorem Zv (w:World) (s:St) (vw vt vf vs:Value): ∃W,w.alloc (.cells #[.int .i64 s.cf.semi,.int .i64 s.cf.large,.int .i64 s.cf.slots,.int .i64 s.cf.limit,.bool s.sec,vw,.int .i64 s.top,vt,vf,vs] 28)=W∧Hid (Only nob w W∧Blk W w.heap.size 28 #[.int .i64 s.cf.semi,.int .i64 s.cf.large,.int .i64 s.cf.slots,.int .i64 s.cf.limit,.bool s.sec,vw,.int .i64 s.top,vt,vf,vs]∧SBox W w.heap.size s vw vt vf vs):=
 ⟨_,rfl,ZZ ⟨(Only.refl nob w).alloc _,Blk.new _ _ _,SBox.of (Blk.new _ _ _)⟩⟩
end
noncomputable def obE (s:St):Int:=if ZT s=0 then 0 else 4
noncomputable def obL (s:St):List Int:=if ZT s=0 then s.objs else[]
def usT (s:St):Int:=if s.cf.ok∧r3 s=true then s.top - s.frm.1 else 0
noncomputable instance (a b:St):Decidable (a=b):=Classical.propDecidable _
def Ztq:St:=⟨⟨0,0,0,0⟩,false,[],0,[],[],[]⟩
def Zro (c:Cf):St:=if c.ok then⟨c,false,List.replicate (Zh c).toNat 0,0,[],if 0<c.large then[Zl c] else[],List.replicate c.slots.toNat (false,0,0)⟩ else Ztq
def ZpD (f:FuncId):Prop:= ∀(s:St) (vw vt vf vs:Value) (B:Nat) (w:World),Rd w B s vw vt vf vs→B≤w.heap.size→StOk s→Par w→
 Calls Tryz.prog f #[.agg #[.int .i64 s.cf.semi,.int .i64 s.cf.large,.int .i64 s.cf.slots,.int .i64 s.cf.limit,.bool s.sec,vw,.int .i64 s.top,vt,vf,vs]] w fun e w'=>e=.returned (.int .i64 (ZT s))∧Only nob w w'
def Zol (f:FuncId):Prop:= ∀(s:St) (vw vt vf vs:Value) (B:Nat) (w:World),Rd w B s vw vt vf vs→B≤w.heap.size→StOk s→Par w→
 Calls Tryz.prog f #[.agg #[.int .i64 s.cf.semi,.int .i64 s.cf.large,.int .i64 s.cf.slots,.int .i64 s.cf.limit,.bool s.sec,vw,.int .i64 s.top,vt,vf,vs]] w fun e w'=> ∃v',e=.returned (.tuple #[v',.int .i64 (obE s)])∧Sl w' w'.heap.size 1 v' (obL s).length (i64s (obL s))∧Only nob w w'
def ZsV (f:FuncId):Prop:= ∀(s:St) (a:Int) (vw vt vf vs:Value) (B:Nat) (w:World),Rd w B s vw vt vf vs→B≤w.heap.size→StOk s→Par w→
 Calls Tryz.prog f #[.agg #[.int .i64 s.cf.semi,.int .i64 s.cf.large,.int .i64 s.cf.slots,.int .i64 s.cf.limit,.bool s.sec,vw,.int .i64 s.top,vt,vf,vs],.int .i64 a] w fun e w'=>e=.returned (.tuple #[.agg #[.int .i64 (ohK s.ws a),.int .i64 (ohF s.ws a),.int .i64 (ohR s.ws a),.bool (ohM s.ws a),.int .i64 (ohC s.ws a)],.int .i64 (ohE s.ws a)])∧Only nob w w'
structure Own4 (w:World) (base:Nat) (s:St) (vw vt vf vs:Value):Prop where
 words:w.ownsRow base 48 1 vw s.ws.length (u64s s.ws)
 tab:w.ownsRow base 51 2 vt s.tb.length (spc s.tb)
 free:w.ownsRow base 51 2 vf s.fr.length (spc s.fr)
 slots:w.ownsRow base 61 3 vs s.sl.length (slc s.sl)
 apart: ∀k,vt.ownBlock=some k→vf.ownBlock≠some k
def Zrg (f:FuncId):Prop:= ∀(s:St) (vw vt vf vs:Value) (B:Nat) (w:World),Rd w B s vw vt vf vs→B≤w.heap.size→StOk s→
 Calls Tryz.prog f #[.agg #[.int .i64 s.cf.semi,.int .i64 s.cf.large,.int .i64 s.cf.slots,.int .i64 s.cf.limit,.bool s.sec,vw,.int .i64 s.top,vt,vf,vs]] w fun e w'=> ∃uw ut uf us,e=.returned (.agg #[.int .i64 s.cf.semi,.int .i64 s.cf.large,.int .i64 s.cf.slots,.int .i64 s.cf.limit,.bool s.sec,uw,.int .i64 s.top,ut,uf,us])∧Own4 w' w.heap.size s uw ut uf us∧Only nob w w'
end Go.Proofs.YteieocddfnlmdaaGreatDoor
namespace Go.Proofs.YteieocddfnlmdaaGreatDoor
open Go.RowKit
theorem ZbJ {c:Cf} (h:c.ok):Zh c=c.semi+c.semi+c.large∧0≤Zh c∧Zh c≤98304:=by
 unfold Zh;rw[if_pos h];unfold Cf.ok at h;omega
theorem Zeq {c:Cf} (h:c.ok):ZO c false=(0,c.semi):=by
 unfold ZO ZcU;simp[h]
theorem Zh8 {x:Sp} (h: ¬x.ok):ZaV x [] []:=
 ⟨(fun _ h=>by cases h),List.Pairwise.nil,⟨(fun _ h=>by cases h),List.Pairwise.nil⟩,⟨(fun _ h=>by cases h),List.Pairwise.nil⟩,fun p=>⟨fun ⟨_,h,_⟩=>(by cases h),fun ⟨h1,_⟩=>absurd h1.1 h⟩⟩
theorem ZkR {x:Sp} (h:x.ok):ZaV x [] [x]:=
 ⟨(fun _ h=>by cases h),List.Pairwise.nil,⟨(fun _ h=>by cases h),List.Pairwise.nil⟩,⟨(fun y hy=>by rw[List.mem_singleton.1 hy];exact h),List.pairwise_singleton _ _⟩,fun p=>⟨fun ⟨y,hy,hp⟩=>⟨by rw[← List.mem_singleton.1 hy];exact hp,fun ⟨_,h,_⟩=>by cases h⟩,fun ⟨h1,_⟩=>⟨x,List.mem_singleton.2 rfl,h1⟩⟩⟩
theorem Zic {c:Cf} (h:c.ok):Zro c=⟨c,false,List.replicate (Zh c).toNat 0,0,[],if 0<c.large then[Zl c] else[],List.replicate c.slots.toNat (false,0,0)⟩:=by unfold Zro;rw[if_pos h]
theorem Zhz {c:Cf} (h:c.ok) (h0:0<c.large):Sp.ok (Zl c):=by
 have h':=h;unfold Cf.ok at h';unfold Zl;rw[if_pos ⟨h,by omega⟩];unfold Sp.ok ZcO;simp only;omega
theorem Zq5 {c:Cf} (h:c.ok):May15 (Zro c):=by
 rw[Zic h];have h':=h;unfold Cf.ok at h';have hw:=ZbJ h;have hfr:ZO c false=(0,c.semi):=Zeq h
 have hst:St.steps ⟨c,false,List.replicate (Zh c).toNat 0,0,[],if 0<c.large then[Zl c] else[],List.replicate c.slots.toNat (false,0,0)⟩=[]:=by
  unfold St.steps St.frm ZX;simp only[hfr];rw[if_pos (by unfold may9 Sp.ok ZcO;simp only;omega)];exact Zc6 (by omega)
 have hob:St.objs ⟨c,false,List.replicate (Zh c).toNat 0,0,[],if 0<c.large then[Zl c] else[],List.replicate c.slots.toNat (false,0,0)⟩=[]:=by
  unfold St.objs St.smalls;rw[hst];rfl
 refine⟨h,?_,?_,?_,?_,?_,?_,?_,?_⟩
 · show((List.replicate (Zh c).toNat 0).length:Int)=Zh c
   rw[List.length_replicate];omega
 · unfold r3 St.frm
   simp only[hfr];exact decide_eq_true (by omega)
 · rw[hst];rfl
 · unfold r5 St.smalls
   rw[hst];rfl
 · unfold r6
   rw[Bool.and_eq_true];refine⟨?_,rfl⟩;rw[decide_eq_true_iff];show ZaV (Zl c) [] (if 0<c.large then[Zl c] else[])
   split
   · exact ZkR (Zhz h (by assumption))
   · refine Zh8 fun e=>?_
     unfold Zl at e;rw[if_neg (by omega)] at e;unfold Sp.ok at e;simp only at e;omega
 · unfold r7
   show Za9 dE (List.replicate c.slots.toNat ((false,0,0):Slt)) c.slots=true;refine Zfu (by rw[List.length_replicate];omega) fun j y hj hy=>?_
   have:=List.mem_of_getElem? hy
   rw[List.mem_replicate] at this;rw[this.2];exact Zb2 (by omega)
 · unfold r8
   rw[hob];rfl
 · unfold r9
   rw[List.all_eq_true];intro t ht;have ht':t∈List.replicate c.slots.toNat ((false,0,0):Slt):=ht;rw[List.mem_replicate] at ht';rw[ht'.2];rfl
end Go.Proofs.YteieocddfnlmdaaGreatDoor
namespace Go.Proofs.YteieocddfnlmdaaGreatDoor
open Go.RowKit
set_option maxRecDepth 100000
theorem Zbn:Tryz.prog.follows .mixedOrders=true:=by kernel_rfl
theorem SBox.all {W:World} {b:Nat} {s:St} {vw vt vf vs:Value} (h:SBox W b s vw vt vf vs):
 (∀n os,(wat W n os).cell? ⟨b,0,none⟩=some (.int .i64 s.cf.semi))∧(∀n os,(wat W n os).cell? ⟨b,1,none⟩=some (.int .i64 s.cf.large))∧(∀n os,(wat W n os).cell? ⟨b,2,none⟩=some (.int .i64 s.cf.slots))∧(∀n os,(wat W n os).cell? ⟨b,3,none⟩=some (.int .i64 s.cf.limit))∧(∀n os,(wat W n os).cell? ⟨b,4,none⟩=some (.bool s.sec))∧(∀n os,(wat W n os).cell? ⟨b,5,none⟩=some vw)∧(∀n os,(wat W n os).cell? ⟨b,6,none⟩=some (.int .i64 s.top))∧(∀n os,(wat W n os).cell? ⟨b,7,none⟩=some vt)∧(∀n os,(wat W n os).cell? ⟨b,8,none⟩=some vf)∧(∀n os,(wat W n os).cell? ⟨b,9,none⟩=some vs):=
 ⟨Zd h.c0,Zd h.c1,Zd h.c2,Zd h.c3,Zd h.c4,Zd h.c5,Zd h.c6,Zd h.c7,Zd h.c8,Zd h.c9⟩
end Go.Proofs.YteieocddfnlmdaaGreatDoor
namespace Go.Proofs.YteieocddfnlmdaaGreatDoor
open Go.RowKit
set_option maxRecDepth 100000
end Go.Proofs.YteieocddfnlmdaaGreatDoor
namespace Go.Proofs.YteieocddfnlmdaaGreatDoor
open Go.RowKit
set_option maxRecDepth 100000
theorem ZgN {W:World} {b:Nat} {k f r:Int} {m:Bool} {c:Int} (h:Blk W b 72 #[.int .i64 k,.int .i64 f,.int .i64 r,.bool m,.int .i64 c]):
 (∀n os,(wat W n os).cell? ⟨b,0,none⟩=some (.int .i64 k))∧(∀n os,(wat W n os).cell? ⟨b,1,none⟩=some (.int .i64 f))∧(∀n os,(wat W n os).cell? ⟨b,2,none⟩=some (.int .i64 r))∧(∀n os,(wat W n os).cell? ⟨b,3,none⟩=some (.bool m))∧(∀n os,(wat W n os).cell? ⟨b,4,none⟩=some (.int .i64 c)):=by
 obtain⟨c0,c1,c2,c3,c4⟩:=Zu h;exact⟨Zd c0,Zd c1,Zd c2,Zd c3,Zd c4⟩
theorem ZcD {α:Type} {p:α→Bool} {l:List α} {k:Nat} {x:α} (hx:l[k]? =some x) (hp:p x=false):l.all p=false:=by
 rw[List.all_eq_false];exact⟨x,List.mem_of_getElem? hx,by rw[hp];simp⟩
theorem Zd9 {α:Type} {p:α→Bool} {l:List α} (h: ∀(j:Nat) y,j<l.length→l[j]? =some y→p y=true):l.all p=true:=by
 rw[List.all_eq_true];intro x hx;obtain⟨j,hj⟩:=List.getElem?_of_mem hx;exact h j x (List.getElem?_eq_some_iff.1 hj).1 hj
theorem ZbN {α:Type} {p:α→Bool} {l:List α} {k:Nat} {x:α} (h: ∀(j:Nat) y,j<k→l[j]? =some y→p y=true) (hx:l[k]? =some x) (hp:p x=true): ∀(j:Nat) y,j<k+1→l[j]? =some y→p y=true:=fun j y hj hy=>by
 rcases Nat.lt_or_ge j k with h'|h'
 · exact h j y h' hy
 · obtain rfl:j=k:=by omega
   rw[hx] at hy;obtain rfl:=Option.some.inj hy;exact hp
theorem ZpA (l:List Nat) (a:Int) (h:ohE l a=0):hSz (ohK l a) (ohF l a) (ohR l a) (ohC l a)=osz (hAr l) a:=by
 have hm:=ZaX l a h;unfold hSz osz;exact if_pos hm
end Go.Proofs.YteieocddfnlmdaaGreatDoor
namespace Go.Proofs.YteieocddfnlmdaaGreatDoor
open Go.RowKit
set_option maxRecDepth 100000
theorem Zqo {s:St} (h:s.cf.ok) (h1:s.frm.1≤s.top) (h2:s.top≤s.frm.1+s.frm.2):usT s=s.top - s.frm.1:=by unfold usT;rw[if_pos ⟨h,decide_eq_true ⟨h1,h2⟩⟩]
theorem Zsp {s:St} (h: ¬(s.cf.ok∧s.frm.1≤s.top∧s.top≤s.frm.1+s.frm.2)):usT s=0:=by
 unfold usT;rw[if_neg];rintro⟨h1,h2⟩;exact h ⟨h1,of_decide_eq_true h2⟩
theorem Zdd (s:St):0≤s.frm.1∧s.frm.1≤32768∧0≤s.frm.2∧s.frm.2≤32768:=by
 unfold St.frm;by_cases h:s.cf.ok
 · have:=Zah h s.sec
   omega
 · unfold ZO ZcU
   simp[h]
theorem Zcb (w:World) (x y:Int): ∃W,w.alloc (.cells #[.int .i64 x,.int .i64 y] 51)=W∧Hid (Only nob w W∧Blk W w.heap.size 51 #[.int .i64 x,.int .i64 y]∧W.cell? ⟨w.heap.size,0,none⟩=some (.int .i64 x)∧W.cell? ⟨w.heap.size,1,none⟩=some (.int .i64 y)):=
 ⟨_,rfl,ZZ ⟨(Only.refl nob w).alloc _,Blk.new _ _ _,(Blk.new w 51 #[.int .i64 x,.int .i64 y]).cell 0,(Blk.new w 51 #[.int .i64 x,.int .i64 y]).cell 1⟩⟩
theorem Zh4 {w w':World} {B:Nat} {A:Option Addr} {c k:Nat} {l:List Nat} {x:Nat} (h:Sl w B 1 (.slice A l.length c) l.length (u64s l)) (hb:Below B w w') (hx:l[k]? =some x):
 ∃b o,A=some ⟨b,o,none⟩∧b<B∧w'.cell? ⟨b,o+k,none⟩=some (.int .u64 (x:Nat)):=by
 have hk:k<l.length:=(List.getElem?_eq_some_iff.1 hx).1;obtain⟨b,o,c',e,_,_,hlt,hc⟩:=(h.below hb).at_ (by omega)
 obtain⟨rfl,rfl⟩:A=some ⟨b,o,none⟩∧c=c':=by simpa using e
 refine⟨b,o,rfl,hlt,hc _ _ ?_⟩;simp[u64s,hx]
end Go.Proofs.YteieocddfnlmdaaGreatDoor
