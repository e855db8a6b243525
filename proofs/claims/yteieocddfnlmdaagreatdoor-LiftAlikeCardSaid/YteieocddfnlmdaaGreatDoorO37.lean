/- The document's own answer for layer 18: rows of -1; a graph The document's own answer for layer 18: values paired one by The document's own answer for layer 18: two nodes paired. (W -/
import Derived.Test.YteieocddfnlmdaaGreatDoorO36
set_option maxRecDepth 100000
set_option maxHeartbeats 32000000
set_option linter.unusedSimpArgs false
set_option linter.unusedVariables false
namespace Go.Proofs.YteieocddfnlmdaaGreatDoor
section
open Go.RowKit Go.Lib
theorem Zos {n k:Nat} (h:k<n):(List.replicate k (-1:Int)++List.replicate (n - k) 0).set k (-1)=List.replicate (k+1) (-1)++List.replicate (n - (k+1)) 0:=by
 apply List.ext_getElem?;intro i;rw[List.getElem?_set];by_cases e:k=i
 · subst e
   rw[if_pos rfl,if_pos (by simp;omega),List.getElem?_append_left (by simp),List.getElem?_replicate,if_pos (by omega)]
 · rw[if_neg e]
   by_cases h1:i<k
   · rw[List.getElem?_append_left (by simp;omega),List.getElem?_append_left (by simp;omega),List.getElem?_replicate,List.getElem?_replicate,if_pos h1,if_pos (by omega)]
   · rw[List.getElem?_append_right (by simp;omega),List.getElem?_append_right (by simp;omega),List.getElem?_replicate,List.getElem?_replicate,List.length_replicate,List.length_replicate]
     by_cases h2:i<n
     · rw[if_pos (by omega),if_pos (by omega)]
     · rw[if_neg (by omega),if_neg (by omega)]
theorem Sl.off18 {W U:World} {b sz n:Nat} {t:TypeId} {v:Value} {xs:List Value} (h:Sl W W.heap.size sz v n xs) (hB:Blk W b t #[.slice none 0 0,.slice none 0 0]) (o:Only (isb b) W U) (hi:0<n→ ∃k z,xs[0]? =some (.int k z)):Sl U U.heap.size sz v n xs:=by
 obtain⟨A,c,e,h1,h2,h3,h4⟩:=h;refine⟨A,c,e,h1,h2,h3,fun hn=>?_⟩;obtain⟨b',o',e',hlt,hc⟩:=h4 hn;obtain⟨k,z,hz⟩:=hi hn
 have hne:b'≠b:=by
  rintro rfl
  have:=hc 0 _ hz
  rw[hB.cell] at this
  match o',this with
  |0,this=>simp at this
  |1,this=>simp at this
  |n+2,this=>simp at this
 exact⟨b',o',e',Yw hlt o.size,fun j u hu=>(o.cell (p:=⟨b',o'+j,none⟩) hlt (fun e=>hne e)).trans (hc j u hu)⟩
theorem RdG.off18 {W U:World} {b:Nat} {t:TypeId} {g:Gr} {vn vr:Value} {hs:List (Value×Value)} (h:RdG W W.heap.size g vn vr hs) (hB:Blk W b t #[.slice none 0 0,.slice none 0 0]) (o:Only (isb b) W U):RdG U U.heap.size g vn vr hs:=by
 have hv: ∀l:List Sp,0<l.length→ ∃k z,(spc l)[0]? =some (.int k z):=fun l hl=>by
  cases l with
  |nil=>simp at hl
  |cons x l=>exact⟨_,_,rfl⟩
 refine⟨h.len,h.nodes.off18 hB o fun hn=>?_,fun i d hh h1 h2=>⟨(h.each i d hh h1 h2).fields.off18 hB o (hv _),(h.each i d hh h1 h2).raws.off18 hB o fun hn=>?_⟩,h.roots.off18 hB o (hv _)⟩
 · have hl:=h.len
   match g,hs,hn,hl with
   |⟨d::_,_⟩,x::_,_,_=>exact⟨_,_,rfl⟩
   |⟨d::_,_⟩,[],_,hl=>simp at hl
   |⟨[],_⟩,_,hn,_=>simp at hn
 · cases e:d.rs with
   |nil=>rw[e] at hn;simp at hn
   |cons x l=>exact⟨_,_,rfl⟩
theorem ZtN (n:Nat) (hn:n≤1000000) (W:World):
 Calls Tryz.prog 87 #[.int .i64 n] W fun e w'=>e=.returned (.slice (some ⟨W.heap.size,0,none⟩) n n)∧w'.ownsRow W.heap.size 3 1 (.slice (some ⟨W.heap.size,0,none⟩) n n) n (i64s (List.replicate n (-1)))∧Only nob W w':=by
 obtain⟨WM,hmk,om,hown⟩:=Zjn n hn W;have OM:=ZZ om;have HOW:=ZZ (show WM.ownsRow W.heap.size 3 1 (.slice (some ⟨W.heap.size,0,none⟩) n n) n (i64s (List.replicate 0 (-1)++List.replicate (n - 0) 0)) from hown)
 obtain⟨b,hb⟩: ∃b,b=W.heap.size:=⟨_,rfl⟩
 rw[← hb] at hmk HOW ⊢;have HB:=ZZ hb;clear om hown hb
 go_enter Tryz.func87,Tryz.ntmps87
 go_wp2_with fail
 clear hmk
 go_loopw [4] (fun i wr=> ∃k:Nat,k≤n∧i=.int .i64 k∧Hid (wr.ownsRow b 3 1 (.slice (some ⟨b,0,none⟩) n n) n (i64s (List.replicate k (-1)++List.replicate (n - k) 0)))∧Hid (Only nob W wr)) (fun i _=>n - (intOf i).toNat)
 case atStart=>exact⟨0,Yu _,rfl,HOW,OM⟩
 case round=>
  obtain⟨k,hk,rfl,HRW,HO⟩:=hrel;by_cases hlt:k<n
  · obtain⟨cs,hblk⟩:=Zac HRW.out (k:=b) rfl
    have f0:=hblk.free k
    obtain⟨z,hz⟩: ∃z,(List.replicate k (-1:Int)++List.replicate (n - k) 0)[k]? =some z:=⟨_,Ya (by simp;omega)⟩
    have g0:wr.cell? ⟨b,k,none⟩=some (.int .i64 z):=(HRW.out.cellAt k (by omega)).trans (Zd8 hz);have hset:=Zbn HRW.out k (by omega) (.int .i64 (-1));rw[Zd6,Zos hlt] at hset;have HSET:=ZZ hset;have ONX:=ZZ (HO.out.setCell (p:=⟨b,k,none⟩) (fun h=>absurd h (by rw[HB.out];exact Nat.lt_irrefl _)) (.int .i64 (-1)));clear hset hblk hz;go_wp2
    go_roundw
    case rel=>exact⟨k+1,by omega,by go_num,HSET,ONX⟩
    case measure=>simp[intOf];omega
  · obtain rfl:k=n:=by omega
    have HF:=ZZ (show wr.ownsRow b 3 1 (.slice (some ⟨b,0,none⟩) k k) k (i64s (List.replicate k (-1))) by have:=HRW.out;rw[Nat.sub_self,List.replicate_zero,List.append_nil] at this;exact this);go_wp2;go_ret;exact⟨rfl,HF.out,HO.out⟩
def Zvi (f:FuncId):Prop:= ∀(g:Gr) (vn vr:Value) (hs:List (Value×Value)) (B:Nat) (W:World),RdG W B g vn vr hs→B≤W.heap.size→GrFit g→g.nd.length≤1000→g.rt.length≤1000→
 Calls Tryz.prog f #[.agg #[vn,vr]] W fun e w'=> ∃un ur js,e=.returned (.tuple #[.agg #[un,ur],.int .i64 (ZbN g)])∧RdG w' w'.heap.size (ZhF g) un ur js∧Only nob W w'
theorem Zul {g:Gr}:rnE g (flatL g 0)=ZbN g:=by
 unfold ZbN;by_cases h:ZC g=true
 · rw[if_pos h];exact ZjG.2 (Zhb h)
 · rw[if_neg h];unfold rnE;rw[if_neg h]
theorem Zqe {g:Gr} (h:ZbN g≠0):ZhF g=⟨[],[]⟩:=by
 unfold ZhF rnG;rw[if_neg (by rw[Zul];exact h)]
theorem ZqW (g:Gr) (hn:g.nd.length≤1000): ∀x∈flatL g 0, -9223372036854775808≤x∧x≤9223372036854775807:=fun x hx=>by
 have h:x∈Zcf g:=by
  rw[← flat_rising g];exact List.mem_mergeSort.2 hx
 have:=(ZkV.1 h).2
 omega
theorem ZkG (g:Gr):(flatL g 0).length≤g.nd.length:=by
 rw[← reach_len];exact ZkL _ _
structure MPm (W:World) (p tb fb base:Nat) (an ar bn br:Value) (na nb:Nat) (s:MSt):Prop where
 box:Blk W p 133 #[an,ar,bn,br,.slice (some ⟨tb,0,none⟩) na na,.slice (some ⟨fb,0,none⟩) nb nb,.bool s.bad]
 pa:W.ownsRow base 3 1 (.slice (some ⟨tb,0,none⟩) na na) na (i64s s.pa)
 pb:W.ownsRow base 3 1 (.slice (some ⟨fb,0,none⟩) nb nb) nb (i64s s.pb)
 ne:tb≠fb
 hp:base≤p
 ht:base≤tb
 hf:base≤fb
section
variable {W w':World} {p tb fb base na nb:Nat} {an ar bn br:Value} {s:MSt}
theorem MPm.only (h:MPm W p tb fb base an ar bn br na nb s) (o:Only nob W w'):MPm w' p tb fb base an ar bn br na nb s:=
 ⟨h.box.keep o id,Zb h.pa o fun _ _ h=>h,Zb h.pb o fun _ _ h=>h,h.ne,h.hp,h.ht,h.hf⟩
theorem keep18 {b B i:Nat} {v:Value} (o:Only (ZfF base) W w') (hb:b<B) (hB:B≤base) (hW:base≤W.heap.size) (h:W.cell? ⟨b,i,none⟩=some v):w'.cell? ⟨b,i,none⟩=some v:=
 (o.cell (p:=⟨b,i,none⟩) (by show b<_;omega) (fun e=>by have e':base≤b:=e;omega)).trans h
theorem MPm.no (h:MPm W p tb fb base an ar bn br na nb s):MPm (W.setCell ⟨p,6,none⟩ (.bool true)) p tb fb base an ar bn br na nb s.no:=by
 have q1: ¬(Value.slice (some ⟨tb,0,none⟩) na na).ownBlock=some p:=fun e=>by
  obtain⟨cs,hb⟩:=Zac h.pa e;exact h.box.ne hb (by decide) rfl
 have q2: ¬(Value.slice (some ⟨fb,0,none⟩) nb nb).ownBlock=some p:=fun e=>by
  obtain⟨cs,hb⟩:=Zac h.pb e;exact h.box.ne hb (by decide) rfl
 exact⟨by simpa[MSt.no] using h.box.put 6 (.bool true),Zb h.pa (Zd W p 6 (.bool true)) (fun k hk e=>q1 (by rw[hk];exact congrArg some e)),Zb h.pb (Zd W p 6 (.bool true)) (fun k hk e=>q2 (by rw[hk];exact congrArg some e)),h.ne,h.hp,h.ht,h.hf⟩
end
def ZsX (p tb fb base B:Nat) (a b:Gr) (an ar bn br:Value) (hs js:List (Value×Value)) (n:Nat):Prop:= ∀(W:World) (s:MSt) (i k:Int),MPm W p tb fb base an ar bn br a.nd.length b.nd.length s→RdG W B a an ar hs→RdG W B b bn br js→base≤W.heap.size→MInv a b s→s.pa.count (-1)<n→(0≤i∧i<(a.nd.length:Int))→(0≤k∧k<(b.nd.length:Int))→s.bad=false→
 Calls Tryz.prog 130 #[.pointer (some ⟨p,0,none⟩),.int .i64 i,.int .i64 k] W fun e w'=>e=.returned (.tuple #[])∧MPm w' p tb fb base an ar bn br a.nd.length b.nd.length (Zbl a b n i k s)∧Only (ZfF base) W w'
def ZuH (p tb fb base B:Nat) (a b:Gr) (an ar bn br:Value) (hs js:List (Value×Value)) (n:Nat):Prop:= ∀(W:World) (s:MSt) (l m:List Sp) (vx vy:Value),MPm W p tb fb base an ar bn br a.nd.length b.nd.length s→RdG W B a an ar hs→RdG W B b bn br js→Sl W B 2 vx l.length (spc l)→Sl W B 2 vy m.length (spc m)→base≤W.heap.size→MInv a b s→s.pa.count (-1)<n→Za9 a.nd.length l→Za9 b.nd.length m→s.bad=false→
 Calls Tryz.prog 88 #[.pointer (some ⟨p,0,none⟩),vx,vy] W fun e w'=>e=.returned (.tuple #[])∧MPm w' p tb fb base an ar bn br a.nd.length b.nd.length (Zd9 (Zbl a b n) l m s)∧Only (ZfF base) W w'
theorem Zl3 {r:Int→Int→MSt→MSt} {l m:List Sp} {k:Nat} {x y:Sp} {t:MSt} (hx:l[k]? =some x) (hy:m[k]? =some y) (ht:t.bad=false):
 Za0 r (l.drop k) (m.drop k) t=if x.1≠y.1∨(x.1≠2∧x≠y) then t.no else Za0 r (l.drop (k+1)) (m.drop (k+1)) (if x.1=2 then r x.2 y.2 t else t):=by
 obtain⟨h1,h2⟩:=Yk.1 hx;obtain⟨h3,h4⟩:=Yk.1 hy;rw[List.drop_eq_getElem_cons h1,List.drop_eq_getElem_cons h3,h2,h4,Za0,if_neg (by rw[ht];decide)]
theorem Zw {base:Nat} {W w':World} (o:Only nob W w'):Only (ZfF base) W w':=o.mono fun _ _ h=>h.elim
theorem Zry {p tb fb base B:Nat} {a b:Gr} {an ar bn br:Value} {hs js:List (Value×Value)} (hB:B≤base) (ha:ZC a=true) (hb:ZC b=true) (n:Nat) (HPn:ZsX p tb fb base B a b an ar bn br hs js n):ZuH p tb fb base B a b an ar bn br hs js n:=by
 intro W s l m vx vy hM hra hrb hx hy hW hI hc hl hm hbad;have HX:=ZZ hx;have HY:=ZZ hy;obtain⟨A,c,rfl,hac,hcm⟩:=hx.form;obtain⟨A',c',rfl,hac',hcm'⟩:=hy.form;unfold maxLen at hcm hcm';have HM:=ZZ hM;have c6:W.cell? ⟨p,6,none⟩=some (.bool s.bad):=hM.box.cell 6;have f6:W.frozen? ⟨p,6,none⟩=false:=hM.box.free 6;have HP:=ZZ HPn;have HG:=ZZ (And.intro hra hrb);have HW:=ZZ (And.intro hB hW);have HL:=ZZ (And.intro hl hm);have HI:=ZZ (And.intro hI hc);have HAB:=ZZ (And.intro ha hb);clear hx hy hM HPn hra hrb hB hW hl hm hI hc ha hb;rw[hbad] at c6;by_cases hlen:l.length=m.length
 · obtain⟨F,hF⟩: ∃F,F=Zd9 (Zbl a b n) l m s:=⟨_,rfl⟩
   have HF:=ZZ (show Za0 (Zbl a b n) (l.drop 0) (m.drop 0) s=F by rw[hF];unfold Zd9;rw[if_pos hlen];rfl);rw[← hF]
   have hnb:((l.length:Int) !=(m.length:Int))=false:=by simp[hlen]
   have HLN:=ZZ hlen;clear hF
   go_enter Tryz.func88,Tryz.ntmps88
   go_wp2_with fail
   clear c6 f6 hnb hlen
   go_loopw [6] (fun vj wr=> ∃(k:Nat) (t:MSt),k≤l.length∧vj=.int .i64 k∧Hid (MPm wr p tb fb base an ar bn br a.nd.length b.nd.length t)∧Hid ((MInv a b t∧t.pa.count (-1)<n)∧Za0 (Zbl a b n) (l.drop k) (m.drop k) t=F)∧Hid (Only (ZfF base) W wr)) (fun vj _=>l.length - (intOf vj).toNat)
   case atStart=>exact⟨0,s,Yu _,rfl,HM,ZZ ⟨HI.out,HF.out⟩,ZZ (Only.refl _ _)⟩
   case round=>
    obtain⟨k,t,hk,rfl,HMP,HT,HO⟩:=hrel;have c6:wr.cell? ⟨p,6,none⟩=some (.bool t.bad):=HMP.out.box.cell 6;by_cases hlt:k<l.length
    · cases htb:t.bad with
      |true=>
       rw[htb] at c6;have HE:=ZZ (show t=F by have:=HT.out.2;rwa [ZbU _ _ _ _ htb] at this);go_wp2
       go_end0
       exact⟨rfl,by rw[← HE.out];exact HMP.out,HO.out⟩
      |false=>
       rw[htb] at c6
       have hlm:k<m.length:=by have:=HLN.out;omega
       obtain⟨⟨x1,x2⟩,hx⟩: ∃x,l[k]? =some x:=⟨_,Ya hlt⟩
       obtain⟨⟨y1,y2⟩,hy⟩: ∃x,m[k]? =some x:=⟨_,Ya hlm⟩
       have HE:=ZZ (HT.out.2.symm.trans (Zl3 hx hy htb));have HXY:=ZZ (fun (W':World) (o:Only (ZfF base) W W')=>And.intro (sl_span HX.out (o.below (Yi HW.out.1 HW.out.2) fun _ h=>Yi HW.out.1 h) hx) (sl_span HY.out (o.below (Yi HW.out.1 HW.out.2) fun _ h=>Yi HW.out.1 h) hy));obtain⟨⟨bx,ox,rfl,hbx,g0,g1⟩,⟨cy,oy,rfl,hby,h0,h1⟩⟩:=HXY.out wr HO.out;simp only at g0 g1 h0 h1;have HK:=ZZ (fun (W':World) (o:Only (ZfF base) wr W')=>And.intro (And.intro (keep18 o hbx HW.out.1 (Yi HW.out.2 HO.out.size) g0) (keep18 o hbx HW.out.1 (Yi HW.out.2 HO.out.size) g1)) (And.intro (keep18 o hby HW.out.1 (Yi HW.out.2 HO.out.size) h0) (keep18 o hby HW.out.1 (Yi HW.out.2 HO.out.size) h1)));have HLX:=ZZ (HL.out.1 (x1,x2) (Yo hx));have HLY:=ZZ (HL.out.2 (y1,y2) (Yo hy))
       clear hx hy HXY hbx hby
       by_cases hne:x1=y1
       · subst hne
         by_cases h2:x1=2
         · subst h2
           have HF2:=ZZ (show F=Za0 (Zbl a b n) (l.drop (k+1)) (m.drop (k+1)) (Zbl a b n x2 y2 t) by
            have:=HE.out
            rw[if_neg (by simp),if_pos rfl] at this
            exact this)
           have hxr:=HLX.out rfl;have hyr:=HLY.out rfl;have HI2:=ZZ (Zkw HAB.out.1 HAB.out.2 n x2 y2 t HT.out.1.1 hxr hyr);have HC:=ZZ (fun (W':World) (o:Only nob wr W')=>HP.out W' t x2 y2 (HMP.out.only o) (HG.out.1.below ((HO.out.trans (Zw o)).below (Yi HW.out.1 HW.out.2) fun _ h=>Yi HW.out.1 h)) (HG.out.2.below ((HO.out.trans (Zw o)).below (Yi HW.out.1 HW.out.2) fun _ h=>Yi HW.out.1 h)) (Yi HW.out.2 (HO.out.trans (Zw o)).size) HT.out.1.1 HT.out.1.2 hxr hyr htb);go_wp2
           go_quiet (fail)
           have OQ:=ZZ ((Only.refl nob wr).drewN nq);generalize wr.drewN nq=wq at OQ ⊢;clear g0 g1 h0 h1 c6;obtain⟨⟨g0,g1⟩,h0,h1⟩:=HK.out wq (Zw OQ.out);have HS0:=ZZ (show ∀W',Only nob wr W'→W'.cell? ⟨bx,ox+k * 2,none⟩=some (.int .i64 2)∧W'.cell? ⟨bx,ox+k * 2+1,none⟩=some (.int .i64 x2)∧W'.cell? ⟨cy,oy+k * 2,none⟩=some (.int .i64 2)∧W'.cell? ⟨cy,oy+k * 2+1,none⟩=some (.int .i64 y2) from fun W' o=>⟨(HK.out W' (Zw o)).1.1,(HK.out W' (Zw o)).1.2,(HK.out W' (Zw o)).2.1,(HK.out W' (Zw o)).2.2⟩);have HS1:=ZZ (show ∀W',Only (ZfF base) wr W'→W'.cell? ⟨bx,ox+k * 2,none⟩=some (.int .i64 2)∧W'.cell? ⟨bx,ox+k * 2+1,none⟩=some (.int .i64 x2)∧W'.cell? ⟨cy,oy+k * 2,none⟩=some (.int .i64 2)∧W'.cell? ⟨cy,oy+k * 2+1,none⟩=some (.int .i64 y2) from fun W' o=>⟨(HK.out W' o).1.1,(HK.out W' o).1.2,(HK.out W' o).2.1,(HK.out W' o).2.2⟩);have OC:=ZZ (show Only nob wr (World.drew wq) from OQ.out.drewN 1);have mixed:=ZbV
           go_upto_region 8 with fail
           go_region_held3 (fun w'=>w'.cell? ⟨bx,ox+k * 2,none⟩=some (.int .i64 2)∧w'.cell? ⟨bx,ox+k * 2+1,none⟩=some (.int .i64 x2)∧w'.cell? ⟨cy,oy+k * 2,none⟩=some (.int .i64 2)∧w'.cell? ⟨cy,oy+k * 2+1,none⟩=some (.int .i64 y2)) (first|(with_reducible exact HS0.out _ OC.out)|(with_reducible exact HS1.out _ OC.out)|go_keep)
            (first
              |(go_at_call 130
                with_reducible refine(HC.out _ OC.out).mono ?_
                rintro e wt ⟨rfl,hmp,o⟩;have HMT:=ZZ hmp;have OC:=ZZ ((Zw OC.out).trans o)
                clear o hmp))
           all_goals
            have OE:=ZZ (HO.out.trans OC.out);go_wp2
            go_roundw
            case rel=>exact⟨k+1,_,by omega,by go_num,HMT,ZZ ⟨⟨HI2.out.1,Nat.lt_of_le_of_lt HI2.out.2 HT.out.1.2⟩,HF2.out.symm⟩,OE⟩
            case measure=>simp[intOf];omega
         · have hbq:(x1==2)=false:=by simpa using h2
           have hbn:(x1 !=2)=true:=by simpa using h2
           by_cases hx2:x2=y2
           · subst hx2
             have HF2:=ZZ (show Za0 (Zbl a b n) (l.drop (k+1)) (m.drop (k+1)) t=F by
              have:=HE.out
              rw[if_neg (by simp),if_neg h2] at this
              exact this.symm)
             clear h2;go_wp2
             go_quiet (fail)
             have OQ:=ZZ ((Only.refl nob wr).drewN nq);generalize wr.drewN nq=wq at OQ ⊢;clear g0 g1 h0 h1 c6;obtain⟨⟨g0,g1⟩,h0,h1⟩:=HK.out wq (Zw OQ.out);go_wp2
             go_roundw
             case rel=>exact⟨k+1,t,by omega,by go_num,ZZ (HMP.out.only OQ.out),ZZ ⟨HT.out.1,HF2.out⟩,ZZ (HO.out.trans (Zw OQ.out))⟩
             case measure=>simp[intOf];omega
           · have HF2:=ZZ (show F=t.no by
              have:=HE.out
              rw[if_pos (.inr ⟨h2,fun e=>hx2 (congrArg Prod.snd e)⟩)] at this
              exact this)
             clear h2;go_wp2
             go_quiet (fail)
             have OQ:=ZZ ((Only.refl nob wr).drewN nq);generalize wr.drewN nq=wq at OQ ⊢;clear g0 g1 h0 h1 c6;have HMQ:=ZZ (HMP.out.only OQ.out);have c6:wq.cell? ⟨p,6,none⟩=some (.bool t.bad):=HMQ.out.box.cell 6;have f6:wq.frozen? ⟨p,6,none⟩=false:=HMQ.out.box.free 6;have HN:=ZZ HMQ.out.no;have ON:=ZZ (show Only (ZfF base) wr (wq.setCell ⟨p,6,none⟩ (.bool true)) from Only.setCell (F:=ZfF base) (p:=⟨p,6,none⟩) (Zw OQ.out) (fun _=>(show base≤p from HMQ.out.hp)) _);go_wp2;refine bodyPost_ret (results_none rfl _ _ _) rfl ?_;exact⟨rfl,by rw[HF2.out];exact HN.out,HO.out.trans ON.out⟩
       · have hbn:(x1 !=y1)=true:=by simpa using hne
         have HF2:=ZZ (show F=t.no by
          have:=HE.out
          rw[if_pos (.inl hne)] at this
          exact this)
         clear hne;go_wp2
         go_quiet (fail)
         have OQ:=ZZ ((Only.refl nob wr).drewN nq);generalize wr.drewN nq=wq at OQ ⊢;clear g0 g1 h0 h1 c6;have HMQ:=ZZ (HMP.out.only OQ.out);have c6:wq.cell? ⟨p,6,none⟩=some (.bool t.bad):=HMQ.out.box.cell 6;have f6:wq.frozen? ⟨p,6,none⟩=false:=HMQ.out.box.free 6;have HN:=ZZ HMQ.out.no;have ON:=ZZ (show Only (ZfF base) wr (wq.setCell ⟨p,6,none⟩ (.bool true)) from Only.setCell (F:=ZfF base) (p:=⟨p,6,none⟩) (Zw OQ.out) (fun _=>(show base≤p from HMQ.out.hp)) _);go_wp2;refine bodyPost_ret (results_none rfl _ _ _) rfl ?_;exact⟨rfl,by rw[HF2.out];exact HN.out,HO.out.trans ON.out⟩
    · obtain rfl:k=l.length:=by omega
      have HE:=ZZ (show t=F by have:=HT.out.2;rwa [List.drop_length,Za0] at this);go_wp2
      go_end0
      exact⟨rfl,by rw[← HE.out];exact HMP.out,HO.out⟩
 · have HE:=ZZ (show Zd9 (Zbl a b n) l m s=s.no by unfold Zd9;rw[if_neg hlen,ZbU _ _ _ _ rfl])
   have hnb:((l.length:Int) !=(m.length:Int))=true:=by simp;omega
   rw[HE.out];have HN:=ZZ HM.out.no;have ON:=ZZ (show Only (ZfF base) W (W.setCell ⟨p,6,none⟩ (.bool true)) from(Only.refl _ W).setCell (fun _=>HM.out.hp) _)
   obtain⟨W1,hW1⟩: ∃W1,W.setCell ⟨p,6,none⟩ (.bool true)=W1:=⟨_,rfl⟩
   have HW1:=ZZ hW1;rw[hW1] at HN ON;have d6:W1.cell? ⟨p,6,none⟩=some (.bool true):=HN.out.box.cell 6;clear hW1
   go_enter Tryz.func88,Tryz.ntmps88
   go_upto_region 2 with fail
   rw[HW1.out];clear c6 f6 hnb
   go_wp2_with fail
   go_loopw [6] (fun vj wr=>vj=.int .i64 0∧wr=W1) (fun vj _=>0)
   case atStart=>exact⟨rfl,rfl⟩
   case round=>
    obtain⟨rfl,rfl⟩:=hrel;by_cases h0:0<l.length
    · go_wp2
      go_end0
      exact⟨rfl,HN.out,ON.out⟩
    · obtain h0':l.length=0:=by omega
      go_wp2
      go_end0
      exact⟨rfl,HN.out,ON.out⟩
end
section
open Go.RowKit Go.Lib
section
variable {W w':World} {p tb fb base na nb:Nat} {an ar bn br:Value} {s:MSt}
theorem MPm.put (h:MPm W p tb fb base an ar bn br na nb s) {x y:Nat} (hx:x<na) (hy:y<nb):MPm ((W.setCell ⟨tb,x,none⟩ (.int .i64 (y:Int))).setCell ⟨fb,y,none⟩ (.int .i64 (x:Int))) p tb fb base an ar bn br na nb (s.put x y):=by
 obtain⟨c1,b1⟩:=Zac h.pa (k:=tb) rfl;obtain⟨c2,b2⟩:=Zac h.pb (k:=fb) rfl;have n1:p≠tb:=h.box.ne b1 (by decide);have n2:p≠fb:=h.box.ne b2 (by decide);have q1:=Zbn h.pa x (by omega) (.int .i64 (y:Int));rw[Zd6] at q1
 have q2:=Zb q1 (Zd _ fb y (.int .i64 (x:Int))) (fun k hk e=>h.ne (by
  have e1:tb=k:=Yp hk;have e2:k=fb:=e
  omega))
 have q3:=Zb h.pb (Zd W tb x (.int .i64 (y:Int))) (fun k hk e=>h.ne (by
  have e1:fb=k:=Yp hk;have e2:k=tb:=e
  omega))
 have q4:=Zbn q3 y (by omega) (.int .i64 (x:Int));rw[Zd6] at q4;exact⟨((h.box.other (p:=⟨tb,x,none⟩) (fun e=>n1 e.symm) _).other (p:=⟨fb,y,none⟩) (fun e=>n2 e.symm) _),q2,q4,h.ne,h.hp,h.ht,h.hf⟩
end
theorem ndAt_is18 {g:Gr} {n:Nat} {d:Nd} (h:g.nd[n]? =some d):Zax g (n:Int)=d:=by
 unfold Zax;rw[Int.toNat_natCast,Yn,h];rfl
theorem Zui {p tb fb base B:Nat} {a b:Gr} {an ar bn br:Value} {hs js:List (Value×Value)} (hB:B≤base) (ha:ZC a=true) (hb:ZC b=true) (n:Nat) (HVn:ZuH p tb fb base B a b an ar bn br hs js n):ZsX p tb fb base B a b an ar bn br hs js (n+1):=by
 intro W s i k hM hra hrb hW hI hc hi hk hbad
 obtain⟨x,rfl⟩: ∃x:Nat,i=x:=⟨i.toNat,by omega⟩
 obtain⟨y,rfl⟩: ∃y:Nat,k=y:=⟨k.toNat,by omega⟩
 have hx:x<a.nd.length:=by omega
 have hy:y<b.nd.length:=by omega
 obtain⟨A,ca,rfl,hac,hcm⟩:=hra.nodes.form;obtain⟨A',cb,rfl,hbc,hcm'⟩:=hrb.nodes.form;unfold maxLen at hcm hcm';have HM:=ZZ hM;have HPM:=ZZ (show Zbl a b (n+1) x y s=_ from Zbl.eq_2 a b x y s n)
 obtain⟨t,ht⟩: ∃t,s.pa[x]? =some t:=⟨_,Ya (by rw[hI.tl];exact hx)⟩
 obtain⟨u,hu⟩: ∃u,s.pb[y]? =some u:=⟨_,Ya (by rw[hI.fl];exact hy)⟩
 have et:s.pa.getD x (-1)=t:=by rw[Yn,ht];rfl
 have eu:s.pb.getD y (-1)=u:=by rw[Yn,hu];rfl
 have c4:W.cell? ⟨p,4,none⟩=some (.slice (some ⟨tb,0,none⟩) a.nd.length a.nd.length):=hM.box.cell 4;have c5:W.cell? ⟨p,5,none⟩=some (.slice (some ⟨fb,0,none⟩) b.nd.length b.nd.length):=hM.box.cell 5;have f6:W.frozen? ⟨p,6,none⟩=false:=hM.box.free 6;have c6:W.cell? ⟨p,6,none⟩=some (.bool s.bad):=hM.box.cell 6;have gt:W.cell? ⟨tb,x,none⟩=some (.int .i64 t):=(hM.pa.cellAt x (by omega)).trans (Zd8 ht);have gu:W.cell? ⟨fb,y,none⟩=some (.int .i64 u):=(hM.pb.cellAt y (by omega)).trans (Zd8 hu);have HN:=ZZ hM.no;have ON:=ZZ (show Only (ZfF base) W (W.setCell ⟨p,6,none⟩ (.bool true)) from Only.setCell (F:=ZfF base) (p:=⟨p,6,none⟩) (Only.refl _ W) (fun _=>(show base≤p from hM.hp)) _);have hways:=hI.ways hx hy;rw[et,eu] at hways;rw[show((x:Int)).toNat=x from rfl,show((y:Int)).toNat=y from rfl,et,eu] at HPM;rw[HPM.out];have TM:=ZZ (fun (h:s.pa[x]? =some (-1))=>Yp (ht.symm.trans h));have UM:=ZZ (fun (h:s.pb[y]? =some (-1))=>Yp (hu.symm.trans h));clear HPM et eu ht hu hM
 rcases hways with⟨e1,e2, -⟩|⟨e1,e2, -⟩|⟨e1,e2,e3,e4⟩
 · subst e1 e2
   rw[if_pos ⟨rfl,rfl⟩]
   go_enter Tryz.func130,Tryz.ntmps130
   go_wp2;refine bodyPost_ret (results_none rfl _ _ _) rfl ?_;exact⟨rfl,HM.out,Only.refl _ _⟩
 · rw[if_neg e1,if_pos e2]
   by_cases h1:t=(y:Int)
   · subst h1
     have hbq:(u==(x:Int))=false:=by simpa using fun e=>e1 ⟨rfl,e⟩
     clear e1 e2
     go_enter Tryz.func130,Tryz.ntmps130
     go_wp2;refine bodyPost_ret (results_none rfl _ _ _) rfl ?_;exact⟨rfl,HN.out,ON.out⟩
   · have hbq:(t==(y:Int))=false:=by simpa using h1
     clear e1;by_cases h2:0≤t
     · go_enter Tryz.func130,Tryz.ntmps130
       go_wp2;refine bodyPost_ret (results_none rfl _ _ _) rfl ?_;exact⟨rfl,HN.out,ON.out⟩
     · have h3:0≤u:=by omega
       go_enter Tryz.func130,Tryz.ntmps130
       go_wp2;refine bodyPost_ret (results_none rfl _ _ _) rfl ?_;exact⟨rfl,HN.out,ON.out⟩
 · rw[if_neg e1,if_neg e2]
   obtain rfl:t= -1:=TM.out e3;obtain rfl:u= -1:=UM.out e4
   have hbq:((-1:Int)==(y:Int))=false:=by simp
   have HPI:=ZZ (hI.put e3 e4).1;have HCN:=ZZ (show(s.put x y).pa.count (-1)<n by have:=ZfA (x:=x) (y:=(y:Int)) e3 (by omega);have e:(s.put x y).pa=s.pa.set x (y:Int):=rfl;rw[e];omega);have HPUT:=ZZ (HM.out.put hx hy);have OPUT:=ZZ (show Only (ZfF base) W _ from Only.setCell (F:=ZfF base) (p:=⟨fb,y,none⟩) (Only.setCell (F:=ZfF base) (p:=⟨tb,x,none⟩) (Only.refl _ W) (fun _=>(show base≤tb from HM.out.ht)) (.int .i64 (y:Int))) (fun _=>(show base≤fb from HM.out.hf)) (.int .i64 (x:Int)));obtain⟨c1,b1⟩:=Zac HM.out.pa (k:=tb) rfl;obtain⟨c2,b2⟩:=Zac HM.out.pb (k:=fb) rfl;have ft:=b1.free x
   obtain⟨W4,hW4⟩: ∃W4,W.setCell ⟨tb,x,none⟩ (.int .i64 (y:Int))=W4:=⟨_,rfl⟩
   have O4:Only (isb tb) W W4:=hW4▸Zd W tb x _;have n1:p≠tb:=HM.out.box.ne b1 (by decide);have d5:W4.cell? ⟨p,5,none⟩=some (.slice (some ⟨fb,0,none⟩) b.nd.length b.nd.length):=(O4.cell (p:=⟨p,5,none⟩) HM.out.box.lt (fun e=>n1 e)).trans c5;have b4:Blk W4 fb 3 c2:=b2.keep O4 (fun e=>HM.out.ne (by have e':fb=tb:=e;omega));have gu4:W4.cell? ⟨fb,y,none⟩=some (.int .i64 (-1)):=(O4.cell (p:=⟨fb,y,none⟩) b2.lt (fun e=>HM.out.ne (by have e':fb=tb:=e;omega))).trans gu;have fu4:=b4.free y;have HW4:=ZZ hW4;rw[hW4] at HPUT OPUT
   obtain⟨W5,hW5⟩: ∃W5,W4.setCell ⟨fb,y,none⟩ (.int .i64 (x:Int))=W5:=⟨_,rfl⟩
   have HW5:=ZZ hW5;rw[hW5] at HPUT OPUT;clear hW4 hW5 O4 b1 b2 b4 n1 e1 e2 e3 e4 f6 c6
   obtain⟨d,hd⟩: ∃z,a.nd[x]? =some z:=⟨_,Ya hx⟩
   obtain⟨e,he⟩: ∃z,b.nd[y]? =some z:=⟨_,Ya hy⟩
   rw[ndAt_is18 hd,ndAt_is18 he]
   obtain⟨F,hF⟩: ∃F,F=(if d.kd≠e.kd∨d.rs≠e.rs then(s.put x y).no else Zd9 (Zbl a b n) d.fs e.fs (s.put x y)):=⟨_,rfl⟩
   rw[← hF];have HF:=ZZ hF;clear hF;have HLD:=ZZ (And.intro (ndAt_is18 hd▸leads_nd ha hi) (ndAt_is18 he▸leads_nd hb hk));have HRA:=ZZ (hra.below (OPUT.out.below (Yi hB hW) fun _ h=>Yi hB h));have HRB:=ZZ (hrb.below (OPUT.out.below (Yi hB hW) fun _ h=>Yi hB h));have q0:W5.cell? ⟨p,0,none⟩=some (.slice A a.nd.length ca):=HPUT.out.box.cell 0;have q2:W5.cell? ⟨p,2,none⟩=some (.slice A' b.nd.length cb):=HPUT.out.box.cell 2;obtain⟨ba,oa,fva,rva,rfl,hba,hha,g0,g1,g2,NA⟩:=HRA.out.at_ (Below.refl _ _) hd;obtain⟨bb,ob,fvb,rvb,rfl,hbb,hhb,h0,h1,h2,NB⟩:=HRB.out.at_ (Below.refl _ _) he;obtain⟨Fa,fca,e1, -,m1⟩:=NA.fields.form;obtain⟨Fb,fcb,e2, -,m2⟩:=NB.fields.form;obtain⟨Ra,rca,e3, -,m3⟩:=NA.raws.form;obtain⟨Rb,rcb,e4, -,m4⟩:=NB.raws.form;simp only at e1 e2 e3 e4;subst e1 e2 e3 e4;have HNA:=ZZ NA;have HNB:=ZZ NB;clear NA NB hha hhb hra hrb m1 m2 m3 m4 hba hbb
   go_enter Tryz.func130,Tryz.ntmps130
   go_upto_region 4 with fail
   rw[HW4.out];clear c4 c5 gt gu ft hbq
   go_upto_region 5 with fail
   rw[HW5.out];clear d5 gu4 fu4;have HS0:=ZZ (show ∀W':World,Only nob W5 W'→(fun w':World=>w'.cell? ⟨p,0,none⟩=some (.slice (some ⟨ba,oa,none⟩) a.nd.length ca)∧w'.cell? ⟨p,2,none⟩=some (.slice (some ⟨bb,ob,none⟩) b.nd.length cb)∧w'.cell? ⟨ba,oa+x * 3,none⟩=some (.int .i64 d.kd)∧w'.cell? ⟨ba,oa+x * 3+1,none⟩=some (.slice Fa d.fs.length fca)∧w'.cell? ⟨ba,oa+x * 3+2,none⟩=some (.slice Ra d.rs.length rca)∧w'.cell? ⟨bb,ob+y * 3,none⟩=some (.int .i64 e.kd)∧w'.cell? ⟨bb,ob+y * 3+1,none⟩=some (.slice Fb e.fs.length fcb)∧w'.cell? ⟨bb,ob+y * 3+2,none⟩=some (.slice Rb e.rs.length rcb)) W' from fun W' o=>⟨o.keeps q0,o.keeps q2,o.keeps g0,o.keeps g1,o.keeps g2,o.keeps h0,o.keeps h1,o.keeps h2⟩)
   go_cut [6,7] (fun s6 s7 wx=> ∃b6 b7:Nat,s6=.pointer (some ⟨b6,0,none⟩)∧s7=.pointer (some ⟨b7,0,none⟩)∧Hid (Blk wx b6 54 #[.int .i64 d.kd,.slice Fa d.fs.length fca,.slice Ra d.rs.length rca]∧Blk wx b7 54 #[.int .i64 e.kd,.slice Fb e.fs.length fcb,.slice Rb e.rs.length rcb]∧Only nob W5 wx))
   case first=>
    have mixed:=ZbV
    go_region_held3 (fun w':World=>w'.cell? ⟨p,0,none⟩=some (.slice (some ⟨ba,oa,none⟩) a.nd.length ca)∧w'.cell? ⟨p,2,none⟩=some (.slice (some ⟨bb,ob,none⟩) b.nd.length cb)∧w'.cell? ⟨ba,oa+x * 3,none⟩=some (.int .i64 d.kd)∧w'.cell? ⟨ba,oa+x * 3+1,none⟩=some (.slice Fa d.fs.length fca)∧w'.cell? ⟨ba,oa+x * 3+2,none⟩=some (.slice Ra d.rs.length rca)∧w'.cell? ⟨bb,ob+y * 3,none⟩=some (.int .i64 e.kd)∧w'.cell? ⟨bb,ob+y * 3+1,none⟩=some (.slice Fb e.fs.length fcb)∧w'.cell? ⟨bb,ob+y * 3+2,none⟩=some (.slice Rb e.rs.length rcb)) (first|(with_reducible exact HS0.out _ ((Only.refl nob W5).drewN 1))|((with_reducible refine HS0.out _ ?_);(repeat' (first|exact Only.refl _ _|refine Only.alloc ?_ _|refine Only.drewN ?_ 1|refine Only.setCell ?_ (fun h=>absurd h (by simp)) _));done)|go_keep) (fail)
    all_goals (go_wp2;go_meet;refine⟨_,_,rfl,rfl,ZZ ⟨?_,?_,?_⟩⟩)
    all_goals first
     |exact(((Only.refl nob W5).alloc _).alloc _).drewN 1
     |exact(Blk.new W5 _ _).alloc _
     |exact Blk.newAt _ _ _ _ (by simp)
   case rest=>
   obtain⟨b6,b7,rfl,rfl,HC⟩:=hcut;clear q0 q2 g0 g1 g2 h0 h1 h2 HS0;have HX:=ZZ (fun (W':World) (o:Only nob W5 W')=>HPUT.out.only o);have k0:wc.cell? ⟨b6,0,none⟩=some (.int .i64 d.kd):=HC.out.1.cell 0;have k1:wc.cell? ⟨b6,1,none⟩=some (.slice Fa d.fs.length fca):=HC.out.1.cell 1;have k2:wc.cell? ⟨b6,2,none⟩=some (.slice Ra d.rs.length rca):=HC.out.1.cell 2;have l0:wc.cell? ⟨b7,0,none⟩=some (.int .i64 e.kd):=HC.out.2.1.cell 0;have l1:wc.cell? ⟨b7,1,none⟩=some (.slice Fb e.fs.length fcb):=HC.out.2.1.cell 1;have l2:wc.cell? ⟨b7,2,none⟩=some (.slice Rb e.rs.length rcb):=HC.out.2.1.cell 2;have c6:wc.cell? ⟨p,6,none⟩=some (.bool (s.put x y).bad):=(HX.out wc HC.out.2.2).box.cell 6;have f6:wc.frozen? ⟨p,6,none⟩=false:=(HX.out wc HC.out.2.2).box.free 6;by_cases hkd:d.kd=e.kd
   · have hnb:(d.kd !=e.kd)=false:=by simpa using hkd
     have hW5:base≤W5.heap.size:=Yi hW OPUT.out.size;have HSM:=ZZ (ZqX _ _ d.rs e.rs B B wc (HNA.out.raws.below (HC.out.2.2.below (Yi hB hW5) fun _ h=>h.elim)) (HNB.out.raws.below (HC.out.2.2.below (Yi hB hW5) fun _ h=>h.elim)));by_cases hrs:d.rs=e.rs
     · have HE:=ZZ (HF.out.trans (if_neg (fun h=>Or.elim h (fun h=>h hkd) (fun h=>h hrs))))
       rw[Ym hrs] at HSM;clear hrs hkd
       go_wp2_with fail
       go_at_call 41;refine HSM.out.mono ?_;rintro e' w7 ⟨rfl,o7⟩;have O7:=ZZ (HC.out.2.2.trans o7);have k1':=o7.keeps k1;have l1':=o7.keeps l1;clear o7 k0 k1 k2 l0 l1 l2 c6 f6 hnb;have HV:=ZZ (HVn w7 (s.put x y) d.fs e.fs (.slice Fa d.fs.length fca) (.slice Fb e.fs.length fcb) (HX.out w7 O7.out) (HRA.out.below (O7.out.below (Yi hB hW5) fun _ h=>h.elim)) (HRB.out.below (O7.out.below (Yi hB hW5) fun _ h=>h.elim)) (HNA.out.fields.below (O7.out.below (Yi hB hW5) fun _ h=>h.elim)) (HNB.out.fields.below (O7.out.below (Yi hB hW5) fun _ h=>h.elim)) (Yi hW5 O7.out.size) HPI.out HCN.out HLD.out.1 HLD.out.2 hbad)
       go_wp2_with fail
       go_at_call 88;refine HV.out.mono ?_;rintro e' w8 ⟨rfl,hmp,o8⟩;have HMP8:=ZZ hmp;have O8:=ZZ ((OPUT.out.trans (Zw O7.out)).trans o8);clear hmp o8 k1' l1';go_wp2
       go_end0
       exact⟨rfl,by rw[HE.out];exact HMP8.out,O8.out⟩
     · have HE:=ZZ (HF.out.trans (if_pos (.inr hrs)))
       rw[Yl hrs] at HSM;clear hrs hkd
       go_wp2_with fail
       go_at_call 41;refine HSM.out.mono ?_;rintro e' w7 ⟨rfl,o7⟩;have O7:=ZZ (HC.out.2.2.trans o7);have c6:w7.cell? ⟨p,6,none⟩=some (.bool (s.put x y).bad):=(HX.out w7 O7.out).box.cell 6;have f6:w7.frozen? ⟨p,6,none⟩=false:=(HX.out w7 O7.out).box.free 6;have HN7:=ZZ (HX.out w7 O7.out).no;have ON7:=ZZ (show Only (ZfF base) W (w7.setCell ⟨p,6,none⟩ (.bool true)) from Only.setCell (F:=ZfF base) (p:=⟨p,6,none⟩) (OPUT.out.trans (Zw O7.out)) (fun _=>(show base≤p from HM.out.hp)) _);clear o7 k0 k1 k2 l0 l1 l2 hnb;go_wp2;refine bodyPost_ret (results_none rfl _ _ _) rfl ?_;exact⟨rfl,by rw[HE.out];exact HN7.out,ON7.out⟩
   · have hnb:(d.kd !=e.kd)=true:=by simpa using hkd
     have HE:=ZZ (HF.out.trans (if_pos (.inl hkd)));have HN7:=ZZ (HX.out wc HC.out.2.2).no;have ON7:=ZZ (show Only (ZfF base) W (wc.setCell ⟨p,6,none⟩ (.bool true)) from Only.setCell (F:=ZfF base) (p:=⟨p,6,none⟩) (OPUT.out.trans (Zw HC.out.2.2)) (fun _=>(show base≤p from HM.out.hp)) _);clear hkd;go_wp2;refine bodyPost_ret (results_none rfl _ _ _) rfl ?_;exact⟨rfl,by rw[HE.out];exact HN7.out,ON7.out⟩
end
end Go.Proofs.YteieocddfnlmdaaGreatDoor
