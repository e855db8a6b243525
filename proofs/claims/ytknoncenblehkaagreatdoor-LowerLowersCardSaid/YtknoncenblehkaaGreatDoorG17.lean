/- Contracts of the document's own answers for tables: Add, Fin -/
import Derived.Test.YtknoncenblehkaaGreatDoorG16
set_option maxRecDepth 100000
set_option maxHeartbeats 32000000
set_option linter.unusedSimpArgs false
set_option linter.unusedVariables false
namespace Go.Proofs.YtknoncenblehkaaGreatDoor
open Go.RowKit Go.Lib
theorem Zd5 (va vb:Value) (l m:List Sp) (B B':Nat) (w:World) (ha:Sl w B 2 va l.length (spc l)) (hb:Sl w B' 2 vb m.length (spc m)):
 Calls Tryz.prog 35 #[va,vb] w fun e w'=>e=.returned (.bool (decide (l=m)))∧Only nob w w':=by
 have HA:=ZZ ha;have HB:=ZZ hb;obtain⟨A,ca,rfl,hac,ham, -⟩:=ha;obtain⟨A',cb,rfl,hbc,hbm, -⟩:=hb;unfold maxLen at ham hbm;by_cases hlen:l.length=m.length
 · have HL:=ZZ hlen
   rw[← hlen] at hbc ⊢;clear hlen
   go_enter Tryz.func35,Tryz.ntmps35
   go_wp2
   go_loopw [5] (fun i wr=> ∃k m':Nat,k≤l.length∧i=.int .i64 k∧Hid (∀(j:Nat) x,j<k→l[j]? =some x→m[j]? =some x)∧wr=w.drewN m') (fun i _=>l.length - (intOf i).toNat)
   case atStart=>exact⟨0,0,Yt _,rfl,fun j _ hj _=>absurd hj (Nat.not_lt_zero j),rfl⟩
   case round=>
    obtain⟨k,m',hk,rfl,hno,rfl⟩:=hrel;by_cases hlt:k<l.length
    · obtain⟨x,hx⟩: ∃x,l[k]? =some x:=⟨_,Ya hlt⟩
      obtain⟨y,hy⟩: ∃y,m[k]? =some y:=⟨_,Ya (by rw[← HL.out];exact hlt)⟩
      obtain⟨b1,o1,rfl, -,c0,c1⟩:=Zy HA.out (Below.refl _ _) hx;obtain⟨b2,o2,rfl, -,d0,d1⟩:=Zy HB.out (Below.refl _ _) hy;have HX:=ZZ hx;have HY:=ZZ hy;clear hx hy;by_cases h1:x.1=y.1
      · by_cases h2:x.2=y.2
        · obtain rfl:x=y:=Prod.ext h1 h2
          clear h1 h2;go_wp2
          go_quiet (fail)
          go_wp2
          go_roundw
          case rel=>
           refine⟨k+1,_,by omega,by go_num,fun j z hj hz=>?_,rfl⟩;rcases Yp j k with h'|h'
           · exact hno.out j z h' hz
           · obtain rfl:j=k:=by omega
             rw[HX.out] at hz;rw[HY.out];exact hz
          case measure=>simp[intOf];omega
        · have HN:=ZZ (Yk (Zlf HX.out HY.out fun e=>h2 (by rw[e])))
          rw[h1] at c0;go_wp2
          go_quiet (fail)
          go_wp2;go_ret;exact⟨Za (by rw[HN.out]),((Only.refl _ _).drewN _).drewN _⟩
      · have HN:=ZZ (Yk (Zlf HX.out HY.out fun e=>h1 (by rw[e])))
        go_wp2
        go_quiet (fail)
        go_wp2;go_ret;exact⟨Za (by rw[HN.out]),((Only.refl _ _).drewN _).drewN _⟩
    · obtain rfl:k=l.length:=by omega
      have HN:=ZZ (Yl (ZmV HL.out hno.out));go_wp2;go_ret;exact⟨Za (by rw[HN.out]),(Only.refl _ _).drewN _⟩
 · have HN:=ZZ (Yk (ZmP hlen))
   have hn1: ¬((l.length:Int)=(m.length:Int)):=by omega
   go_enter Tryz.func35,Tryz.ntmps35
   go_wp2;go_ret;exact⟨Za (by rw[HN.out]),Only.refl _ _⟩
theorem ZeY {l:List Sp} {s:Sp} (h: ∀(j:Nat) y,j<l.length→l[j]? =some y→decide (Sp.meets y s)=false):l.any (fun x=>decide (Sp.meets x s))=false:=by
 rw[List.any_eq_false];intro x hx;obtain⟨j,hj,rfl⟩:=List.getElem_of_mem hx
 have:=h j _ hj (Ya hj)
 simpa using this
theorem Zfj {l:List Sp} {s x:Sp} {k:Nat} (hx:l[k]? =some x) (h:Sp.meets x s):l.any (fun x=>decide (Sp.meets x s))=true:=List.any_eq_true.2 ⟨x,Yn hx,Yl h⟩
theorem Zhq {w w':World} {B:Nat} {v:Value} {l:List Sp} (h:Sl w B 2 v l.length (spc l)) (o:Only nob w w') (hB:B≤w.heap.size):Sl w' w'.heap.size 2 v l.length (spc l):=
 (h.below (o.below hB fun _ h=>h.elim)).more (Yh hB o.size)
def Zoz (l:List Sp) (s:Sp) (w:World) (e:Ending) (w':World):Prop:= ∃v',e=.returned (.tuple #[v',.int .i64 (Zhg l s).2])∧Sl w' w'.heap.size 2 v' (Zhg l s).1.length (spc (Zhg l s).1)∧((Zhg l s).2=0→w'.ownsRow w.heap.size 61 2 v' (Zhg l s).1.length (spc (Zhg l s).1))∧Only nob w w'
theorem ZpI (v:Value) (l:List Sp) (s:Sp) (B:Nat) (w:World) (h:Sl w B 2 v l.length (spc l)) (hB:B≤w.heap.size) (hl:l.length≤10000):
 Calls Tryz.prog 33 #[v,.agg #[.int .i64 s.1,.int .i64 s.2]] w (Zoz l s w):=by
 obtain⟨i0,hi0,hz0,hz1,hz2⟩:=info_parts Zae;have HA:=ZZ h;obtain⟨A,ca,rfl,hac,ham, -⟩:=h;unfold maxLen at ham;have HB:=ZZ (Blk.new w 61 #[.int .i64 s.1,.int .i64 s.2]);have HO0:=ZZ ((Only.refl nob w).alloc (.cells #[.int .i64 s.1,.int .i64 s.2] 61));by_cases ho:s.ok
 · have HM:=ZZ (Yl ho)
   have HOK:=ZZ ho;clear ho
   go_enter Tryz.func33,Tryz.ntmps33
   go_wp2_with fail
   go_at_call 64;refine(ZE s _).mono ?_;rw[HM.out];rintro e w1 ⟨rfl,o⟩;have HB1:=ZZ (HB.out.keep o id);have O1:=ZZ (HO0.out.trans o);clear o
   go_wp2_with fail
   go_loopw [6] (fun i wr=> ∃k:Nat,k≤l.length∧i=.int .i64 k∧Hid (∀(j:Nat) y,j<k→l[j]? =some y→decide (Sp.meets y s)=false)∧Hid (Only nob w1 wr)) (fun i _=>l.length - (intOf i).toNat)
   case atStart=>exact⟨0,Yt _,rfl,fun j _ hj _=>absurd hj (Nat.not_lt_zero j),Only.refl _ _⟩
   case round=>
    obtain⟨k,hk,rfl,hno,HX⟩:=hrel;have HOW:=ZZ (O1.out.trans HX.out);have b0:=HX.out.keeps (HB1.out.cell 0);have b1:=HX.out.keeps (HB1.out.cell 1);simp at b0 b1;by_cases hlt:k<l.length
    · obtain⟨x,hx⟩: ∃x,l[k]? =some x:=⟨_,Ya hlt⟩
      obtain⟨b,o,rfl,hb,c0,c1⟩:=Zy HA.out (HOW.out.below hB fun _ h=>h.elim) hx;have HXX:=ZZ hx;clear hx;by_cases hm:Sp.meets x s
      · have HD:=ZZ (Yl hm)
        have HT:=ZZ (ZiM HOK.out (Zfj HXX.out hm));clear hm
        go_wp2_with fail
        go_region_held3 (fun w'=>w'.cell? ⟨b,o+k * 2,none⟩=some (.int .i64 x.1)∧w'.cell? ⟨b,o+k * 2+1,none⟩=some (.int .i64 x.2)∧w'.cell? ⟨w.heap.size,0,none⟩=some (.int .i64 s.1)∧w'.cell? ⟨w.heap.size,1,none⟩=some (.int .i64 s.2)) (first|go_keep|exact C1.out)
         ((go_at_call 65;refine(ZcY x s _).mono ?_;rw[HD.out];rintro e w2 ⟨rfl,ho⟩;have O2:=ZZ ho.drewL;have C1:=ZZ (And.intro (ho.drewL.keeps c0) (And.intro (ho.drewL.keeps c1) (And.intro (ho.drewL.keeps b0) (ho.drewL.keeps b1))));clear ho))
        have HOW2:=ZZ (HOW.out.trans O2.out);clear c0 c1 b0 b1;go_wp2;go_ret2;exact⟨_,by rw[HT.out];rfl,by rw[HT.out];exact Zhq HA.out HOW2.out hB,fun h0=>(by rw[HT.out] at h0;cases h0),HOW2.out⟩
      · have HD:=ZZ (Yk hm)
        clear hm
        go_wp2_with fail
        go_region_held3 (fun w'=>w'.cell? ⟨b,o+k * 2,none⟩=some (.int .i64 x.1)∧w'.cell? ⟨b,o+k * 2+1,none⟩=some (.int .i64 x.2)∧w'.cell? ⟨w.heap.size,0,none⟩=some (.int .i64 s.1)∧w'.cell? ⟨w.heap.size,1,none⟩=some (.int .i64 s.2)) (first|go_keep|exact C1.out)
         ((go_at_call 65;refine(ZcY x s _).mono ?_;rw[HD.out];rintro e w2 ⟨rfl,ho⟩;have O2:=ZZ ho.drewL;have C1:=ZZ (And.intro (ho.drewL.keeps c0) (And.intro (ho.drewL.keeps c1) (And.intro (ho.drewL.keeps b0) (ho.drewL.keeps b1))));clear ho))
        have HX2:=ZZ (HX.out.trans O2.out);clear c0 c1 b0 b1;go_wp2
        go_roundw
        case rel=>
         refine⟨k+1,by omega,by go_num,fun j y hj hy=>?_,HX2.out⟩;rcases Yp j k with h'|h'
         · exact hno.out j y h' hy
         · obtain rfl:j=k:=by omega
           rw[HXX.out] at hy;obtain rfl:=Yo hy;exact HD.out
        case measure=>simp[intOf];omega
    · obtain rfl:k=l.length:=by omega
      have HT:=ZZ (Zj2 HOK.out (ZeY hno.out));have HBW:=ZZ (HB1.out.keep HX.out id)
      obtain⟨wo,rfl⟩: ∃wo:World,wo=wr:=⟨_,rfl⟩
      clear b0 b1
      go_wp2_with fail
      go_loopw [7] (fun i wr=> ∃k:Nat,k≤l.length∧i=.int .i64 k∧Hid (∀(j:Nat) y,j<k→l[j]? =some y→y.1≤s.1)∧Hid (Only nob wo wr)) (fun i _=>l.length - (intOf i).toNat)
      case atStart=>exact⟨0,Yt _,rfl,fun j _ hj _=>absurd hj (Nat.not_lt_zero j),Only.refl _ _⟩
      case round=>
       obtain⟨k,hk,rfl,hle,HY⟩:=hrel;have HOY:=ZZ (HOW.out.trans HY.out);have b0:=HY.out.keeps (HBW.out.cell 0);have b1:=HY.out.keeps (HBW.out.cell 1);simp at b0 b1;by_cases hgo: ∃x,l[k]? =some x∧x.1≤s.1
       · obtain⟨x,hx,hxs⟩:=hgo
         obtain⟨b,o,rfl,hb,c0,c1⟩:=Zy HA.out (HOY.out.below hB fun _ h=>h.elim) hx;have HXX:=ZZ hx;have hlt:k<l.length:=(Yj.1 hx).1;have HXS:=ZZ hxs;clear hx
         go_wp2_with fail
         go_quiet (fail)
         go_wp2
         go_roundw
         case rel=>
          refine⟨k+1,by omega,by go_num,fun j y hj hy=>?_,HY.out.drewN _⟩;rcases Yp j k with h'|h'
          · exact hle.out j y h' hy
          · obtain rfl:j=k:=by omega
            rw[HXX.out] at hy;obtain rfl:=Yo hy;exact HXS.out
         case measure=>simp[intOf];omega
       · have hK:ZdZ l s.1=k:=by
          rcases Yp k l.length with hlt|hge
          · exact ZjW (Ya hlt) (Int.lt_of_not_ge fun h=>hgo ⟨_,Ya hlt,h⟩) hle.out
          · have e:k=l.length:=by omega
            subst e;exact Zeu hle.out
         have HK:=ZZ hK;have HGO:=ZZ hgo;clear hK hgo;by_cases hlt:k<l.length
         case pos=>
          obtain⟨x,hx⟩: ∃x,l[k]? =some x:=⟨_,Ya hlt⟩
          obtain⟨b,o,rfl,hb,c0,c1⟩:=Zy HA.out (HOY.out.below hB fun _ h=>h.elim) hx;have hxs: ¬x.1≤s.1:=fun h=>HGO.out ⟨x,hx,h⟩;clear hx
          go_wp2_with fail
          go_quiet (fail)
          clear c0 c1
          obtain⟨W2,hW2⟩: ∃W2,W2=wr.drewN nq:=⟨_,rfl⟩
          have O2:=ZZ (show Only nob w W2 by rw[hW2];exact HOY.out.drewN _);have HB2:=ZZ (show Blk W2 w.heap.size 61 #[.int .i64 s.1,.int .i64 s.2] by rw[hW2];exact HBW.out.keep (HY.out.drewN _) id);rw[← hW2];clear hW2 b0 b1;have ST:=ZZ (Zgp HA.out hk);have SD:=ZZ (ZgF HA.out hk);have hcutA:=Zb7 Tryz.underlying31 hi0 (some ⟨b,o,none⟩) l.length ca k (by omega);have hcutB:=Zap Tryz.underlying31 hi0 (some ⟨b,o,none⟩) l.length ca k hk;rw[hz1] at hcutA hcutB
          go_wp2_with (with_reducible refine Zf (o:=⟨some 46,_,_,_,_,_⟩) _ rfl (.tmp 42) (.tmp 45) _ rfl W2.heap.size 61 i0 _ 2 16 Tryz.underlying31 hi0 hz0 hz1 hz2 rfl (by decide) (.slice (some ⟨W2.heap.size,0,none⟩) 0 0) 0 [] rfl ?c1 B (ZbU (some ⟨b,o,none⟩) 0 k ca 2) k (spc (l.take k)) rfl ?c2 (ZY _) ?c3 ?c4 ?c5 ?c6)
          case c1=>exact ZdP W2 _ _
          case c2=>exact ST.out.below ((O2.out.alloc _).below hB fun _ h=>h.elim)
          case c3=>unfold maxLen;omega
          case c4=>omega
          case c5=>simp
          case c6=>
           intro v1 w3 H1 o1 _;have O3:=ZZ (Zcc o1);have HW1:=ZZ (show w3.ownsRow W2.heap.size 61 2 v1 k (spc (l.take k)) by simpa using H1.out);have HB3:=ZZ (HB2.out.keep O3.out id);have HQ3:=ZZ (Blk.new w3 61 #[.int .i64 s.1,.int .i64 s.2]);obtain⟨A1,c1',rfl,hk1,hk2⟩:=Zl HW1.out;unfold maxLen at hk2;have b0:=HB3.out.cell 0;have b1:=HB3.out.cell 1;simp at b0 b1;have hz3:W2.heap.size≤w3.heap.size:=O3.out.size;clear o1 H1 hcutA
           go_wp2_with (with_reducible refine Zf (o:=⟨some 50,_,_,_,_,_⟩) _ rfl (.tmp 47) (.tmp 49) _ rfl W2.heap.size 61 i0 _ 2 16 Tryz.underlying31 hi0 hz0 hz1 hz2 rfl (by decide) (.slice A1 k c1') k (spc (l.take k)) rfl ?c7 (w3.heap.size+1) (.slice (some ⟨w3.heap.size,0,none⟩) 1 1) 1 (spc [s]) rfl ?c8 (ZY _) ?c9 ?c10 ?c11 ?c12)
           case c7=>exact Zb HW1.out ((Only.refl nob w3).alloc _) fun _ _ h=>h
           case c8=>exact(Sl.of_blk (size:=2) (n:=1) (c:=1) HQ3.out rfl (Yi _) (by decide)).more (by simp)
           case c9=>unfold maxLen;omega
           case c10=>omega
           case c11=>simp;omega
           case c12=>
            intro v2 w4 H2 o2 _;have O4:=ZZ (Zbi (O3.out.alloc (.cells #[.int .i64 s.1,.int .i64 s.2] 61)) (Zb HW1.out ((Only.refl nob w3).alloc _) fun _ _ h=>h) o2 (Yi _));have HW2:=ZZ (show w4.ownsRow W2.heap.size 61 2 v2 (k+1) (spc (l.take k++[s])) by rw[Z9];exact H2.out);obtain⟨A2,c2',rfl,hk3,hk4⟩:=Zl HW2.out;unfold maxLen at hk4;have hz4:W2.heap.size≤w4.heap.size:=O4.out.size;clear o2 H2 b0 b1
            go_wp2_with (with_reducible refine Zf (o:=⟨some 55,_,_,_,_,_⟩) _ rfl (.tmp 51) (.tmp 54) _ rfl W2.heap.size 61 i0 _ 2 16 Tryz.underlying31 hi0 hz0 hz1 hz2 rfl (by decide) (.slice A2 (k+1) c2') (k+1) (spc (l.take k++[s])) rfl ?c13 B (ZbU (some ⟨b,o,none⟩) k l.length ca 2) (l.length - k) (spc (l.drop k)) rfl ?c14 (ZY _) ?c15 ?c16 ?c17 ?c18)
            case c13=>exact HW2.out
            case c14=>exact SD.out.below ((O2.out.trans O4.out).below hB fun _ h=>h.elim)
            case c15=>unfold maxLen;omega
            case c16=>omega
            case c17=>exact hz4
            case c18=>
             intro v3 w5 H3 o3 _;have O5:=ZZ (O2.out.trans (Zbi O4.out HW2.out o3 (Yi _)))
             have HW3:=ZZ (show w5.ownsRow w.heap.size 61 2 v3 (Zee l k s).length (spc (Zee l k s)) by
              have h1:=Zak (base':=w.heap.size) H3.out fun q e=>Yh O2.out.size (Zr H3.out e).1;rw[← Z9,List.append_assoc] at h1;rw[Zfp s hk,show l.length+1=k+1+(l.length - k) by omega]
              exact h1)
             clear o3 H3;go_wp2;go_ret2;exact⟨v3,by rw[HT.out];rfl,by rw[HT.out,HK.out];exact Sl.of_own HW3.out HW3.out.1,fun _=>(by rw[HT.out,HK.out];exact HW3.out),O5.out⟩
         case neg=>
          go_wp2_with fail
          go_quiet (fail)
          obtain⟨W2,hW2⟩: ∃W2,W2=wr.drewN nq:=⟨_,rfl⟩
          have O2:=ZZ (show Only nob w W2 by rw[hW2];exact HOY.out.drewN _);have HB2:=ZZ (show Blk W2 w.heap.size 61 #[.int .i64 s.1,.int .i64 s.2] by rw[hW2];exact HBW.out.keep (HY.out.drewN _) id);rw[← hW2];clear hW2 b0 b1;have ST:=ZZ (Zgp HA.out hk);have SD:=ZZ (ZgF HA.out hk);have hcutA:=Zb7 Tryz.underlying31 hi0 A l.length ca k (by omega);have hcutB:=Zap Tryz.underlying31 hi0 A l.length ca k hk;rw[hz1] at hcutA hcutB
          go_wp2_with (with_reducible refine Zf (o:=⟨some 46,_,_,_,_,_⟩) _ rfl (.tmp 42) (.tmp 45) _ rfl W2.heap.size 61 i0 _ 2 16 Tryz.underlying31 hi0 hz0 hz1 hz2 rfl (by decide) (.slice (some ⟨W2.heap.size,0,none⟩) 0 0) 0 [] rfl ?d1 B (ZbU A 0 k ca 2) k (spc (l.take k)) rfl ?d2 (ZY _) ?d3 ?d4 ?d5 ?d6)
          case d1=>exact ZdP W2 _ _
          case d2=>exact ST.out.below ((O2.out.alloc _).below hB fun _ h=>h.elim)
          case d3=>unfold maxLen;omega
          case d4=>omega
          case d5=>simp
          case d6=>
           intro v1 w3 H1 o1 _;have O3:=ZZ (Zcc o1);have HW1:=ZZ (show w3.ownsRow W2.heap.size 61 2 v1 k (spc (l.take k)) by simpa using H1.out);have HB3:=ZZ (HB2.out.keep O3.out id);have HQ3:=ZZ (Blk.new w3 61 #[.int .i64 s.1,.int .i64 s.2]);obtain⟨A1,c1',rfl,hk1,hk2⟩:=Zl HW1.out;unfold maxLen at hk2;have b0:=HB3.out.cell 0;have b1:=HB3.out.cell 1;simp at b0 b1;have hz3:W2.heap.size≤w3.heap.size:=O3.out.size;clear o1 H1 hcutA
           go_wp2_with (with_reducible refine Zf (o:=⟨some 50,_,_,_,_,_⟩) _ rfl (.tmp 47) (.tmp 49) _ rfl W2.heap.size 61 i0 _ 2 16 Tryz.underlying31 hi0 hz0 hz1 hz2 rfl (by decide) (.slice A1 k c1') k (spc (l.take k)) rfl ?d7 (w3.heap.size+1) (.slice (some ⟨w3.heap.size,0,none⟩) 1 1) 1 (spc [s]) rfl ?d8 (ZY _) ?d9 ?d10 ?d11 ?d12)
           case d7=>exact Zb HW1.out ((Only.refl nob w3).alloc _) fun _ _ h=>h
           case d8=>exact(Sl.of_blk (size:=2) (n:=1) (c:=1) HQ3.out rfl (Yi _) (by decide)).more (by simp)
           case d9=>unfold maxLen;omega
           case d10=>omega
           case d11=>simp;omega
           case d12=>
            intro v2 w4 H2 o2 _;have O4:=ZZ (Zbi (O3.out.alloc (.cells #[.int .i64 s.1,.int .i64 s.2] 61)) (Zb HW1.out ((Only.refl nob w3).alloc _) fun _ _ h=>h) o2 (Yi _));have HW2:=ZZ (show w4.ownsRow W2.heap.size 61 2 v2 (k+1) (spc (l.take k++[s])) by rw[Z9];exact H2.out);obtain⟨A2,c2',rfl,hk3,hk4⟩:=Zl HW2.out;unfold maxLen at hk4;have hz4:W2.heap.size≤w4.heap.size:=O4.out.size;clear o2 H2 b0 b1
            go_wp2_with (with_reducible refine Zf (o:=⟨some 55,_,_,_,_,_⟩) _ rfl (.tmp 51) (.tmp 54) _ rfl W2.heap.size 61 i0 _ 2 16 Tryz.underlying31 hi0 hz0 hz1 hz2 rfl (by decide) (.slice A2 (k+1) c2') (k+1) (spc (l.take k++[s])) rfl ?d13 B (ZbU A k l.length ca 2) (l.length - k) (spc (l.drop k)) rfl ?d14 (ZY _) ?d15 ?d16 ?d17 ?d18)
            case d13=>exact HW2.out
            case d14=>exact SD.out.below ((O2.out.trans O4.out).below hB fun _ h=>h.elim)
            case d15=>unfold maxLen;omega
            case d16=>omega
            case d17=>exact hz4
            case d18=>
             intro v3 w5 H3 o3 _;have O5:=ZZ (O2.out.trans (Zbi O4.out HW2.out o3 (Yi _)))
             have HW3:=ZZ (show w5.ownsRow w.heap.size 61 2 v3 (Zee l k s).length (spc (Zee l k s)) by
              have h1:=Zak (base':=w.heap.size) H3.out fun q e=>Yh O2.out.size (Zr H3.out e).1;rw[← Z9,List.append_assoc] at h1;rw[Zfp s hk,show l.length+1=k+1+(l.length - k) by omega]
              exact h1)
             clear o3 H3;go_wp2;go_ret2;exact⟨v3,by rw[HT.out];rfl,by rw[HT.out,HK.out];exact Sl.of_own HW3.out HW3.out.1,fun _=>(by rw[HT.out,HK.out];exact HW3.out),O5.out⟩
 · have HM:=ZZ (Yk ho)
   have HT:=ZZ (ZlJ (l:=l) ho);clear ho
   go_enter Tryz.func33,Tryz.ntmps33
   go_wp2_with fail
   go_at_call 64;refine(ZE s _).mono ?_;rw[HM.out];rintro e w1 ⟨rfl,o⟩;have O1:=ZZ (HO0.out.trans o);clear o;go_wp2;go_ret2;exact⟨_,by rw[HT.out];rfl,by rw[HT.out];exact Zhq HA.out O1.out hB,fun h0=>(by rw[HT.out] at h0;cases h0),O1.out⟩
end Go.Proofs.YtknoncenblehkaaGreatDoor
