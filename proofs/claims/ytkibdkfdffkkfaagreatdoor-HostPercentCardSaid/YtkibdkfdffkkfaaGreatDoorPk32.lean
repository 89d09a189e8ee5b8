import Derived.Test.YtkibdkfdffkkfaaGreatDoorPk30
import Derived.Sort.LotB
import Derived.Sort.LotC
import Derived.Sort.LotD3
set_option maxRecDepth 100000
set_option maxHeartbeats 8000000
namespace Go.Proofs.YtkibdkfdffkkfaaGreatDoor.Pn
open Go.RowKit Puny Go.Shelf Go.Sort
theorem sd_end{hi F r:Nat}{d:Array Nat}(h:¬ 2*r+1<hi):siftDown ltN hi F r d=d:=by rw[siftDown,dif_pos (by omega)]
theorem sd_left{hi F r:Nat}{d:Array Nat}(h:2*r+1<hi)(hc:2*r+2<hi->ltN d[F+(2*r+1)]! d[F+(2*r+2)]! = false) :
  siftDown ltN hi F r d=if ltN d[F+r]! d[F+(2*r+1)]! = true then siftDown ltN hi F (2*r+1) (swp d (F+r) (F+(2*r+1))) else d:=by
 rw[siftDown,dif_neg (by omega),if_neg]
 ·cases ltN d[F+r]! d[F+(2*r+1)]! <;> simp
 ·simp only[Bool.and_eq_true,decide_eq_true_eq,not_and,Bool.not_eq_true]
  intro h2
  have:=hc (by omega)
  rwa [show F+(2*r+1)+1=F+(2*r+2) by omega]
theorem sd_right{hi F r:Nat}{d:Array Nat}(h:2*r+2<hi)(hc:ltN d[F+(2*r+1)]! d[F+(2*r+2)]! = true) :
  siftDown ltN hi F r d=if ltN d[F+r]! d[F+(2*r+2)]! = true then siftDown ltN hi F (2*r+2) (swp d (F+r) (F+(2*r+2))) else d:=by
 rw[siftDown,dif_neg (by omega),if_pos]
 ·rw[dif_pos (by omega)]
  cases ltN d[F+r]! d[F+(2*r+2)]! <;> simp
 ·simp only[Bool.and_eq_true,decide_eq_true_eq]
  rw[show F+(2*r+1)+1=F+(2*r+2) by omega]
  exact⟨by omega,hc⟩
theorem siftDown_size(hi F:Nat):∀ (n r:Nat) (d:Array Nat),hi-r<=n->(siftDown ltN hi F r d).size=d.size:=by
 intro n
 induction n with
 | zero=>intro r d h;rw[sd_end (by omega)]
 | succ n ih =>
  intro r d h
  by_cases h0:2*r+1<hi
  ·by_cases h1:2*r+2<hi/\ltN d[F+(2*r+1)]! d[F+(2*r+2)]! = true
   ·rw[sd_right h1.1 h1.2]
    split
    ·rw[ih _ _ (by omega),size_swp]
    ·rfl
   ·rw[sd_left h0 (fun h2=>by cases h3:ltN d[F+(2*r+1)]! d[F+(2*r+2)]! with|false=>rfl|true=>exact absurd ⟨h2,h3⟩ h1)]
    split
    ·rw[ih _ _ (by omega),size_swp]
    ·rfl
  ·rw[sd_end h0]
theorem hb_0(hi F:Nat)(d:Array Nat):heapBuild ltN hi F 0 d=d:=rfl
theorem hb_s(hi F k:Nat)(d:Array Nat):heapBuild ltN hi F (k+1) d=heapBuild ltN hi F k (siftDown ltN hi F k d):=rfl
theorem hp_s(F k:Nat)(d:Array Nat):heapPop ltN F (k+1) d=heapPop ltN F k (siftDown ltN k F 0 (swp d F (F+k))):=rfl
theorem rv_end{i j:Nat}{d:Array Nat}(h:¬ i<j):reverseLoop i j d=d:=by rw[reverseLoop,if_neg h]
theorem rv_go{i j:Nat}{d:Array Nat}(h:i<j):reverseLoop i j d=reverseLoop (i+1) (j-1) (swp d i j):=by rw[reverseLoop,if_pos h]
theorem up_go{p:Nat->Bool}{d:Array Nat}{i j:Nat}(h:i<=j)(hp:p d[i]! = true):scanUp p d j i=scanUp p d j (i+1):=by
 rw[scanUp,if_pos (by simp[h,hp])]
theorem up_end{p:Nat->Bool}{d:Array Nat}{i j:Nat}(h:i<=j->p d[i]! = false):scanUp p d j i=i:=by
 rw[scanUp,if_neg]
 simp only[Bool.and_eq_true,decide_eq_true_eq,not_and,Bool.not_eq_true]
 exact h
theorem down_go{p:Nat->Bool}{d:Array Nat}{i j:Nat}(h:i<=j+1)(hp:p d[j+1]! = true):scanDown p d i (j+1)=scanDown p d i j:=by
 rw[scanDown,if_pos (by simp[h,hp])]
theorem down_end{p:Nat->Bool}{d:Array Nat}{i j:Nat}(h:i<=j->p d[j]! = false):scanDown p d i j=j:=by
 cases j with
 | zero=>rfl
 | succ j =>
  rw[scanDown,if_neg]
  simp only[Bool.and_eq_true,decide_eq_true_eq,not_and,Bool.not_eq_true]
  exact h
theorem scans_ne{p q:Nat->Bool}(hq:∀ x,q x = !p x){dk:Array Nat}{i0 j0 i j:Nat}(h1:scanUp p dk j0 i0=i)(h2:scanDown q dk i j0=j)(hi:0<i)(h:i<=j):i≠j:=by
 rintro rfl
 have a1:=(scanUp_spec p dk j0 _ i0 rfl).2.2.2
 have a2:=(scanDown_spec q dk i j0)
 rw[h1]at a1
 rw[h2]at a2
 have b1:=a1 a2.1
 have b2:=a2.2.2.2 h hi
 rw[hq,b1]at b2
 cases b2
theorem ss_go{d:Array Nat}{b i:Nat}(h:i<b)(hl:ltN d[i]! d[i-1]! = false):scanSorted ltN d b i=scanSorted ltN d b (i+1):=by
 rw[scanSorted,if_pos (by simp[h,hl])]
theorem ss_end{d:Array Nat}{b i:Nat}(h:i<b->ltN d[i]! d[i-1]! = true):scanSorted ltN d b i=i:=by
 rw[scanSorted,if_neg]
 simp only[Bool.and_eq_true,decide_eq_true_eq,not_and,Bool.not_eq_true',Bool.not_eq_false]
 exact h
theorem sdn_go{d:Array Nat}{j:Nat}(h:ltN d[j+1]! d[j]! = true):shiftDown ltN (j+1) d=shiftDown ltN j (swp d (j+1) j):=by rw[shiftDown];simp[h]
theorem sdn_end{d:Array Nat}{j:Nat}(h:ltN d[j+1]! d[j]! = false):shiftDown ltN (j+1) d=d:=by rw[shiftDown];simp[h]
theorem sup_end{d:Array Nat}{b j:Nat}(h:j<b->ltN d[j]! d[j-1]! = false):shiftUp ltN b j d=d:=by
 rw[shiftUp]
 split
 ·rename_i hj;simp[h hj]
 ·rfl
theorem sup_go{d:Array Nat}{b j:Nat}(hj:j<b)(h:ltN d[j]! d[j-1]! = true):shiftUp ltN b j d=shiftUp ltN b (j+1) (swp d j (j-1)):=by
 rw[shiftUp,if_pos hj];simp[h]
theorem reverseRange_walk(base g cap a b:Nat)(d:Array Nat)(w:World)(hw:OW base g cap d w)(hab:a<b)(hb:b<=d.size)(hsz:d.size<=1000000) :
  Calls Tryz.prog 399 #[.slice (some ⟨g,0,none⟩) d.size cap,.int .i64 a,.int .i64 b] w (Sorts base g cap (fun d'=>d'=reverseRange d a b) w):=by
 have hb1:(1:Int)<=(b:Int):=by omega
 go_enter Tryz.func399,Tryz.ntmps399
 go_wp2
 go_loopw [6,7] (fun s6 s7 wr => ∃ (i j:Nat) (dk:Array Nat),s6 = .int .i64 i/\s7 = .int .i64 j/\a<=i/\i<=b/\j<b/\Hid (dk.size=d.size)/\SW base g cap w dk wr/\Hid (reverseLoop i j dk=reverseRange d a b)) (fun s6 _ _=>b-(intOf s6).toNat)
 case atStart=>exact⟨a,b-1,d,by go_num,by go_num,Nat.le_refl _,by omega,by omega,Lib.hid rfl,SW.refl hw,Lib.hid rfl⟩
 case round =>
  obtain⟨i,j,dk,rfl,rfl,hi1,hi2,hj1,HDS,hS,HE⟩:=hrel
  by_cases hlt:i<j
  ·have d1:=hS.1.cell (i:=i) (by rw[HDS.out];omega)
   have d2:=hS.1.cell (i:=j) (by rw[HDS.out];omega)
   have e1:=hS.1.frozen i
   have e2:=hS.1.frozen j
   obtain⟨x,hx⟩:∃ x,dk[i]! = x:=⟨_,rfl⟩
   obtain⟨y,hy⟩:∃ y,dk[j]! = y:=⟨_,rfl⟩
   rw[hx]at d1
   rw[hy]at d2
   have HX:=Lib.hid hx
   have HY:=Lib.hid hy
   clear hx hy
   have b1:(i:Int)<(d.size:Int):=by omega
   have b2:(j:Int)<(d.size:Int):=by omega
   have b3:(0:Int)<=(i:Int):=by omega
   have b4:(0:Int)<=(j:Int):=by omega
   go_wp2
   go_region
   go_wp2
   go_roundw
   case rel =>
    refine⟨i+1,j-1,swp dk i j,by go_num,by go_num,by omega,by omega,by omega,Lib.hid (by rw[size_swp,HDS.out]), ?_,Lib.hid (by rw[<-HE.out,rv_go hlt])⟩
    have hsw:=(hS.swap (i:=i) (j:=j)).drew
    rw[HX.out,HY.out]at hsw
    exact hsw
   case measure=>first|(simp[intOf];done)|(simp[intOf];omega)
  ·have HE2:=HE.out
   rw[rv_end hlt]at HE2
   go_wp2
   go_end0
   exact⟨rfl,dk,HE2,hS⟩
theorem siftDown_walk(base g cap lo hi F:Nat)(d:Array Nat)(w:World)(hw:OW base g cap d w)(hlo:lo<=1000000)(hb:F+hi<=d.size)(hsz:d.size<=1000000) :
  Calls Tryz.prog 405 #[.slice (some ⟨g,0,none⟩) d.size cap,.int .i64 lo,.int .i64 hi,.int .i64 F] w (Sorts base g cap (fun d'=>d'=siftDown ltN hi F lo d) w):=by
 go_enter Tryz.func405,Tryz.ntmps405
 go_wp2
 go_loopg [8] (hi-lo) (fun k s8 wr => ∃ (r:Nat) (dk:Array Nat),s8 = .int .i64 r/\k=hi-r/\r<=1000000/\Hid (dk.size=d.size)/\SW base g cap w dk wr/\Hid (siftDown ltN hi F r dk=siftDown ltN hi F lo d))
 case atStart=>exact⟨lo,d,rfl,rfl,hlo,Lib.hid rfl,SW.refl hw,Lib.hid rfl⟩
 case round =>
  obtain⟨r,dk,rfl,rfl,hr,HDS,hS,HE⟩:=hrel
  by_cases h0:2*r+1<hi
  ·go_upto_region 1 with fail
   go_cut [9] from 11 to 75 (fun s9 wx => ∃ c:Nat,s9 = .int .i64 c/\Hid (c=2*r+1)/\c<hi/\r<c/\SW base g cap w dk wx)
   case first =>
    go_wp2_with fail
    go_meet
    exact⟨2*r+1,by go_num,Lib.hid rfl,h0,by omega,hS⟩
   case rest =>
    obtain⟨c,rfl,HC,hc,hrc,hS⟩:=hcut
    go_upto_region 3 with fail
    go_cut [36] from 11 to 75 (fun s36 wx=>s36 = .bool (decide (2*r+2<hi)&&ltN dk[F+(2*r+1)]! dk[F+(2*r+2)]!)/\SW base g cap w dk wx)
    case first =>
     have w1:IntKind.i64.wrap ((c:Int)+1)=(c:Int)+1:=IntWalk.i64_in _ (by omega)
     have w2:IntKind.i64.wrap ((F:Int)+(c:Int))=(F:Int)+(c:Int):=IntWalk.i64_in _ (by omega)
     have w3:IntKind.i64.wrap ((F:Int)+(c:Int)+1)=(F:Int)+(c:Int)+1:=IntWalk.i64_in _ (by omega)
     by_cases h1:c+1<hi
     ·have c1:=hS.1.cell (i:=F+c) (by rw[HDS.out];omega)
      have c2:=hS.1.cell (i:=F+c+1) (by rw[HDS.out];omega)
      have f1:=hS.1.frozen (F+c)
      have f2:=hS.1.frozen (F+c+1)
      have hd1:decide ((c:Int)+1<(hi:Int))=true:=decide_eq_true (by omega)
      have b1:(F:Int)+(c:Int)<(d.size:Int):=by omega
      have b2:(F:Int)+(c:Int)+1<(d.size:Int):=by omega
      have b3:(0:Int)<=(F:Int)+(c:Int):=by omega
      have b4:(0:Int)<=(F:Int)+(c:Int)+1:=by omega
      go_quiet ((go_at_call 401;exact Calls.quiet_of_same (lessN rfl _)))
      go_wp2
      go_meet
      exact⟨by have hc:=HC.out;subst hc;rw[decide_eq_true (show 2*r+2<hi by omega)];rfl,hS.drewN _⟩
     ·have hd1:decide ((c:Int)+1<(hi:Int))=false:=decide_eq_false (by omega)
      go_quiet (fail)
      go_wp2
      go_meet
      exact⟨by have hc:=HC.out;rw[decide_eq_false (show ¬ 2*r+2<hi by omega)];rfl,hS.drewN _⟩
    case rest =>
     obtain⟨rfl,hS⟩:=hcut
     go_upto_if 36 with fail
     go_cut [9] from 11 to 75 (fun s9 wx => ∃ e:Nat,s9 = .int .i64 e/\e<hi/\r<e/\Hid (siftDown ltN hi F r dk=if ltN dk[F+r]! dk[F+e]! = true then siftDown ltN hi F e (swp dk (F+r) (F+e)) else dk)/\SW base g cap w dk wx)
     case first =>
      have w1:IntKind.i64.wrap ((c:Int)+1)=(c:Int)+1:=IntWalk.i64_in _ (by omega)
      cases hB:(decide (2*r+2<hi)&&ltN dk[F+(2*r+1)]! dk[F+(2*r+2)]!) with
      | true =>
       have HB:=Lib.hid hB
       clear hB
       go_wp2_with fail
       go_meet
       have hB:=HB.out
       have hc:=HC.out
       simp only[Bool.and_eq_true,decide_eq_true_eq]at hB
       exact⟨c+1,by go_num,by omega,by omega,Lib.hid (by rw[show c+1=2*r+2 by omega];exact sd_right hB.1 hB.2),hS⟩
      | false =>
       have HB:=Lib.hid hB
       clear hB
       go_wp2_with fail
       go_meet
       have hB:=HB.out
       have hc:=HC.out
       simp only[Bool.and_eq_false_iff,decide_eq_false_iff_not]at hB
       exact⟨c,rfl,by omega,by omega,Lib.hid (by rw[hc];exact sd_left (by omega) (fun h2=>by rcases hB with h|h;exact absurd h2 h;exact h)),hS⟩
     case rest =>
      obtain⟨e,rfl,he,hre,HQ,hS⟩:=hcut
      clear HC hc hrc
      have w2:IntKind.i64.wrap ((F:Int)+(r:Int))=(F:Int)+(r:Int):=IntWalk.i64_in _ (by omega)
      have w3:IntKind.i64.wrap ((F:Int)+(e:Int))=(F:Int)+(e:Int):=IntWalk.i64_in _ (by omega)
      have c1:=hS.1.cell (i:=F+r) (by rw[HDS.out];omega)
      have c2:=hS.1.cell (i:=F+e) (by rw[HDS.out];omega)
      have f1:=hS.1.frozen (F+r)
      have f2:=hS.1.frozen (F+e)
      have b1:(F:Int)+(r:Int)<(d.size:Int):=by omega
      have b2:(F:Int)+(e:Int)<(d.size:Int):=by omega
      have b3:(0:Int)<=(F:Int)+(r:Int):=by omega
      have b4:(0:Int)<=(F:Int)+(e:Int):=by omega
      obtain⟨x,hx⟩:∃ x,dk[F+r]! = x:=⟨_,rfl⟩
      obtain⟨y,hy⟩:∃ y,dk[F+e]! = y:=⟨_,rfl⟩
      rw[hx]at c1
      rw[hy]at c2
      have HX:=Lib.hid hx
      have HY:=Lib.hid hy
      clear hx hy
      cases hl:ltN x y with
      | true =>
       have HLT:=Lib.hid hl
       clear hl
       go_wp2
       go_quiet ((go_at_call 401;exact Calls.quiet_of_same (lessN HLT.out _)))
       go_wp2
       have hS3:=hS.drewN nq
       have d1:=hS3.1.cell (i:=F+r) (by rw[HDS.out];omega)
       have d2:=hS3.1.cell (i:=F+e) (by rw[HDS.out];omega)
       have e1:=hS3.1.frozen (F+r)
       have e2:=hS3.1.frozen (F+e)
       rw[HX.out]at d1
       rw[HY.out]at d2
       clear hS c1 c2 f1 f2
       generalize World.drewN _ nq=wr3 at hS3 d1 d2 e1 e2 ⊢
       go_region
       go_wp2
       go_roundg (hi-e)
       case measure=>omega
       case rel =>
        refine⟨e,swp dk (F+r) (F+e),rfl,rfl,by omega,Lib.hid (by rw[size_swp,HDS.out]), ?_,Lib.hid (by rw[<-HE.out,HQ.out,if_pos (by rw[HX.out,HY.out];exact HLT.out)])⟩
        have hsw:=(hS3.swap (i:=F+r) (j:=F+e)).drew
        rw[HX.out,HY.out]at hsw
        exact hsw
      | false =>
       have HLT:=Lib.hid hl
       clear hl
       go_wp2
       go_quiet ((go_at_call 401;exact Calls.quiet_of_same (lessN HLT.out _)))
       go_wp2
       go_end0
       exact⟨rfl,dk,by rw[<-HE.out,HQ.out,if_neg (by rw[HX.out,HY.out,HLT.out];simp)],hS.drewN _⟩
  ·have HE2:=HE.out
   rw[sd_end h0]at HE2
   go_wp2
   go_end0
   exact⟨rfl,dk,HE2,hS⟩
def PW (base g cap s:Nat) (d:Array Nat) (w w':World):Prop:=OW base g cap d w'/\w.grownBy w' (some s)/\∃ k:Int,Boxed w' s 3 (.int .i64 k)
def Two (base g cap s lo hi:Nat) (d:Array Nat) (w:World) (e:Ending) (w':World):Prop :=
 ∃ x y:Nat,lo<=x/\x<hi/\lo<=y/\y<hi/\e = .returned (.tuple #[.int .i64 x,.int .i64 y])/\PW base g cap s d w w'
def One1 (base g cap s lo hi:Nat) (d:Array Nat) (w:World) (e:Ending) (w':World):Prop :=
 ∃ x:Nat,lo<=x/\x<hi/\e = .returned (.int .i64 x)/\PW base g cap s d w w'
theorem PW.trans{base g cap s:Nat}{d:Array Nat}{w w1 w2:World}(h:PW base g cap s d w w1)(k:PW base g cap s d w1 w2):PW base g cap s d w w2:=⟨k.1,World.grownBy.trans h.2.1 k.2.1,k.2.2⟩
theorem box_not_row{base g cap s:Nat}{d:Array Nat}{w:World}{v:Value}(h:Boxed w s 3 v)(hw:OW base g cap d w):g≠s:=by
 have:=Boxed.not_row h (by decide) hw
 intro e
 exact this (by rw[e];rfl)
theorem order2_any(base g cap s lo hi a b:Nat)(d:Array Nat)(w:World)(hw:OW base g cap d w)(hs:∃ k:Int,Boxed w s 3 (.int .i64 k))(ha:lo<=a/\a<hi)(hb:lo<=b/\b<hi)(hd:hi<=d.size) :
  Calls Tryz.prog 410 #[.slice (some ⟨g,0,none⟩) d.size cap,.int .i64 a,.int .i64 b,.pointer (some ⟨s,0,none⟩)] w (Two base g cap s lo hi d w):=by
 obtain⟨k,hs⟩:=hs
 have c1:=hw.cell (i:=a) (by omega)
 have c2:=hw.cell (i:=b) (by omega)
 have f1:=hw.frozen a
 have f2:=hw.frozen b
 have b1:(a:Int)<(d.size:Int):=by omega
 have b2:(b:Int)<(d.size:Int):=by omega
 have n1:(0:Int)<=(a:Int):=by omega
 have n2:(0:Int)<=(b:Int):=by omega
 go_enter Tryz.func410,Tryz.ntmps410
 cases hl:ltN d[b]! d[a]! with
 | true =>
  have HLT:=Lib.hid hl
  clear hl
  go_wp2
  go_quiet ((go_at_call 401;exact Calls.quiet_of_same (lessN HLT.out _)))
  have hw2:OW base g cap d (w.drewN nq):=(SW.refl hw |>.drewN nq).1
  have hs2:Boxed (w.drewN nq) s 3 (.int .i64 k):=hs
  have hg2:w.grownBy (w.drewN nq) (some s):=⟨rfl,rfl,rfl,Nat.le_refl _,fun _ _ _=>rfl⟩
  clear c1 c2 f1 f2 hw hs
  generalize w.drewN nq=w2 at hw2 hs2 hg2 ⊢
  have hsc:=hs2.cell
  have hsf:=hs2.frozen
  go_wp2
  go_ret2
  exact⟨b,a,hb.1,hb.2,ha.1,ha.2,rfl,hw2.kept (grownBy_setCell' _ _ _) (.inr fun e=>box_not_row hs2 hw2 (by simpa[Value.ownBlock] using e)),World.grownBy.trans hg2 (grownBy_setCell' _ _ _),_,hs2.set _⟩
 | false =>
  have HLT:=Lib.hid hl
  clear hl
  go_wp2
  go_quiet ((go_at_call 401;exact Calls.quiet_of_same (lessN HLT.out _)))
  go_wp2
  go_ret2
  exact⟨a,b,ha.1,ha.2,hb.1,hb.2,rfl,(SW.refl hw |>.drewN nq).1,⟨rfl,rfl,rfl,Nat.le_refl _,fun _ _ _=>rfl⟩,k,hs⟩
theorem median_any(base g cap s lo hi a b c:Nat)(d:Array Nat)(w:World)(hw:OW base g cap d w)(hs:∃ k:Int,Boxed w s 3 (.int .i64 k))(ha:lo<=a/\a<hi)(hb:lo<=b/\b<hi)(hc:lo<=c/\c<hi)(hd:hi<=d.size) :
  Calls Tryz.prog 409 #[.slice (some ⟨g,0,none⟩) d.size cap,.int .i64 a,.int .i64 b,.int .i64 c,.pointer (some ⟨s,0,none⟩)] w (One1 base g cap s lo hi d w):=by
 go_enter Tryz.func409,Tryz.ntmps409
 go_wp2_with fail
 refine (order2_any base g cap s lo hi a b d w hw hs ha hb hd).mono ?_
 rintro e w1 ⟨x,y,hx1,hx2,hy1,hy2,rfl,h1⟩
 go_wp2_with fail
 refine (order2_any base g cap s lo hi y c d w1 h1.1 h1.2.2 ⟨hy1,hy2⟩ hc hd).mono ?_
 rintro e w2 ⟨y2,z,hy21,hy22,hz1,hz2,rfl,h2⟩
 go_wp2_with fail
 refine (order2_any base g cap s lo hi x y2 d w2 h2.1 h2.2.2 ⟨hx1,hx2⟩ ⟨hy21,hy22⟩ hd).mono ?_
 rintro e w3 ⟨x3,y3,_,_,hy31,hy32,rfl,h3⟩
 go_wp2
 go_ret
 exact⟨y3,hy31,hy32,rfl,(h1.trans h2).trans h3⟩
theorem medianAdjacent_any(base g cap s lo hi a:Nat)(d:Array Nat)(w:World)(hw:OW base g cap d w)(hs:∃ k:Int,Boxed w s 3 (.int .i64 k))(ha:lo<a/\a+1<hi)(hd:hi<=d.size)(hsz:d.size<=1000000) :
  Calls Tryz.prog 408 #[.slice (some ⟨g,0,none⟩) d.size cap,.int .i64 a,.pointer (some ⟨s,0,none⟩)] w (One1 base g cap s lo hi d w):=by
 obtain⟨a,rfl⟩:∃ a',a=a'+1:=⟨a-1,by omega⟩
 have hm:=median_any base g cap s lo hi a (a+1) (a+2) d w hw hs ⟨by omega,by omega⟩ ⟨by omega,by omega⟩ ⟨by omega,by omega⟩ hd
 have e1:(((a+1:Nat):Nat):Int)=(a:Int)+1:=by omega
 have e2:(((a+2:Nat):Nat):Int)=(a:Int)+1+1:=by omega
 rw[e1,e2]at hm
 rw[e1]
 have HM:=Lib.hid hm
 clear hm e1 e2
 have w1:IntKind.i64.wrap (a:Int)=(a:Int):=IntWalk.i64_in _ (by omega)
 have w2:IntKind.i64.wrap ((a:Int)+1)=(a:Int)+1:=IntWalk.i64_in _ (by omega)
 have w3:IntKind.i64.wrap ((a:Int)+1+1)=(a:Int)+1+1:=IntWalk.i64_in _ (by omega)
 have w4:IntKind.i64.wrap ((a:Int)+1-1)=(a:Int):=by rw[Int.add_sub_cancel];exact w1
 go_enter Tryz.func408,Tryz.ntmps408
 go_wp2_with fail
 refine HM.out.mono ?_
 rintro e w3 ⟨x3,h1,h2,rfl,h3⟩
 go_wp2
 go_ret
 exact⟨x3,h1,h2,rfl,h3⟩
theorem grown_new{w w1 w2:World}{s:Nat}{row:Option Nat}(h1:w.grownBy w1 none)(h2:w1.grownBy w2 (some s))(hs:w.heap.size<=s):w.grownBy w2 row :=
 ⟨h2.os.trans h1.os,h2.tape.trans h1.tape,h2.output.trans h1.output,Nat.le_trans h1.size h2.size,fun k hk _=>(h2.block k (Nat.lt_of_lt_of_le hk h1.size) (fun e=>by cases e;omega)).trans (h1.block k hk (by simp))⟩
def Piv (base g cap a b:Nat) (d:Array Nat) (w:World) (e:Ending) (w':World):Prop :=
 ∃ (p:Nat) (h:Int),a<=p/\p<b/\e = .returned (.tuple #[.int .i64 p,.int .i64 h])/\SW base g cap w d w'
theorem choosePivot_any(base g cap a b:Nat)(d:Array Nat)(w:World)(hw:OW base g cap d w)(hab:a+12<b)(hd:b<=d.size)(hsz:d.size<=1000000) :
  Calls Tryz.prog 398 #[.slice (some ⟨g,0,none⟩) d.size cap,.int .i64 a,.int .i64 b] w (Piv base g cap a b d w):=by
 go_enter Tryz.func398,Tryz.ntmps398
 go_upto_region 1 with fail
 go_cut [8] from 13 (fun s8 wx => ∃ l:Nat,s8 = .int .i64 (l:Int)/\l+a=b/\wx=w)
 case first =>
  go_wp2_with fail
  go_meet
  exact⟨b-a,by go_num,by omega,rfl⟩
 case rest =>
  obtain⟨l,rfl,hl,hwc⟩:=hcut
  rw[hwc]
  clear hwc
  have hq:((l:Int)).tdiv 4=((l/4:Nat):Int):=by rw[Int.tdiv_eq_ediv_of_nonneg (by omega)];omega
  obtain⟨q,hq2⟩:∃ q,l/4=q:=⟨_,rfl⟩
  rw[hq2]at hq
  have hq3:3<=q/\4*q<=l:=by omega
  have HQ:=Lib.hid hq2
  clear hq2
  have w1:IntKind.i64.wrap (q:Int)=(q:Int):=IntWalk.i64_in _ (by omega)
  go_upto_region 5 with fail
  go_cut [10,11,12] from 13 (fun s10 s11 s12 wx => ∃ i j k:Nat,s10 = .int .i64 (i:Int)/\s11 = .int .i64 (j:Int)/\s12 = .int .i64 (k:Int)/\a<i/\i+1<b/\a<j/\j+1<b/\a<k/\k+1<b/\OW base g cap d wx/\Boxed wx w.heap.size 3 (.int .i64 0)/\w.grownBy wx none)
  case first =>
   go_wp2_with fail
   go_meet
   exact⟨a+q,a+q*2,a+q*3,by go_num,by go_num,by go_num,by omega,by omega,by omega,by omega,by omega,by omega,hw.kept (World.grownBy_alloc _ _ none) (.inr (by simp[Value.ownBlock])),Boxed.new _ _ _,World.grownBy_alloc _ _ _⟩
  case rest =>
   obtain⟨i,j,k,rfl,rfl,rfl,hi1,hi2,hj1,hj2,hk1,hk2,hW,hBx,hG⟩:=hcut
   clear hq HQ w1 hw hq3
   have h8:(8:Int)<=(l:Int):=by omega
   have hfin:∀ (p:Nat) (w':World),a<=p->p<b->PW base g cap w.heap.size d wc w'->∀ h:Int,Piv base g cap a b d w (.returned (.tuple #[.int .i64 p,.int .i64 h])) w':=fun p w' h1 h2 h3 h=>⟨p,h,h1,h2,rfl,h3.1,grown_new hG h3.2.1 (Nat.le_refl _)⟩
   have HFIN:=Lib.hid hfin
   clear hfin
   by_cases h50:50<=l
   ·have h50z:(50:Int)<=(l:Int):=by omega
    go_wp2_with fail
    refine (medianAdjacent_any base g cap w.heap.size a b i d wc hW ⟨_,hBx⟩ ⟨hi1,hi2⟩ hd hsz).mono ?_
    rintro e w1 ⟨i2,hi1,hi2,rfl,h1⟩
    go_wp2_with fail
    refine (medianAdjacent_any base g cap w.heap.size a b j d w1 h1.1 h1.2.2 ⟨hj1,hj2⟩ hd hsz).mono ?_
    rintro e w2 ⟨j2,hj1,hj2,rfl,h2⟩
    replace h1:=h1.trans h2
    clear h2
    go_wp2_with fail
    refine (medianAdjacent_any base g cap w.heap.size a b k d w2 h1.1 h1.2.2 ⟨hk1,hk2⟩ hd hsz).mono ?_
    rintro e w3 ⟨k2,hk1,hk2,rfl,h2⟩
    replace h1:=h1.trans h2
    clear h2
    go_wp2_with fail
    refine (median_any base g cap w.heap.size a b i2 j2 k2 d w3 h1.1 h1.2.2 ⟨hi1,hi2⟩ ⟨hj1,hj2⟩ ⟨hk1,hk2⟩ hd).mono ?_
    rintro e w4 ⟨p,hp1,hp2,rfl,h2⟩
    replace h1:=h1.trans h2
    clear h2
    obtain⟨K,hK⟩:=h1.2.2
    have hKc:=hK.cell
    cases e0:(K==0)<;>cases e12:(K==12)
    all_goals
     go_wp2
     go_ret2
     exact HFIN.out p w4 hp1 hp2 h1 _
   ·have h50z:¬ (50:Int)<=(l:Int):=by omega
    have h50y:(l:Int)<50:=by omega
    go_wp2_with fail
    refine (median_any base g cap w.heap.size a b i j k d wc hW ⟨_,hBx⟩ ⟨by omega,by omega⟩ ⟨by omega,by omega⟩ ⟨by omega,by omega⟩ hd).mono ?_
    rintro e w4 ⟨p,hp1,hp2,rfl,h1⟩
    obtain⟨K,hK⟩:=h1.2.2
    have hKc:=hK.cell
    cases e0:(K==0)<;>cases e12:(K==12)
    all_goals
     go_wp2
     go_ret2
     exact HFIN.out p w4 hp1 hp2 h1 _
def okT (T:ByteArray):Bool:=decide (T.size=256)&&(List.range 256).all fun i=>decide (i=0∨(T.get! i).toNat<=8/\2 ^ (T.get! i).toNat<=2*i)
theorem okT_at{T:ByteArray}(h:okT T=true){i:Nat}(h1:1<=i)(h2:i<256)(hy:i<T.size):(T[i]'hy).toNat<=8/\2 ^ (T[i]'hy).toNat<=2*i:=by
 unfold okT at h
 rw[Bool.and_eq_true,List.all_eq_true]at h
 have h3:=h.2 i (List.mem_range.2 h2)
 rw[decide_eq_true_eq]at h3
 have e:T.get! i=T[i]'hy:=by
  show T.data[i]! = _
  rw[getElem!_pos T.data i hy]
  rfl
 rw[e]at h3
 rcases h3 with h3|h3
 ·omega
 ·exact h3
def Len64Is (x:Int) (w:World) (e:Ending) (w':World):Prop:=∃ r:Nat,r<=16/\((2 ^ r:Nat):Int)<=2*x/\e = .returned (.int .i64 (r:Int))/\w=w'
theorem len_lo{T:ByteArray}{x:Int}{w:World}{hy:x.toNat<T.size}(hT:okT T=true)(h1:1<=x)(h2:x<256):Len64Is x w (.returned (.int .i64 (wrap64 (wrap64 ((T[x.toNat]'hy).toNat:Int))))) w:=by
 obtain⟨a,b⟩:=okT_at hT (i:=x.toNat) (by omega) (by omega) hy
 generalize (T[x.toNat]'hy).toNat=r at a b ⊢
 refine⟨r,by omega,by omega, ?_,rfl⟩
 congr 2
 unfold wrap64;omega
theorem len_hi{T:ByteArray}{x:Int}{w:World}{hy:(x/256).toNat<T.size}(hT:okT T=true)(h1:256<=x)(h2:x<=60000):Len64Is x w (.returned (.int .i64 (wrap64 (8+wrap64 ((T[(x/256).toNat]'hy).toNat:Int))))) w:=by
 obtain⟨a,b⟩:=okT_at hT (i:=(x/256).toNat) (by omega) (by omega) hy
 generalize (T[(x/256).toNat]'hy).toNat=r at a b ⊢
 have e:(2:Nat) ^ (8+r)=256*2 ^ r:=by rw[Nat.pow_add]
 refine⟨8+r,by omega,by rw[e];omega, ?_,rfl⟩
 congr 2
 unfold wrap64;omega
theorem Len64_pow(x:Int)(w:World)(h0:1<=x)(h1:x<=60000):Calls Tryz.prog 184 #[.int .u64 x] w (Len64Is x w):=by
 have hsz:Lib.len8tab.size=256:=by kernel_rfl
 go_enter Tryz.func184,Tryz.ntmps184
 go_wp2
 all_goals
  go_ret
  first
  | exact len_hi (by decide +kernel) (by omega) (by omega)
  | exact len_lo (by decide +kernel) (by omega) (by omega)
theorem Len_pow(x:Int)(w:World)(h0:1<=x)(h1:x<=60000):Calls Tryz.prog 392 #[.int .u64 x] w (Len64Is x w):=by
 go_enter Tryz.func392,Tryz.ntmps392
 go_wp2_with(first|(go_at_call 184;refine (Len64_pow _ _ h0 h1).mono ?_;rintro e w' ⟨r,h2,h3,rfl,rfl⟩)|fail)
 go_ret
 exact⟨r,h2,h3,rfl,rfl⟩
def Pow2 (x:Int) (w:World) (e:Ending) (w':World):Prop:=∃ m:Nat,((m+1:Nat):Int)<=2*x/\e = .returned (.int .u64 ((m+1:Nat):Int))/\w=w'
theorem nextPow_any(x:Int)(w:World)(h0:1<=x)(h1:x<=60000):Calls Tryz.prog 406 #[.int .i64 x] w (Pow2 x w):=by
 go_enter Tryz.func406,Tryz.ntmps406
 go_wp2_with fail
 refine (Len_pow x w h0 h1).mono ?_
 rintro e w' ⟨r,h2,h3,rfl,rfl⟩
 have hp:0<(2:Nat) ^ r:=Nat.two_pow_pos r
 obtain⟨m,hm⟩:∃ m,(2:Nat) ^ r=m+1:=⟨2 ^ r-1,by omega⟩
 have h16:(2:Nat) ^ r<=2 ^ 16:=Nat.pow_le_pow_right (by omega) h2
 have hz:(2:Int) ^ r=((m+1:Nat):Int):=by rw[<-hm,Int.natCast_pow];rfl
 have hzw:IntKind.u64.wrap ((2:Int) ^ r)=((m+1:Nat):Int):=by
  rw[hz]
  simp only[IntKind.wrap,IntKind.bits,IntKind.signed]
  simp
  omega
 go_wp2
 go_ret
 exact⟨m,by rw[<-hm];exact h3,by go_num,rfl⟩
theorem gdrew{w w':World}{row:Option Nat}(h:w.grownBy w' row):w.grownBy w'.drew row:=⟨h.os,h.tape,h.output,h.size,h.block⟩
def Drawn (s:Nat) (w:World) (e:Ending) (w':World):Prop:=∃ v:Int,e = .returned (.int .u64 v)/\w.grownBy w' (some s)/\∃ X:Int,Boxed w' s 399 (.int .u64 X)
theorem Next_any(s:Nat)(w:World)(hs:∃ X:Int,Boxed w s 399 (.int .u64 X)):Calls Tryz.prog 407 #[.pointer (some ⟨s,0,none⟩)] w (Drawn s w):=by
 obtain⟨X,hs⟩:=hs
 go_enter Tryz.func407,Tryz.ntmps407
 go_upto_region 1 with fail
 go_cut [] from 3 (fun wx => ∃ X:Int,Boxed wx s 399 (.int .u64 X)/\w.grownBy wx (some s))
 case first =>
  have hsc:=hs.cell
  have hsf:=hs.frozen
  go_region
  go_wp2
  go_meet
  exact⟨_,hs.set _,gdrew (grownBy_setCell' _ _ _)⟩
 case rest =>
  clear hs X
  obtain⟨X,hs,hg⟩:=hcut
  go_upto_region 2 with fail
  go_cut [] from 3 (fun wx => ∃ X:Int,Boxed wx s 399 (.int .u64 X)/\w.grownBy wx (some s))
  case first =>
   have hsc:=hs.cell
   have hsf:=hs.frozen
   go_region
   go_wp2
   go_meet
   exact⟨_,hs.set _,World.grownBy.trans hg (gdrew (grownBy_setCell' _ _ _))⟩
  case rest =>
   clear hs hg X
   obtain⟨X,hs,hg⟩:=hcut
   go_upto_region 3 with fail
   go_cut [] from 3 (fun wx => ∃ X:Int,Boxed wx s 399 (.int .u64 X)/\w.grownBy wx (some s))
   case first =>
    have hsc:=hs.cell
    have hsf:=hs.frozen
    go_region
    go_wp2
    go_meet
    exact⟨_,hs.set _,World.grownBy.trans hg (gdrew (grownBy_setCell' _ _ _))⟩
   case rest =>
    clear hs hg X
    obtain⟨X,hs,hg⟩:=hcut
    have hsc:=hs.cell
    have hsf:=hs.frozen
    go_wp2
    go_ret
    exact⟨X,rfl,hg,X,hs⟩
theorem grownBy_setCell''(W:World)(p:Addr)(v:Value):W.grownBy (W.setCell p v) (some p.block) :=
 ⟨rfl,rfl,rfl,(KeepsWalks.setCell W _ v).size,fun k _ hk=>Below.heap_setCell _ _ _ k (fun e=>hk (by rw[e]))⟩
theorem box_two{W:World}{B g i j:Nat}{t:TypeId}{v u1 u2:Value}(h:Boxed W B t v)(hne:B≠g):Boxed ((W.setCell ⟨g,i,none⟩ u1).setCell ⟨g,j,none⟩ u2).drew B t v :=
 (h.kept (grownBy_setCell'' W ⟨g,i,none⟩ u1) (fun e=>hne (Option.some.inj e))).kept (gdrew (grownBy_setCell'' _ ⟨g,j,none⟩ u2)) (fun e=>hne (Option.some.inj e))
theorem u64_and_le(v:Int)(m:Nat)(hm:m<1000000):∃ o:Nat,o<=m/\bits .and .u64 v (m:Int)=(o:Int):=by
 refine⟨(BitVec.ofInt 64 v &&& BitVec.ofInt 64 (m:Int)).toNat, ?_, ?_⟩
 ·rw[BitVec.toNat_and,BitVec.ofInt_natCast,BitVec.toNat_ofNat,Nat.mod_eq_of_lt (by omega)]
  exact Nat.and_le_right
 ·show IntKind.u64.wrap ((BitVec.ofInt 64 v &&& BitVec.ofInt 64 (m:Int)).toNat:Int)=_
  have:(BitVec.ofInt 64 v &&& BitVec.ofInt 64 (m:Int)).toNat<2 ^ 64:=BitVec.isLt _
  generalize (BitVec.ofInt 64 v &&& BitVec.ofInt 64 (m:Int)).toNat=o at this ⊢
  simp only[IntKind.wrap,IntKind.bits,IntKind.signed]
  simp
  omega
theorem breakPatterns_any(base g cap a b:Nat)(d:Array Nat)(w:World)(hw:OW base g cap d w)(hab:a+12<b)(hd:b<=d.size)(hsz:d.size<=60000) :
  Calls Tryz.prog 397 #[.slice (some ⟨g,0,none⟩) d.size cap,.int .i64 a,.int .i64 b] w (Sorts base g cap (fun d'=>PermIn a b d d') w):=by
 go_enter Tryz.func397,Tryz.ntmps397
 go_upto_region 0 with fail
 go_cut [6] from 11 (fun s6 wx => ∃ l:Nat,s6 = .int .i64 (l:Int)/\l+a=b/\wx=w)
 case first =>
  go_wp2_with fail
  go_meet
  exact⟨b-a,by go_num,by omega,rfl⟩
 case rest =>
  obtain⟨l,rfl,hl,hwc⟩:=hcut
  rw[hwc]
  clear hwc
  have hq:((l:Int)).tdiv 4=((l/4:Nat):Int):=by rw[Int.tdiv_eq_ediv_of_nonneg (by omega)];omega
  obtain⟨q,hq2⟩:∃ q,l/4=q:=⟨_,rfl⟩
  rw[hq2]at hq
  have hq3:3<=q/\4*q<=l:=by omega
  have HQ:=Lib.hid hq2
  clear hq2
  have h8:(8:Int)<=(l:Int):=by omega
  have w1:IntKind.i64.wrap (q:Int)=(q:Int):=IntWalk.i64_in _ (by omega)
  go_wp2_with fail
  refine (nextPow_any (l:Int) _ (by omega) (by omega)).mono ?_
  rintro e w2 ⟨M,hM,rfl,rfl⟩
  have hB0:Boxed (w.alloc (.cells #[.int .u64 (l:Int)] 399)) w.heap.size 399 (.int .u64 (l:Int)):=Boxed.new _ _ _
  have hG0:w.grownBy (w.alloc (.cells #[.int .u64 (l:Int)] 399)) none:=World.grownBy_alloc _ _ _
  have hW0:OW base g cap d (w.alloc (.cells #[.int .u64 (l:Int)] 399)):=hw.kept (World.grownBy_alloc _ _ none) (.inr (by simp[Value.ownBlock]))
  have hgs:g<w.heap.size:=(hw.lt).2
  go_upto_region 4 with fail
  go_cut [9] from 11 (fun s9 wx => ∃ i:Nat,s9 = .int .i64 (i:Int)/\i+1=a+q*2/\wx=w.alloc (.cells #[.int .u64 (l:Int)] 399))
  case first =>
   go_wp2_with fail
   go_meet
   exact⟨a+q*2-1,by go_num,by omega,rfl⟩
  case rest =>
   obtain⟨i0,rfl,hi0,hwc⟩:=hcut
   rw[hwc]
   clear hwc
   go_wp2
   go_loopg [9] 3 (fun k s9 wr => ∃ (i:Nat) (dk:Array Nat),s9 = .int .i64 (i:Int)/\i+k=a+q*2+2/\k<=3/\Hid (dk.size=d.size)/\Hid (PermIn a b d dk)/\SW base g cap w dk wr/\∃ X:Int,Boxed wr w.heap.size 399 (.int .u64 X))
   case atStart=>exact⟨i0,d,rfl,by omega,Nat.le_refl _,Lib.hid rfl,Lib.hid (permIn_refl d a b),⟨hW0,⟨hG0.os,hG0.tape,hG0.output,hG0.size,fun k hk _=>hG0.block k hk (by simp)⟩⟩,_,hB0⟩
   case round =>
    clear hW0 hG0 hB0
    obtain⟨i,dk,rfl,hik,hk3,HDk,HP,hS,hX⟩:=hrel
    have w2:IntKind.i64.wrap ((q:Int)*2)=(q:Int)*2:=IntWalk.i64_in _ (by omega)
    rcases gk with _|k
    ·have hdn:¬ (i:Int)<=(a:Int)+(q:Int)*2+1:=by omega
     have hdm:(a:Int)+(q:Int)*2+1<(i:Int):=by omega
     go_wp2
     go_end0
     exact⟨rfl,dk,HP.out,hS⟩
    ·have hdn:(i:Int)<=(a:Int)+(q:Int)*2+1:=by omega
     have hia:a<=i:=by omega
     have hib:i<b:=by omega
     go_upto_region 7 with fail
     go_cut [10] from 26 to 64 (fun s10 wx => ∃ o:Nat,s10 = .int .i64 (o:Int)/\o<2*l/\SW base g cap w dk wx/\∃ X:Int,Boxed wx w.heap.size 399 (.int .u64 X))
     case first =>
      go_wp2_with fail
      refine (Next_any w.heap.size wr hX).mono ?_
      rintro e w3 ⟨v,rfl,hG,hX2⟩
      obtain⟨o,ho,hov⟩:=u64_and_le v M (by omega)
      have wM:IntKind.u64.wrap (M:Int)=(M:Int):=by simp only[IntKind.wrap,IntKind.bits,IntKind.signed];simp;omega
      have wo:IntKind.i64.wrap (o:Int)=(o:Int):=IntWalk.i64_in _ (by omega)
      go_wp2
      go_meet
      refine⟨o,by first|rfl|go_num,by omega,⟨hS.1.kept hG (.inr (by simp[Value.ownBlock];omega)), ?_⟩,hX2⟩
      exact⟨hG.os.trans hS.2.os,hG.tape.trans hS.2.tape,hG.output.trans hS.2.output,Nat.le_trans hS.2.size hG.size,fun j hj hne=>(hG.block j (Nat.lt_of_lt_of_le hj hS.2.size) (fun e=>by cases e;omega)).trans (hS.2.block j hj hne)⟩
     case rest =>
      clear hS hX
      obtain⟨o,rfl,ho,hS,hX⟩:=hcut
      go_upto_region 8 with fail
      go_upto_if 43 with fail
      go_cut [10] from 26 to 64 (fun s10 wx => ∃ o:Nat,s10 = .int .i64 (o:Int)/\o<l/\wx=wc)
      case first =>
       by_cases hol:l<=o
       ·have holz:(l:Int)<=(o:Int):=by omega
        go_wp2_with fail
        go_meet
        exact⟨o-l,by go_num,by omega,rfl⟩
       ·have holz:¬ (l:Int)<=(o:Int):=by omega
        have holy:(o:Int)<(l:Int):=by omega
        go_wp2_with fail
        go_meet
        exact⟨o,rfl,by omega,rfl⟩
      case rest =>
       clear ho
       obtain⟨o,rfl,ho,hwc⟩:=hcut
       rw[hwc]
       clear hwc
       have wo:IntKind.i64.wrap ((a:Int)+(o:Int))=(a:Int)+(o:Int):=IntWalk.i64_in _ (by omega)
       have hx:∃ x,dk[i]! = x:=⟨_,rfl⟩
       obtain⟨x,hx⟩:=hx
       have hy:∃ y,dk[a+o]! = y:=⟨_,rfl⟩
       obtain⟨y,hy⟩:=hy
       have c1:=hS.1.cell (i:=i) (by rw[HDk.out];omega)
       have f1:=hS.1.frozen (i)
       have c2:=hS.1.cell (i:=a+o) (by rw[HDk.out];omega)
       have f2:=hS.1.frozen (a+o)
       rw[hx]at c1
       rw[hy]at c2
       have HX:=Lib.hid hx
       have HY:=Lib.hid hy
       clear hx hy
       have hS2:=hS.set (i) y
       have c3:=hS2.1.cell (i:=a+o) (by rw[Array.size_setIfInBounds,HDk.out];omega)
       have f3:=hS2.1.frozen (a+o)
       generalize (Array.setIfInBounds dk (i) y)[a+o]! = z at c3
       clear hS2
       have b1:((i:Nat):Int)<(d.size:Int):=by omega
       have n1:(0:Int)<=((i:Nat):Int):=by omega
       have b2:((a+o:Nat):Int)<(d.size:Int):=by omega
       have n2:(0:Int)<=((a+o:Nat):Int):=by omega
       go_wp2
       go_region
       have hsw:=(hS.swap (i:=i) (j:=a+o)).drew
       rw[HX.out,HY.out]at hsw
       clear hS c1 c2 f1 f2 c3 f3 HX HY
       have hX3:=hX.imp fun X h=>box_two (g:=g) (i:=i) (j:=a+o) (u1:=.int .i32 (y:Int)) (u2:=.int .i32 (x:Int)) h (by omega)
       generalize World.drew _=w5 at hsw hX3 ⊢
       have HP2:Hid (PermIn a b d (swp dk i (a+o))):=Lib.hid (permIn_trans _ _ _ a b HP.out (swp_permIn dk a b i (a+o) hia hib (by omega) (by omega) (by rw[HDk.out];exact hd)))
       go_wp2_with fail
       go_roundg k
       case measure=>omega
       case rel=>exact⟨i+1,_,by go_num,by omega,by omega,Lib.hid (by rw[size_swp,HDk.out]),HP2,hsw,hX3⟩
def PartIns (base g cap:Nat) (R:Array Nat × Bool) (w:World) (e:Ending) (w':World):Prop:=∃ r d',R=(d',r)/\e = .returned (.bool r)/\SW base g cap w d' w'
theorem shiftDown_size:∀ (j:Nat) (d:Array Nat),(shiftDown ltN j d).size=d.size
 | 0,_=>rfl
 | j + 1, d => by
  cases h:ltN d[j+1]! d[j]! with
  | true=>rw[sdn_go h,shiftDown_size j,size_swp]
  | false=>rw[sdn_end h]
theorem fixDown_size(a i:Nat)(d:Array Nat):(fixDown ltN a i d).size=d.size:=by
 unfold fixDown;split
 ·exact shiftDown_size _ _
 ·rfl
theorem partialInsertionSort_walk(base g cap a b:Nat)(d:Array Nat)(w:World)(hw:OW base g cap d w)(hab:a<b)(hb:b<=d.size)(hsz:d.size<=1000000) :
  Calls Tryz.prog 400 #[.slice (some ⟨g,0,none⟩) d.size cap,.int .i64 a,.int .i64 b] w (PartIns base g cap (partialInsertionSort ltN d a b) w):=by
 obtain⟨R,hR⟩:∃ R,partialInsertionSort ltN d a b=R:=⟨_,rfl⟩
 have HR:Hid (partialIns ltN a b 5 (a+1) d=R):=Lib.hid hR
 rw[hR]
 clear hR
 go_enter Tryz.func400,Tryz.ntmps400
 go_wp2
 go_loopg [7,8] 5 (fun k s7 s8 wr => ∃ (i j:Nat) (dk:Array Nat),s7 = .int .i64 i/\s8 = .int .i64 j/\j+k=5/\a+1<=i/\i<=b/\Hid (dk.size=d.size)/\SW base g cap w dk wr/\Hid (partialIns ltN a b k i dk=R))
 case atStart=>exact⟨a+1,0,d,by go_num,rfl,rfl,Nat.le_refl _,hab,Lib.hid rfl,SW.refl hw,HR⟩
 case round =>
  clear HR
  obtain⟨i,j,dk,rfl,rfl,hjk,hi1,hi2,HDk,hS,HE⟩:=hrel
  rcases gk with _|k
  ·obtain rfl:j=5:=by omega
   go_wp2
   go_ret
   exact⟨false,dk,HE.out.symm,rfl,hS⟩
  ·have hj5:j<5:=by omega
   go_wp2
   go_loopg [7] (b-i) (fun k s7 wr => ∃ t:Nat,s7 = .int .i64 ((t+1:Nat):Int)/\k=b-(t+1)/\i<=t+1/\t+1<=b/\SW base g cap w dk wr/\Hid (scanSorted ltN dk b (t+1)=scanSorted ltN dk b i))
   case atStart=>obtain⟨i,rfl⟩:∃ i',i=i'+1:=⟨i-1,by omega⟩;exact⟨i,rfl,rfl,Nat.le_refl _,hi2,hS,Lib.hid rfl⟩
   case round =>
    clear hS
    obtain⟨t,rfl,rfl,ht1,ht2,hS,HI⟩:=hrel
    go_upto_region 5 with fail
    go_cut [32] from 17 to 34 (fun sc wx=>sc = .bool (decide (t+1<b) && !ltN dk[t+1]! dk[t]!)/\SW base g cap w dk wx)
    case first =>
     by_cases hg:t+1<b
     ·have hwj:IntKind.i64.wrap (t:Int)=(t:Int):=IntWalk.i64_in _ (by omega)
      have c1:=hS.1.cell (i:=t+1) (by rw[HDk.out];omega)
      have f1:=hS.1.frozen (t+1)
      have c2:=hS.1.cell (i:=t) (by rw[HDk.out];omega)
      have f2:=hS.1.frozen (t)
      have b1:((t+1:Nat):Int)<(d.size:Int):=by omega
      have n1:(0:Int)<=((t+1:Nat):Int):=by omega
      have b2:((t:Nat):Int)<(d.size:Int):=by omega
      have n2:(0:Int)<=((t:Nat):Int):=by omega
      have hd1:decide ((t:Int)+1<(b:Int))=true:=decide_eq_true (by omega)
      go_quiet ((go_at_call 401;exact Calls.quiet_of_same (lessN rfl _)))
      go_wp2
      go_meet
      exact⟨by rw[decide_eq_true hg];rfl,hS.drewN _⟩
     ·have hd1:decide ((t:Int)+1<(b:Int))=false:=decide_eq_false (by omega)
      go_quiet (fail)
      go_wp2
      go_meet
      exact⟨by rw[decide_eq_false hg];rfl,hS.drewN _⟩
    case rest =>
     obtain⟨rfl,hS⟩:=hcut
     cases hB:(decide (t+1<b) && !ltN dk[t+1]! dk[t]!) with
     | true =>
      have HB:=Lib.hid hB
      clear hB
      have hij:t+1<b:=by have h:=HB.out;simp only[Bool.and_eq_true,decide_eq_true_eq]at h;exact h.1
      go_wp2_with fail
      go_roundg (b-(t+1+1))
      case measure=>omega
      case rel=>exact⟨t+1,by go_num,rfl,by omega,by omega,hS,Lib.hid (by rw[<-HI.out];have h:=HB.out;simp only[Bool.and_eq_true,decide_eq_true_eq,Bool.not_eq_true']at h;exact (ss_go h.1 (by simpa using h.2)).symm)⟩
     | false =>
      have HI2:Hid (scanSorted ltN dk b i=t+1):=Lib.hid (by rw[<-HI.out];exact ss_end fun hle=>by simpa[hle] using hB)
      clear hB HI
      by_cases hub:t+1=b
      ·have HF:Hid (R=(dk,true)):=Lib.hid (by rw[<-HE.out,partialIns_succ,HI2.out,if_pos hub])
       have hbz:(b:Int)=((t+1:Nat):Int):=by omega
       have hd1:(((t+1:Nat):Int)==(b:Int))=true:=by simp[hbz]
       have hd2:((t:Int)+1==(b:Int))=true:=by simp[hbz]
       go_wp2
       go_ret
       exact⟨true,dk,HF.out,rfl,hS⟩
      ·have hd1:(((t+1:Nat):Int)==(b:Int))=false:=by simp;omega
       have hd2:((t:Int)+1==(b:Int))=false:=by simp;omega
       have hd3:¬ (t:Int)+1=(b:Int):=by omega
       by_cases h50:b-a<50
       ·have HF:Hid (R=(dk,false)):=Lib.hid (by rw[<-HE.out,partialIns_succ,HI2.out,if_neg hub,if_pos h50])
        have h50z:(b:Int)-(a:Int)<50:=by omega
        go_wp2
        go_ret
        exact⟨false,dk,HF.out,rfl,hS⟩
       ·have HE2:Hid (partialIns ltN a b k (t+1) (fixUp ltN b (t+1) (fixDown ltN a (t+1) (swp dk (t+1) t)))=R):=Lib.hid (by rw[<-HE.out,partialIns_succ,HI2.out,if_neg hub,if_neg h50];rfl)
        have h50z:¬ (b:Int)-(a:Int)<50:=by omega
        have h50y:(50:Int)<=(b:Int)-(a:Int):=by omega
        clear HE HI2
        go_upto_region 11 with fail
        obtain⟨x,hx⟩:∃ x,dk[t+1]! = x:=⟨_,rfl⟩
        obtain⟨y,hy⟩:∃ y,dk[t]! = y:=⟨_,rfl⟩
        have c1:=hS.1.cell (i:=t+1) (by rw[HDk.out];omega)
        have f1:=hS.1.frozen (t+1)
        have c2:=hS.1.cell (i:=t) (by rw[HDk.out];omega)
        have f2:=hS.1.frozen (t)
        rw[hx]at c1
        rw[hy]at c2
        have HX:=Lib.hid hx
        have HY:=Lib.hid hy
        clear hx hy
        have b1:((t+1:Nat):Int)<(d.size:Int):=by omega
        have n1:(0:Int)<=((t+1:Nat):Int):=by omega
        have b2:((t:Nat):Int)<(d.size:Int):=by omega
        have n2:(0:Int)<=((t:Nat):Int):=by omega
        have hwj:IntKind.i64.wrap (t:Int)=(t:Int):=IntWalk.i64_in _ (by omega)
        go_wp2
        go_region
        clear hwj
        have hsw:=(hS.swap (i:=t+1) (j:=t)).drew
        rw[HX.out,HY.out]at hsw
        clear hS c1 c2 f1 f2 HX HY
        generalize World.drew _=w3 at hsw ⊢
        have hS:=hsw
        clear hsw
        obtain⟨d1,hd1'⟩:∃ d1,swp dk (t+1) t=d1:=⟨_,rfl⟩
        rw[hd1']at hS HE2
        have HD1:Hid (d1.size=d.size):=Lib.hid (by rw[<-hd1',size_swp,HDk.out])
        clear hd1'
        go_upto_if 61 with fail
        go_cut [] from 13 to 132 (fun wx=>SW base g cap w (fixDown ltN a (t+1) d1) wx)
        case first =>
         by_cases h2:t+1-a ≥ 2
         ·have h2z:(2:Int)<=((t+1:Nat):Int)-(a:Int):=by omega
          have hwt:IntKind.i64.wrap (t:Int)=(t:Int):=IntWalk.i64_in _ (by omega)
          have HF:Hid (fixDown ltN a (t+1) d1=shiftDown ltN t d1):=Lib.hid (by unfold fixDown;rw[if_pos h2];rfl)
          go_wp2
          go_loopg [9] (0+t) (fun k s9 wr => ∃ (j:Nat) (dj:Array Nat),s9 = .int .i64 j/\k=0+j/\j<=t/\Hid (dj.size=d.size)/\SW base g cap w dj wr/\Hid (shiftDown ltN j dj=shiftDown ltN t d1))
          case atStart=>exact⟨t,d1,by go_num,rfl,Nat.le_refl _,HD1,hS,Lib.hid rfl⟩
          case round =>
           clear hS
           obtain⟨j3,dj,rfl,rfl,hj1,HDj,hS,HJ⟩:=hrel
           rcases j3 with _|q
           ·go_wp2
            go_meet
            rw[HF.out,<-HJ.out];exact hS
           ·have hq1:(1:Int)<=((q+1:Nat):Int):=by omega
            obtain⟨x,hx⟩:∃ x,dj[q+1]! = x:=⟨_,rfl⟩
            obtain⟨y,hy⟩:∃ y,dj[q]! = y:=⟨_,rfl⟩
            have c1:=hS.1.cell (i:=q+1) (by rw[HDj.out];omega)
            have f1:=hS.1.frozen (q+1)
            have c2:=hS.1.cell (i:=q) (by rw[HDj.out];omega)
            have f2:=hS.1.frozen (q)
            rw[hx]at c1
            rw[hy]at c2
            have HX:=Lib.hid hx
            have HY:=Lib.hid hy
            clear hx hy
            have hwj:IntKind.i64.wrap (q:Int)=(q:Int):=IntWalk.i64_in _ (by omega)
            cases hl:ltN x y with
            | true =>
             have HLT:=Lib.hid hl
             clear hl
             go_wp2
             go_quiet ((go_at_call 401;exact Calls.quiet_of_same (lessN HLT.out _)))
             have hS:=hS.drewN nq
             clear c1 c2 f1 f2
             have c1:=hS.1.cell (i:=q+1) (by rw[HDj.out];omega)
             have f1:=hS.1.frozen (q+1)
             have c2:=hS.1.cell (i:=q) (by rw[HDj.out];omega)
             have f2:=hS.1.frozen q
             rw[HX.out]at c1
             rw[HY.out]at c2
             generalize World.drewN _ nq=wr3 at hS c1 c2 f1 f2 ⊢
             have b1:((q+1:Nat):Int)<(d.size:Int):=by omega
             have n1:(0:Int)<=((q+1:Nat):Int):=by omega
             have b2:((q:Nat):Int)<(d.size:Int):=by omega
             have n2:(0:Int)<=((q:Nat):Int):=by omega
             go_wp2
             go_region
             have hsw:=(hS.swap (i:=q+1) (j:=q)).drew
             rw[HX.out,HY.out]at hsw
             go_wp2_with fail
             go_roundg (0+q)
             case measure=>omega
             case rel=>exact⟨q,_,by go_num,rfl,by omega,Lib.hid (by rw[size_swp,HDj.out]),hsw,Lib.hid (by rw[<-HJ.out,sdn_go (by rw[HX.out,HY.out];exact HLT.out)])⟩
            | false =>
             have HLT:=Lib.hid hl
             clear hl
             go_wp2
             go_quiet ((go_at_call 401;exact Calls.quiet_of_same (lessN HLT.out _)))
             go_wp2
             go_meet
             rw[HF.out,<-HJ.out,sdn_end (by rw[HX.out,HY.out];exact HLT.out)];exact hS.drewN _
         ·have h2z:¬ (2:Int)<=((t+1:Nat):Int)-(a:Int):=by omega
          have h2y:((t+1:Nat):Int)-(a:Int)<2:=by omega
          go_wp2
          go_meet
          unfold fixDown;rw[if_neg h2];exact hS
        case rest =>
         clear hS
         have hS:=hcut
         clear hcut
         obtain⟨d2,hd2'⟩:∃ d2,fixDown ltN a (t+1) d1=d2:=⟨_,rfl⟩
         rw[hd2']at hS HE2
         have HD2:Hid (d2.size=d.size):=Lib.hid (by rw[<-hd2',fixDown_size,HD1.out])
         clear hd2' HD1
         by_cases h2:b-(t+1) ≥ 2
         ·have h2z:(2:Int)<=(b:Int)-((t+1:Nat):Int):=by omega
          have HF:Hid (fixUp ltN b (t+1) d2=shiftUp ltN b (t+2) d2):=Lib.hid (by unfold fixUp;rw[if_pos h2])
          go_wp2
          go_loopg [10] (b-(t+1)) (fun k s10 wr => ∃ (q:Nat) (dj:Array Nat),s10 = .int .i64 ((q+1:Nat):Int)/\k=b-q/\t+1<=q/\q+1<=b/\Hid (dj.size=d.size)/\SW base g cap w dj wr/\Hid (shiftUp ltN b (q+1) dj=shiftUp ltN b (t+2) d2))
          case atStart=>exact⟨t+1,d2,by go_num,rfl,Nat.le_refl _,by omega,HD2,hS,Lib.hid rfl⟩
          case round =>
           clear hS
           obtain⟨q,dj,rfl,rfl,hq1,hq2,HDj,hS,HJ⟩:=hrel
           by_cases hqb:q+1<b
           ·have hqz:((q+1:Nat):Int)<(b:Int):=by omega
            obtain⟨x,hx⟩:∃ x,dj[q+1]! = x:=⟨_,rfl⟩
            obtain⟨y,hy⟩:∃ y,dj[q]! = y:=⟨_,rfl⟩
            have c1:=hS.1.cell (i:=q+1) (by rw[HDj.out];omega)
            have f1:=hS.1.frozen (q+1)
            have c2:=hS.1.cell (i:=q) (by rw[HDj.out];omega)
            have f2:=hS.1.frozen (q)
            rw[hx]at c1
            rw[hy]at c2
            have HX:=Lib.hid hx
            have HY:=Lib.hid hy
            clear hx hy
            have hwj:IntKind.i64.wrap (q:Int)=(q:Int):=IntWalk.i64_in _ (by omega)
            cases hl:ltN x y with
            | true =>
             have HLT:=Lib.hid hl
             clear hl
             go_wp2
             go_quiet ((go_at_call 401;exact Calls.quiet_of_same (lessN HLT.out _)))
             have hS:=hS.drewN nq
             clear c1 c2 f1 f2
             have c1:=hS.1.cell (i:=q+1) (by rw[HDj.out];omega)
             have f1:=hS.1.frozen (q+1)
             have c2:=hS.1.cell (i:=q) (by rw[HDj.out];omega)
             have f2:=hS.1.frozen q
             rw[HX.out]at c1
             rw[HY.out]at c2
             generalize World.drewN _ nq=wr3 at hS c1 c2 f1 f2 ⊢
             have b1:((q+1:Nat):Int)<(d.size:Int):=by omega
             have n1:(0:Int)<=((q+1:Nat):Int):=by omega
             have b2:((q:Nat):Int)<(d.size:Int):=by omega
             have n2:(0:Int)<=((q:Nat):Int):=by omega
             go_wp2
             go_region
             have hsw:=(hS.swap (i:=q+1) (j:=q)).drew
             rw[HX.out,HY.out]at hsw
             go_wp2_with fail
             go_roundg (b-(q+1))
             case measure=>omega
             case rel=>exact⟨q+1,_,by go_num,rfl,by omega,by omega,Lib.hid (by rw[size_swp,HDj.out]),hsw,Lib.hid (by rw[<-HJ.out,sup_go hqb (by rw[Nat.add_sub_cancel,HX.out,HY.out];exact HLT.out)];rfl)⟩
            | false =>
             have HLT:=Lib.hid hl
             clear hl
             go_wp2
             go_quiet ((go_at_call 401;exact Calls.quiet_of_same (lessN HLT.out _)))
             have HU:fixUp ltN b (t+1) d2=dj:=by rw[HF.out,<-HJ.out,sup_end (fun _=>by rw[Nat.add_sub_cancel,HX.out,HY.out];exact HLT.out)]
             go_wp2_with fail
             go_roundg k
             case measure=>omega
             case rel=>exact⟨t+1,j+1,_,rfl,by go_num,by omega,by omega,ht2,HDj,hS.drewN _,Lib.hid (by rw[<-HE2.out,HU])⟩
           ·have hqz:¬ ((q+1:Nat):Int)<(b:Int):=by omega
            have HU:fixUp ltN b (t+1) d2=dj:=by rw[HF.out,<-HJ.out,sup_end (fun h=>absurd h hqb)]
            go_wp2_with fail
            go_roundg k
            case measure=>omega
            case rel=>exact⟨t+1,j+1,_,rfl,by go_num,by omega,by omega,ht2,HDj,hS,Lib.hid (by rw[<-HE2.out,HU])⟩
         ·have h2z:¬ (2:Int)<=(b:Int)-((t+1:Nat):Int):=by omega
          have h2y:(b:Int)-((t+1:Nat):Int)<2:=by omega
          have HU:fixUp ltN b (t+1) d2=d2:=by unfold fixUp;rw[if_neg h2]
          go_wp2_with fail
          go_roundg k
          case measure=>omega
          case rel=>exact⟨t+1,j+1,_,rfl,by go_num,by omega,by omega,ht2,HD2,hS,Lib.hid (by rw[<-HE2.out,HU])⟩
theorem half{n:Nat}(h:1<=n):(((n:Nat):Int)-1).tdiv 2=(((n-1)/2+1:Nat):Int)-1:=by
 obtain⟨m,rfl⟩:∃ m,n=m+1:=⟨n-1,by omega⟩
 have e:(((m+1:Nat):Nat):Int)-1=(m:Int):=by omega
 rw[e,Int.tdiv_eq_ediv_of_nonneg (by omega)]
 omega
theorem heapSort_walk(base g cap a n:Nat)(d:Array Nat)(w:World)(hw:OW base g cap d w)(hn:1<=n)(hb:a+n<=d.size)(hsz:d.size<=1000000) :
  Calls Tryz.prog 396 #[.slice (some ⟨g,0,none⟩) d.size cap,.int .i64 a,.int .i64 ((a+n:Nat):Int)] w (Sorts base g cap (fun d'=>d'=heapSort ltN d a (a+n)) w):=by
 go_enter Tryz.func396,Tryz.ntmps396
 go_upto_region 2 with fail
 go_cut [8] from 12 (fun s8 wx=>s8 = .int .i64 (n:Int)/\SW base g cap w d wx)
 case first =>
  go_wp2_with fail
  go_meet
  exact⟨by go_num,SW.refl hw⟩
 case rest =>
  obtain⟨rfl,hS⟩:=hcut
  obtain⟨K,hK⟩:∃ K,(n-1)/2+1=K:=⟨_,rfl⟩
  have hKn:K<=n:=by omega
  go_upto_region 3 with fail
  go_cut [9] from 12 (fun s9 wx=>s9 = .int .i64 ((K:Int)-1)/\SW base g cap w d wx)
  case first =>
   have hh:=half hn
   rw[hK]at hh
   have w1:IntKind.i64.wrap ((n:Int)-1)=(n:Int)-1:=IntWalk.i64_in _ (by omega)
   have w2:IntKind.i64.wrap (((n:Int)-1).tdiv 2)=((n:Int)-1).tdiv 2:=by rw[hh];exact IntWalk.i64_in _ (by omega)
   go_wp2_with fail
   go_meet
   exact⟨by simp,hS⟩
  case rest =>
   clear hS
   obtain⟨rfl,hS⟩:=hcut
   have HK:=Lib.hid hK
   clear hK
   go_wp2
   go_loopg [9] K (fun k s9 wr => ∃ dk:Array Nat,s9 = .int .i64 ((k:Int)-1)/\k<=K/\Hid (dk.size=d.size)/\SW base g cap w dk wr/\Hid (heapBuild ltN n a k dk=heapBuild ltN n a K d))
   case atStart=>exact⟨d,rfl,Nat.le_refl _,Lib.hid rfl,hS,Lib.hid rfl⟩
   case round =>
    clear hS
    obtain⟨dk,hs9,hk,HDS,hS,HE⟩:=hrel
    rcases gk with _|k
    ·have e0:(((0:Nat):Int)-1) = -1:=by omega
     rw[e0]at hs9
     subst hs9
     go_upto_region 7 with fail
     go_cut [10] from 12 (fun s10 wx=>s10 = .int .i64 ((n:Int)-1)/\SW base g cap w dk wx)
     case first =>
      have w1:IntKind.i64.wrap ((n:Int)-1)=(n:Int)-1:=IntWalk.i64_in _ (by omega)
      go_wp2_with fail
      go_meet
      exact⟨rfl,hS⟩
     case rest =>
      clear hS
      obtain⟨rfl,hS⟩:=hcut
      have HE2:Hid (heapPop ltN a n dk=heapSort ltN d a (a+n)):=Lib.hid (by
       have h:=HE.out
       rw[hb_0]at h
       unfold heapSort
       rw[Nat.add_sub_cancel_left,HK.out,h])
      clear HE
      go_wp2
      go_loopg [10] n (fun k s10 wr => ∃ dk:Array Nat,s10 = .int .i64 ((k:Int)-1)/\k<=n/\Hid (dk.size=d.size)/\SW base g cap w dk wr/\Hid (heapPop ltN a k dk=heapSort ltN d a (a+n)))
      case atStart=>exact⟨dk,rfl,Nat.le_refl _,HDS,hS,HE2⟩
      case round =>
       clear hS HDS HE2
       obtain⟨dk,hs10,hk,HDS,hS,HE⟩:=hrel
       rcases gk with _|k
       ·rw[e0]at hs10
        subst hs10
        go_wp2
        go_end0
        exact⟨rfl,dk,HE.out,hS⟩
       ·have e1:(((k+1:Nat):Int)-1)=(k:Int):=by omega
        rw[e1]at hs10
        subst hs10
        have wF:IntKind.i64.wrap ((a:Int)+(k:Int))=(a:Int)+(k:Int):=IntWalk.i64_in _ (by omega)
        have hx:∃ x,dk[a]! = x:=⟨_,rfl⟩
        obtain⟨x,hx⟩:=hx
        have hy:∃ y,dk[a+k]! = y:=⟨_,rfl⟩
        obtain⟨y,hy⟩:=hy
        have c1:=hS.1.cell (i:=a) (by rw[HDS.out];omega)
        have f1:=hS.1.frozen (a)
        have c2:=hS.1.cell (i:=a+k) (by rw[HDS.out];omega)
        have f2:=hS.1.frozen (a+k)
        rw[hx]at c1
        rw[hy]at c2
        have HX:=Lib.hid hx
        have HY:=Lib.hid hy
        clear hx hy
        have hS2:=hS.set (a) y
        have c3:=hS2.1.cell (i:=a+k) (by rw[Array.size_setIfInBounds,HDS.out];omega)
        have f3:=hS2.1.frozen (a+k)
        generalize (Array.setIfInBounds dk (a) y)[a+k]! = z at c3
        clear hS2
        have b1:((a:Nat):Int)<(d.size:Int):=by omega
        have n1:(0:Int)<=((a:Nat):Int):=by omega
        have b2:((a+k:Nat):Int)<(d.size:Int):=by omega
        have n2:(0:Int)<=((a+k:Nat):Int):=by omega
        go_wp2
        go_region
        have hsw:=(hS.swap (i:=a) (j:=a+k)).drew
        rw[HX.out,HY.out]at hsw
        clear hS c1 c2 f1 f2 c3 f3 HX HY
        generalize World.drew _=wr3 at hsw ⊢
        have hcall:=siftDown_walk base g cap 0 k a (swp dk a (a+k)) wr3 hsw.1 (by omega) (by rw[size_swp,HDS.out];omega) (by rw[size_swp,HDS.out];omega)
        rw[size_swp,HDS.out]at hcall
        have HC:=Lib.hid hcall
        clear hcall
        go_wp2_with(first|(go_at_call 405;refine HC.out.mono ?_;rintro e w' ⟨rfl,d',rfl,hS'⟩)|fail)
        have w9:IntKind.i64.wrap ((k:Int)-1)=(k:Int)-1:=IntWalk.i64_in _ (by omega)
        go_wp2
        go_roundg k
        case measure=>omega
        case rel=>exact⟨_,rfl,by omega,Lib.hid (by rw[siftDown_size _ _ _ _ _ (Nat.le_refl _),size_swp,HDS.out]),hsw.trans hS',Lib.hid (by rw[<-HE.out,hp_s])⟩
    ·have e1:(((k+1:Nat):Int)-1)=(k:Int):=by omega
     rw[e1]at hs9
     subst hs9
     have hcall:=siftDown_walk base g cap k n a dk wr hS.1 (by omega) (by rw[HDS.out];omega) (by rw[HDS.out];omega)
     rw[HDS.out]at hcall
     have HC:=Lib.hid hcall
     clear hcall
     have w9:IntKind.i64.wrap ((k:Int)-1)=(k:Int)-1:=IntWalk.i64_in _ (by omega)
     go_wp2_with(first|(go_at_call 405;refine HC.out.mono ?_;rintro e w' ⟨rfl,d',rfl,hS'⟩)|fail)
     go_wp2
     go_roundg k
     case measure=>omega
     case rel=>exact⟨_,rfl,by omega,Lib.hid (by rw[siftDown_size _ _ _ _ _ (Nat.le_refl _),HDS.out]),hS.trans hS',Lib.hid (by rw[<-HE.out,hb_s])⟩
theorem partition_walk(base g cap a b pv:Nat)(d:Array Nat)(w:World)(hw:OW base g cap d w)(hp1:a<=pv)(hp2:pv<b)(hb:b<=d.size)(hsz:d.size<=1000000) :
  Calls Tryz.prog 403 #[.slice (some ⟨g,0,none⟩) d.size cap,.int .i64 a,.int .i64 b,.int .i64 pv] w (fun e w' => ∃ m ap d',partition ltN d a b pv=(m,ap,d')/\e = .returned (.tuple #[.int .i64 (m:Int),.bool ap])/\SW base g cap w d' w'):=by
 have hS:=SW.refl hw
 have HDd:Hid (d.size=d.size):=Lib.hid rfl
 obtain⟨J,rfl⟩:∃ J,b=J+1:=⟨b-1,by omega⟩
 go_enter Tryz.func403,Tryz.ntmps403
 have hx:∃ x,d[a]! = x:=⟨_,rfl⟩
 obtain⟨x,hx⟩:=hx
 have hy:∃ y,d[pv]! = y:=⟨_,rfl⟩
 obtain⟨y,hy⟩:=hy
 have c1:=hS.1.cell (i:=a) (by rw[HDd.out];omega)
 have f1:=hS.1.frozen (a)
 have c2:=hS.1.cell (i:=pv) (by rw[HDd.out];omega)
 have f2:=hS.1.frozen (pv)
 rw[hx]at c1
 rw[hy]at c2
 have HX:=Lib.hid hx
 have HY:=Lib.hid hy
 clear hx hy
 have hS2:=hS.set (a) y
 have c3:=hS2.1.cell (i:=pv) (by rw[Array.size_setIfInBounds,HDd.out];omega)
 have f3:=hS2.1.frozen (pv)
 generalize (Array.setIfInBounds d (a) y)[pv]! = z at c3
 clear hS2
 have b1:((a:Nat):Int)<(d.size:Int):=by omega
 have n1:(0:Int)<=((a:Nat):Int):=by omega
 have b2:((pv:Nat):Int)<(d.size:Int):=by omega
 have n2:(0:Int)<=((pv:Nat):Int):=by omega
 go_wp2
 go_region
 have hsw:=(hS.swap (i:=a) (j:=pv)).drew
 rw[HX.out,HY.out]at hsw
 clear hS c1 c2 f1 f2 c3 f3 HX HY
 generalize World.drew _=w1 at hsw ⊢
 have hS:=hsw
 clear hsw
 obtain⟨d1,hd1⟩:∃ d1,swp d a pv=d1:=⟨_,rfl⟩
 rw[hd1]at hS
 have HD1:Hid (d1.size=d.size):=Lib.hid (by rw[<-hd1,size_swp])
 have HSP:=Lib.hid hd1
 clear hd1
 go_upto_region 2 with fail
 go_cut [10,11] from 12 (fun si sj wx=>si = .int .i64 ((a+1:Nat):Int)/\sj = .int .i64 (J:Int)/\SW base g cap w d1 wx)
 case first =>
  go_wp2_with fail
  go_meet
  exact⟨by go_num,by go_num,hS⟩
 case rest =>
  clear hS
  obtain⟨rfl,rfl,hS⟩:=hcut
  clear hw
  go_wp2
  go_loopg [10] (J+1-(a+1)) (fun k si wr => ∃ i:Nat,si = .int .i64 i/\k=J+1-i/\(a+1)<=i/\i<=J+1/\SW base g cap w d1 wr/\Hid (scanUp (fun x=>ltN x d1[a]!) d1 J i=scanUp (fun x=>ltN x d1[a]!) d1 J (a+1)))
  case atStart=>exact⟨(a+1),by first|rfl|go_num,rfl,Nat.le_refl _,by omega,hS,Lib.hid rfl⟩
  case round =>
   clear hS
   obtain⟨i,rfl,rfl,hi1,hi2,hS,HI⟩:=hrel
   go_upto_region 3 with fail
   go_cut [43] from 30 to 45 (fun sc wx=>sc = .bool (decide (i<=J)&&ltN d1[i]! d1[a]!)/\SW base g cap w d1 wx)
   case first =>
    by_cases hg:i<=J
    ·have c1:=hS.1.cell (i:=i) (by rw[HD1.out];omega)
     have f1:=hS.1.frozen (i)
     have c2:=hS.1.cell (i:=a) (by rw[HD1.out];omega)
     have f2:=hS.1.frozen (a)
     have b1:((i:Nat):Int)<(d.size:Int):=by omega
     have n1:(0:Int)<=((i:Nat):Int):=by omega
     have b2:((a:Nat):Int)<(d.size:Int):=by omega
     have n2:(0:Int)<=((a:Nat):Int):=by omega
     have hd1:decide ((i:Int)<=(J:Int))=true:=decide_eq_true (by omega)
     go_quiet ((go_at_call 401;exact Calls.quiet_of_same (lessN rfl _)))
     go_wp2
     go_meet
     exact⟨by rw[decide_eq_true hg];rfl,hS.drewN _⟩
    ·have hd1:decide ((i:Int)<=(J:Int))=false:=decide_eq_false (by omega)
     go_quiet (fail)
     go_wp2
     go_meet
     exact⟨by rw[decide_eq_false hg];rfl,hS.drewN _⟩
   case rest =>
    obtain⟨rfl,hS⟩:=hcut
    cases hB:(decide (i<=J)&&ltN d1[i]! d1[a]!) with
    | true =>
     have HB:=Lib.hid hB
     clear hB
     have hij:i<=J:=by have h:=HB.out;simp only[Bool.and_eq_true,decide_eq_true_eq]at h;exact h.1
     go_wp2_with fail
     go_roundg (J+1-(i+1))
     case measure=>omega
     case rel=>exact⟨i+1,by go_num,rfl,by omega,by omega,hS,Lib.hid (by rw[<-HI.out];have h:=HB.out;simp only[Bool.and_eq_true,decide_eq_true_eq]at h;exact (up_go h.1 (by simpa using h.2)).symm)⟩
    | false =>
     have HI2:Hid (scanUp (fun x=>ltN x d1[a]!) d1 J (a+1)=i):=Lib.hid (by rw[<-HI.out];exact up_end fun hle=>by simpa[hle] using hB)
     clear hB HI
     go_wp2
     go_loopg [11] (0+J) (fun k sj wr => ∃ j:Nat,sj = .int .i64 j/\k=0+j/\j<=J/\i<=j+1/\SW base g cap w d1 wr/\Hid (scanDown (fun x => !ltN x d1[a]!) d1 i j=scanDown (fun x => !ltN x d1[a]!) d1 i J))
     case atStart=>exact⟨J,by first|rfl|go_num,rfl,Nat.le_refl _,hi2,hS,Lib.hid rfl⟩
     case round =>
      clear hS
      obtain⟨j,rfl,rfl,hj1,hj2,hS,HJ⟩:=hrel
      go_upto_region 5 with fail
      go_cut [60] from 46 to 62 (fun sc wx=>sc = .bool (decide (i<=j) && !ltN d1[j]! d1[a]!)/\SW base g cap w d1 wx)
      case first =>
       by_cases hg:i<=j
       ·have c1:=hS.1.cell (i:=j) (by rw[HD1.out];omega)
        have f1:=hS.1.frozen (j)
        have c2:=hS.1.cell (i:=a) (by rw[HD1.out];omega)
        have f2:=hS.1.frozen (a)
        have b1:((j:Nat):Int)<(d.size:Int):=by omega
        have n1:(0:Int)<=((j:Nat):Int):=by omega
        have b2:((a:Nat):Int)<(d.size:Int):=by omega
        have n2:(0:Int)<=((a:Nat):Int):=by omega
        have hd1:decide ((i:Int)<=(j:Int))=true:=decide_eq_true (by omega)
        go_quiet ((go_at_call 401;exact Calls.quiet_of_same (lessN rfl _)))
        go_wp2
        go_meet
        exact⟨by rw[decide_eq_true hg];rfl,hS.drewN _⟩
       ·have hd1:decide ((i:Int)<=(j:Int))=false:=decide_eq_false (by omega)
        go_quiet (fail)
        go_wp2
        go_meet
        exact⟨by rw[decide_eq_false hg];rfl,hS.drewN _⟩
      case rest =>
       obtain⟨rfl,hS⟩:=hcut
       cases hB:(decide (i<=j) && !ltN d1[j]! d1[a]!) with
       | true =>
        have HB:=Lib.hid hB
        clear hB
        have hij:i<=j:=by have h:=HB.out;simp only[Bool.and_eq_true,decide_eq_true_eq]at h;exact h.1
        obtain⟨j,rfl⟩:∃ j',j=j'+1:=⟨j-1,by omega⟩
        go_wp2_with fail
        go_roundg (0+j)
        case measure=>omega
        case rel=>exact⟨j,by go_num,rfl,by omega,by omega,hS,Lib.hid (by rw[<-HJ.out];have h:=HB.out;simp only[Bool.and_eq_true,decide_eq_true_eq]at h;exact (down_go h.1 (by simpa using h.2)).symm)⟩
       | false =>
        have HJ2:Hid (scanDown (fun x => !ltN x d1[a]!) d1 i J=j):=Lib.hid (by rw[<-HJ.out];exact down_end fun hle=>by simpa[hle] using hB)
        clear hB HJ
        by_cases hij:j<i
        ·have HPP:Hid (partition ltN d a (J+1) pv=(j,true,swp d1 j a)):=Lib.hid (by unfold partition;simp only[HSP.out,Nat.add_sub_cancel,HI2.out,HJ2.out];rw[if_pos hij])
         have hx:∃ x,d1[j]! = x:=⟨_,rfl⟩
         obtain⟨x,hx⟩:=hx
         have hy:∃ y,d1[a]! = y:=⟨_,rfl⟩
         obtain⟨y,hy⟩:=hy
         have c1:=hS.1.cell (i:=j) (by rw[HD1.out];omega)
         have f1:=hS.1.frozen (j)
         have c2:=hS.1.cell (i:=a) (by rw[HD1.out];omega)
         have f2:=hS.1.frozen (a)
         rw[hx]at c1
         rw[hy]at c2
         have HX:=Lib.hid hx
         have HY:=Lib.hid hy
         clear hx hy
         have hS2:=hS.set (j) y
         have c3:=hS2.1.cell (i:=a) (by rw[Array.size_setIfInBounds,HD1.out];omega)
         have f3:=hS2.1.frozen (a)
         generalize (Array.setIfInBounds d1 (j) y)[a]! = z at c3
         clear hS2
         have b1:((j:Nat):Int)<(d.size:Int):=by omega
         have n1:(0:Int)<=((j:Nat):Int):=by omega
         have b2:((a:Nat):Int)<(d.size:Int):=by omega
         have n2:(0:Int)<=((a:Nat):Int):=by omega
         go_wp2
         go_region
         have hsw:=(hS.swap (i:=j) (j:=a)).drew
         rw[HX.out,HY.out]at hsw
         clear hS c1 c2 f1 f2 c3 f3 HX HY
         generalize World.drew _=w3 at hsw ⊢
         go_wp2
         go_ret2
         exact⟨j,true,_,HPP.out,rfl,hsw⟩
        ·have hij2:i<=j:=by omega
         have hne:=scans_ne (fun x=>by simp) HI2.out HJ2.out (by omega) hij2
         obtain⟨j,rfl⟩:∃ j',j=j'+1:=⟨j-1,by omega⟩
         have HPP:Hid (partition ltN d a (J+1) pv=((partLoop ltN a (i+1) j (swp d1 i (j+1))).1,false,swp (partLoop ltN a (i+1) j (swp d1 i (j+1))).2 (partLoop ltN a (i+1) j (swp d1 i (j+1))).1 a)):=Lib.hid (by unfold partition;simp only[HSP.out,Nat.add_sub_cancel,HI2.out,HJ2.out];rw[if_neg hij])
         have hx:∃ x,d1[i]! = x:=⟨_,rfl⟩
         obtain⟨x,hx⟩:=hx
         have hy:∃ y,d1[j+1]! = y:=⟨_,rfl⟩
         obtain⟨y,hy⟩:=hy
         have c1:=hS.1.cell (i:=i) (by rw[HD1.out];omega)
         have f1:=hS.1.frozen (i)
         have c2:=hS.1.cell (i:=j+1) (by rw[HD1.out];omega)
         have f2:=hS.1.frozen (j+1)
         rw[hx]at c1
         rw[hy]at c2
         have HX:=Lib.hid hx
         have HY:=Lib.hid hy
         clear hx hy
         have hS2:=hS.set (i) y
         have c3:=hS2.1.cell (i:=j+1) (by rw[Array.size_setIfInBounds,HD1.out];omega)
         have f3:=hS2.1.frozen (j+1)
         generalize (Array.setIfInBounds d1 (i) y)[j+1]! = z at c3
         clear hS2
         have b1:((i:Nat):Int)<(d.size:Int):=by omega
         have n1:(0:Int)<=((i:Nat):Int):=by omega
         have b2:((j+1:Nat):Int)<(d.size:Int):=by omega
         have n2:(0:Int)<=((j+1:Nat):Int):=by omega
         go_wp2
         go_region
         have hsw:=(hS.swap (i:=i) (j:=j+1)).drew
         rw[HX.out,HY.out]at hsw
         clear hS c1 c2 f1 f2 c3 f3 HX HY
         generalize World.drew _=w3 at hsw ⊢
         have hS:=hsw
         clear hsw
         obtain⟨d2,hd2⟩:∃ d2,swp d1 i (j+1)=d2:=⟨_,rfl⟩
         rw[hd2]at hS HPP
         have HD2:Hid (d2.size=d.size):=Lib.hid (by rw[<-hd2,size_swp,HD1.out])
         clear hd2 HI2 HJ2
         obtain⟨R,hR⟩:∃ R,partLoop ltN a (i+1) j d2=R:=⟨_,rfl⟩
         rw[hR]at HPP
         have HR:=Lib.hid hR
         clear hR
         go_wp2
         go_loopg [10,11] (j+1-(i+1)) (fun k si sj wr => ∃ (i0 j0:Nat) (dk:Array Nat),si = .int .i64 i0/\sj = .int .i64 j0/\k=j0+1-i0/\a<i0/\i0<=j0+1/\j0<J+1/\Hid (dk.size=d.size)/\SW base g cap w dk wr/\Hid (partLoop ltN a i0 j0 dk=R))
         case atStart=>exact⟨i+1,j,d2,by go_num,by go_num,rfl,by omega,by omega,by omega,HD2,hS,HR⟩
         case round =>
          clear hS HR HD2 HD1 HSP hi1 hi2 hj1 hj2 hij hij2 hne
          obtain⟨i0,j0,dk,rfl,rfl,rfl,ha0,hi0,hj0,HDk,hS,HE⟩:=hrel
          go_wp2
          go_loopg [10] (j0+1-i0) (fun k si wr => ∃ i:Nat,si = .int .i64 i/\k=j0+1-i/\i0<=i/\i<=j0+1/\SW base g cap w dk wr/\Hid (scanUp (fun x=>ltN x dk[a]!) dk j0 i=scanUp (fun x=>ltN x dk[a]!) dk j0 i0))
          case atStart=>exact⟨i0,by first|rfl|go_num,rfl,Nat.le_refl _,by omega,hS,Lib.hid rfl⟩
          case round =>
           clear hS
           obtain⟨i,rfl,rfl,hi1,hi2,hS,HI⟩:=hrel
           go_upto_region 13 with fail
           go_cut [112] from 99 to 114 (fun sc wx=>sc = .bool (decide (i<=j0)&&ltN dk[i]! dk[a]!)/\SW base g cap w dk wx)
           case first =>
            by_cases hg:i<=j0
            ·have c1:=hS.1.cell (i:=i) (by rw[HDk.out];omega)
             have f1:=hS.1.frozen (i)
             have c2:=hS.1.cell (i:=a) (by rw[HDk.out];omega)
             have f2:=hS.1.frozen (a)
             have b1:((i:Nat):Int)<(d.size:Int):=by omega
             have n1:(0:Int)<=((i:Nat):Int):=by omega
             have b2:((a:Nat):Int)<(d.size:Int):=by omega
             have n2:(0:Int)<=((a:Nat):Int):=by omega
             have hd1:decide ((i:Int)<=(j0:Int))=true:=decide_eq_true (by omega)
             go_quiet ((go_at_call 401;exact Calls.quiet_of_same (lessN rfl _)))
             go_wp2
             go_meet
             exact⟨by rw[decide_eq_true hg];rfl,hS.drewN _⟩
            ·have hd1:decide ((i:Int)<=(j0:Int))=false:=decide_eq_false (by omega)
             go_quiet (fail)
             go_wp2
             go_meet
             exact⟨by rw[decide_eq_false hg];rfl,hS.drewN _⟩
           case rest =>
            obtain⟨rfl,hS⟩:=hcut
            cases hB:(decide (i<=j0)&&ltN dk[i]! dk[a]!) with
            | true =>
             have HB:=Lib.hid hB
             clear hB
             have hij:i<=j0:=by have h:=HB.out;simp only[Bool.and_eq_true,decide_eq_true_eq]at h;exact h.1
             go_wp2_with fail
             go_roundg (j0+1-(i+1))
             case measure=>omega
             case rel=>exact⟨i+1,by go_num,rfl,by omega,by omega,hS,Lib.hid (by rw[<-HI.out];have h:=HB.out;simp only[Bool.and_eq_true,decide_eq_true_eq]at h;exact (up_go h.1 (by simpa using h.2)).symm)⟩
            | false =>
             have HI2:Hid (scanUp (fun x=>ltN x dk[a]!) dk j0 i0=i):=Lib.hid (by rw[<-HI.out];exact up_end fun hle=>by simpa[hle] using hB)
             clear hB HI
             go_wp2
             go_loopg [11] (0+j0) (fun k sj wr => ∃ j:Nat,sj = .int .i64 j/\k=0+j/\j<=j0/\i<=j+1/\SW base g cap w dk wr/\Hid (scanDown (fun x => !ltN x dk[a]!) dk i j=scanDown (fun x => !ltN x dk[a]!) dk i j0))
             case atStart=>exact⟨j0,by first|rfl|go_num,rfl,Nat.le_refl _,hi2,hS,Lib.hid rfl⟩
             case round =>
              clear hS
              obtain⟨j,rfl,rfl,hj1,hj2,hS,HJ⟩:=hrel
              go_upto_region 15 with fail
              go_cut [129] from 115 to 131 (fun sc wx=>sc = .bool (decide (i<=j) && !ltN dk[j]! dk[a]!)/\SW base g cap w dk wx)
              case first =>
               by_cases hg:i<=j
               ·have c1:=hS.1.cell (i:=j) (by rw[HDk.out];omega)
                have f1:=hS.1.frozen (j)
                have c2:=hS.1.cell (i:=a) (by rw[HDk.out];omega)
                have f2:=hS.1.frozen (a)
                have b1:((j:Nat):Int)<(d.size:Int):=by omega
                have n1:(0:Int)<=((j:Nat):Int):=by omega
                have b2:((a:Nat):Int)<(d.size:Int):=by omega
                have n2:(0:Int)<=((a:Nat):Int):=by omega
                have hd1:decide ((i:Int)<=(j:Int))=true:=decide_eq_true (by omega)
                go_quiet ((go_at_call 401;exact Calls.quiet_of_same (lessN rfl _)))
                go_wp2
                go_meet
                exact⟨by rw[decide_eq_true hg];rfl,hS.drewN _⟩
               ·have hd1:decide ((i:Int)<=(j:Int))=false:=decide_eq_false (by omega)
                go_quiet (fail)
                go_wp2
                go_meet
                exact⟨by rw[decide_eq_false hg];rfl,hS.drewN _⟩
              case rest =>
               obtain⟨rfl,hS⟩:=hcut
               cases hB:(decide (i<=j) && !ltN dk[j]! dk[a]!) with
               | true =>
                have HB:=Lib.hid hB
                clear hB
                have hij:i<=j:=by have h:=HB.out;simp only[Bool.and_eq_true,decide_eq_true_eq]at h;exact h.1
                obtain⟨j,rfl⟩:∃ j',j=j'+1:=⟨j-1,by omega⟩
                go_wp2_with fail
                go_roundg (0+j)
                case measure=>omega
                case rel=>exact⟨j,by go_num,rfl,by omega,by omega,hS,Lib.hid (by rw[<-HJ.out];have h:=HB.out;simp only[Bool.and_eq_true,decide_eq_true_eq]at h;exact (down_go h.1 (by simpa using h.2)).symm)⟩
               | false =>
                have HJ2:Hid (scanDown (fun x => !ltN x dk[a]!) dk i j0=j):=Lib.hid (by rw[<-HJ.out];exact down_end fun hle=>by simpa[hle] using hB)
                clear hB HJ
                by_cases hij:j<i
                ·have HEQ:Hid (partLoop ltN a i0 j0 dk=(j,dk)):=Lib.hid (by rw[partLoop_eq];simp only[HI2.out,HJ2.out];rw[if_pos hij])
                 have hx:∃ x,dk[j]! = x:=⟨_,rfl⟩
                 obtain⟨x,hx⟩:=hx
                 have hy:∃ y,dk[a]! = y:=⟨_,rfl⟩
                 obtain⟨y,hy⟩:=hy
                 have c1:=hS.1.cell (i:=j) (by rw[HDk.out];omega)
                 have f1:=hS.1.frozen (j)
                 have c2:=hS.1.cell (i:=a) (by rw[HDk.out];omega)
                 have f2:=hS.1.frozen (a)
                 rw[hx]at c1
                 rw[hy]at c2
                 have HX:=Lib.hid hx
                 have HY:=Lib.hid hy
                 clear hx hy
                 have hS2:=hS.set (j) y
                 have c3:=hS2.1.cell (i:=a) (by rw[Array.size_setIfInBounds,HDk.out];omega)
                 have f3:=hS2.1.frozen (a)
                 generalize (Array.setIfInBounds dk (j) y)[a]! = z at c3
                 clear hS2
                 have b1:((j:Nat):Int)<(d.size:Int):=by omega
                 have n1:(0:Int)<=((j:Nat):Int):=by omega
                 have b2:((a:Nat):Int)<(d.size:Int):=by omega
                 have n2:(0:Int)<=((a:Nat):Int):=by omega
                 go_wp2
                 go_region
                 have hsw:=(hS.swap (i:=j) (j:=a)).drew
                 rw[HX.out,HY.out]at hsw
                 clear hS c1 c2 f1 f2 c3 f3 HX HY
                 generalize World.drew _=w3 at hsw ⊢
                 go_wp2
                 go_ret2
                 exact⟨j,false,_,by rw[HPP.out,<-HE.out,HEQ.out],rfl,hsw⟩
                ·have hij2:i<=j:=by omega
                 have hne:=scans_ne (fun x=>by simp) HI2.out HJ2.out (by omega) hij2
                 have HEQ:Hid (partLoop ltN a i0 j0 dk=partLoop ltN a (i+1) (j-1) (swp dk i j)):=Lib.hid (by rw[partLoop_eq];simp only[HI2.out,HJ2.out];rw[if_neg hij])
                 have hx:∃ x,dk[i]! = x:=⟨_,rfl⟩
                 obtain⟨x,hx⟩:=hx
                 have hy:∃ y,dk[j]! = y:=⟨_,rfl⟩
                 obtain⟨y,hy⟩:=hy
                 have c1:=hS.1.cell (i:=i) (by rw[HDk.out];omega)
                 have f1:=hS.1.frozen (i)
                 have c2:=hS.1.cell (i:=j) (by rw[HDk.out];omega)
                 have f2:=hS.1.frozen (j)
                 rw[hx]at c1
                 rw[hy]at c2
                 have HX:=Lib.hid hx
                 have HY:=Lib.hid hy
                 clear hx hy
                 have hS2:=hS.set (i) y
                 have c3:=hS2.1.cell (i:=j) (by rw[Array.size_setIfInBounds,HDk.out];omega)
                 have f3:=hS2.1.frozen (j)
                 generalize (Array.setIfInBounds dk (i) y)[j]! = z at c3
                 clear hS2
                 have b1:((i:Nat):Int)<(d.size:Int):=by omega
                 have n1:(0:Int)<=((i:Nat):Int):=by omega
                 have b2:((j:Nat):Int)<(d.size:Int):=by omega
                 have n2:(0:Int)<=((j:Nat):Int):=by omega
                 go_wp2
                 go_region
                 have hsw:=(hS.swap (i:=i) (j:=j)).drew
                 rw[HX.out,HY.out]at hsw
                 clear hS c1 c2 f1 f2 c3 f3 HX HY
                 generalize World.drew _=w3 at hsw ⊢
                 obtain⟨j,rfl⟩:∃ j',j=j'+1:=⟨j-1,by omega⟩
                 go_wp2_with fail
                 go_roundg (j+1-(i+1))
                 case measure=>omega
                 case rel=>exact⟨i+1,j,_,by go_num,by go_num,rfl,by omega,by omega,by omega,Lib.hid (by rw[size_swp,HDk.out]),hsw,Lib.hid (by rw[<-HE.out,HEQ.out];rfl)⟩
theorem partitionEqual_walk(base g cap a b pv:Nat)(d:Array Nat)(w:World)(hw:OW base g cap d w)(hp1:a<=pv)(hp2:pv<b)(hb:b<=d.size)(hsz:d.size<=1000000) :
  Calls Tryz.prog 402 #[.slice (some ⟨g,0,none⟩) d.size cap,.int .i64 a,.int .i64 b,.int .i64 pv] w (fun e w' => ∃ m d',partitionEqual ltN d a b pv=(m,d')/\e = .returned (.int .i64 (m:Int))/\SW base g cap w d' w'):=by
 have hS:=SW.refl hw
 have HDd:Hid (d.size=d.size):=Lib.hid rfl
 obtain⟨J,rfl⟩:∃ J,b=J+1:=⟨b-1,by omega⟩
 go_enter Tryz.func402,Tryz.ntmps402
 have hx:∃ x,d[a]! = x:=⟨_,rfl⟩
 obtain⟨x,hx⟩:=hx
 have hy:∃ y,d[pv]! = y:=⟨_,rfl⟩
 obtain⟨y,hy⟩:=hy
 have c1:=hS.1.cell (i:=a) (by rw[HDd.out];omega)
 have f1:=hS.1.frozen (a)
 have c2:=hS.1.cell (i:=pv) (by rw[HDd.out];omega)
 have f2:=hS.1.frozen (pv)
 rw[hx]at c1
 rw[hy]at c2
 have HX:=Lib.hid hx
 have HY:=Lib.hid hy
 clear hx hy
 have hS2:=hS.set (a) y
 have c3:=hS2.1.cell (i:=pv) (by rw[Array.size_setIfInBounds,HDd.out];omega)
 have f3:=hS2.1.frozen (pv)
 generalize (Array.setIfInBounds d (a) y)[pv]! = z at c3
 clear hS2
 have b1:((a:Nat):Int)<(d.size:Int):=by omega
 have n1:(0:Int)<=((a:Nat):Int):=by omega
 have b2:((pv:Nat):Int)<(d.size:Int):=by omega
 have n2:(0:Int)<=((pv:Nat):Int):=by omega
 go_wp2
 go_region
 have hsw:=(hS.swap (i:=a) (j:=pv)).drew
 rw[HX.out,HY.out]at hsw
 clear hS c1 c2 f1 f2 c3 f3 HX HY
 generalize World.drew _=w1 at hsw ⊢
 have hS:=hsw
 clear hsw
 obtain⟨d1,hd1⟩:∃ d1,swp d a pv=d1:=⟨_,rfl⟩
 rw[hd1]at hS
 have HD1:Hid (d1.size=d.size):=Lib.hid (by rw[<-hd1,size_swp])
 have HSP:=Lib.hid hd1
 clear hd1
 go_upto_region 2 with fail
 go_cut [9,10] from 11 (fun si sj wx=>si = .int .i64 ((a+1:Nat):Int)/\sj = .int .i64 (J:Int)/\SW base g cap w d1 wx)
 case first =>
  go_wp2_with fail
  go_meet
  exact⟨by go_num,by go_num,hS⟩
 case rest =>
  clear hS
  obtain⟨rfl,rfl,hS⟩:=hcut
  clear hw
  have HPP:Hid (partitionEqual ltN d a (J+1) pv=partEqLoop ltN a (a+1) J d1):=Lib.hid (by unfold partitionEqual;rw[HSP.out];rfl)
  obtain⟨R,hR⟩:∃ R,partEqLoop ltN a (a+1) J d1=R:=⟨_,rfl⟩
  rw[hR]at HPP
  have HR:=Lib.hid hR
  clear hR
  go_wp2
  go_loopg [9,10] (J+1-(a+1)) (fun k si sj wr => ∃ (i0 j0:Nat) (dk:Array Nat),si = .int .i64 i0/\sj = .int .i64 j0/\k=j0+1-i0/\a<i0/\i0<=j0+1/\j0<J+1/\Hid (dk.size=d.size)/\SW base g cap w dk wr/\Hid (partEqLoop ltN a i0 j0 dk=R))
  case atStart=>exact⟨a+1,J,d1,by go_num,by go_num,rfl,by omega,by omega,by omega,HD1,hS,HR⟩
  case round =>
   clear hS HR HD1 HSP
   obtain⟨i0,j0,dk,rfl,rfl,rfl,ha0,hi0,hj0,HDk,hS,HE⟩:=hrel
   go_wp2
   go_loopg [9] (j0+1-i0) (fun k si wr => ∃ i:Nat,si = .int .i64 i/\k=j0+1-i/\i0<=i/\i<=j0+1/\SW base g cap w dk wr/\Hid (scanUp (fun x => !ltN dk[a]! x) dk j0 i=scanUp (fun x => !ltN dk[a]! x) dk j0 i0))
   case atStart=>exact⟨i0,by first|rfl|go_num,rfl,Nat.le_refl _,by omega,hS,Lib.hid rfl⟩
   case round =>
    clear hS
    obtain⟨i,rfl,rfl,hi1,hi2,hS,HI⟩:=hrel
    go_upto_region 3 with fail
    go_cut [43] from 29 to 45 (fun sc wx=>sc = .bool (decide (i<=j0) && !ltN dk[a]! dk[i]!)/\SW base g cap w dk wx)
    case first =>
     by_cases hg:i<=j0
     ·have c1:=hS.1.cell (i:=a) (by rw[HDk.out];omega)
      have f1:=hS.1.frozen (a)
      have c2:=hS.1.cell (i:=i) (by rw[HDk.out];omega)
      have f2:=hS.1.frozen (i)
      have b1:((a:Nat):Int)<(d.size:Int):=by omega
      have n1:(0:Int)<=((a:Nat):Int):=by omega
      have b2:((i:Nat):Int)<(d.size:Int):=by omega
      have n2:(0:Int)<=((i:Nat):Int):=by omega
      have hd1:decide ((i:Int)<=(j0:Int))=true:=decide_eq_true (by omega)
      go_quiet ((go_at_call 401;exact Calls.quiet_of_same (lessN rfl _)))
      go_wp2
      go_meet
      exact⟨by rw[decide_eq_true hg];rfl,hS.drewN _⟩
     ·have hd1:decide ((i:Int)<=(j0:Int))=false:=decide_eq_false (by omega)
      go_quiet (fail)
      go_wp2
      go_meet
      exact⟨by rw[decide_eq_false hg];rfl,hS.drewN _⟩
    case rest =>
     obtain⟨rfl,hS⟩:=hcut
     cases hB:(decide (i<=j0) && !ltN dk[a]! dk[i]!) with
     | true =>
      have HB:=Lib.hid hB
      clear hB
      have hij:i<=j0:=by have h:=HB.out;simp only[Bool.and_eq_true,decide_eq_true_eq]at h;exact h.1
      go_wp2_with fail
      go_roundg (j0+1-(i+1))
      case measure=>omega
      case rel=>exact⟨i+1,by go_num,rfl,by omega,by omega,hS,Lib.hid (by rw[<-HI.out];have h:=HB.out;simp only[Bool.and_eq_true,decide_eq_true_eq]at h;exact (up_go h.1 (by simpa using h.2)).symm)⟩
     | false =>
      have HI2:Hid (scanUp (fun x => !ltN dk[a]! x) dk j0 i0=i):=Lib.hid (by rw[<-HI.out];exact up_end fun hle=>by simpa[hle] using hB)
      clear hB HI
      go_wp2
      go_loopg [10] (0+j0) (fun k sj wr => ∃ j:Nat,sj = .int .i64 j/\k=0+j/\j<=j0/\i<=j+1/\SW base g cap w dk wr/\Hid (scanDown (fun x=>ltN dk[a]! x) dk i j=scanDown (fun x=>ltN dk[a]! x) dk i j0))
      case atStart=>exact⟨j0,by first|rfl|go_num,rfl,Nat.le_refl _,hi2,hS,Lib.hid rfl⟩
      case round =>
       clear hS
       obtain⟨j,rfl,rfl,hj1,hj2,hS,HJ⟩:=hrel
       go_upto_region 5 with fail
       go_cut [59] from 46 to 61 (fun sc wx=>sc = .bool (decide (i<=j)&&ltN dk[a]! dk[j]!)/\SW base g cap w dk wx)
       case first =>
        by_cases hg:i<=j
        ·have c1:=hS.1.cell (i:=a) (by rw[HDk.out];omega)
         have f1:=hS.1.frozen (a)
         have c2:=hS.1.cell (i:=j) (by rw[HDk.out];omega)
         have f2:=hS.1.frozen (j)
         have b1:((a:Nat):Int)<(d.size:Int):=by omega
         have n1:(0:Int)<=((a:Nat):Int):=by omega
         have b2:((j:Nat):Int)<(d.size:Int):=by omega
         have n2:(0:Int)<=((j:Nat):Int):=by omega
         have hd1:decide ((i:Int)<=(j:Int))=true:=decide_eq_true (by omega)
         go_quiet ((go_at_call 401;exact Calls.quiet_of_same (lessN rfl _)))
         go_wp2
         go_meet
         exact⟨by rw[decide_eq_true hg];rfl,hS.drewN _⟩
        ·have hd1:decide ((i:Int)<=(j:Int))=false:=decide_eq_false (by omega)
         go_quiet (fail)
         go_wp2
         go_meet
         exact⟨by rw[decide_eq_false hg];rfl,hS.drewN _⟩
       case rest =>
        obtain⟨rfl,hS⟩:=hcut
        cases hB:(decide (i<=j)&&ltN dk[a]! dk[j]!) with
        | true =>
         have HB:=Lib.hid hB
         clear hB
         have hij:i<=j:=by have h:=HB.out;simp only[Bool.and_eq_true,decide_eq_true_eq]at h;exact h.1
         obtain⟨j,rfl⟩:∃ j',j=j'+1:=⟨j-1,by omega⟩
         go_wp2_with fail
         go_roundg (0+j)
         case measure=>omega
         case rel=>exact⟨j,by go_num,rfl,by omega,by omega,hS,Lib.hid (by rw[<-HJ.out];have h:=HB.out;simp only[Bool.and_eq_true,decide_eq_true_eq]at h;exact (down_go h.1 (by simpa using h.2)).symm)⟩
        | false =>
         have HJ2:Hid (scanDown (fun x=>ltN dk[a]! x) dk i j0=j):=Lib.hid (by rw[<-HJ.out];exact down_end fun hle=>by simpa[hle] using hB)
         clear hB HJ
         by_cases hij:j<i
         ·have HEQ:Hid (partEqLoop ltN a i0 j0 dk=(i,dk)):=Lib.hid (by rw[partEqLoop_eq];simp only[HI2.out,HJ2.out];rw[if_pos hij])
          go_wp2
          go_ret
          exact⟨i,dk,by rw[HPP.out,<-HE.out,HEQ.out],rfl,hS⟩
         ·have hij2:i<=j:=by omega
          have hne:=scans_ne (fun x=>by simp) HI2.out HJ2.out (by omega) hij2
          have HEQ:Hid (partEqLoop ltN a i0 j0 dk=partEqLoop ltN a (i+1) (j-1) (swp dk i j)):=Lib.hid (by rw[partEqLoop_eq];simp only[HI2.out,HJ2.out];rw[if_neg hij])
          have hx:∃ x,dk[i]! = x:=⟨_,rfl⟩
          obtain⟨x,hx⟩:=hx
          have hy:∃ y,dk[j]! = y:=⟨_,rfl⟩
          obtain⟨y,hy⟩:=hy
          have c1:=hS.1.cell (i:=i) (by rw[HDk.out];omega)
          have f1:=hS.1.frozen (i)
          have c2:=hS.1.cell (i:=j) (by rw[HDk.out];omega)
          have f2:=hS.1.frozen (j)
          rw[hx]at c1
          rw[hy]at c2
          have HX:=Lib.hid hx
          have HY:=Lib.hid hy
          clear hx hy
          have hS2:=hS.set (i) y
          have c3:=hS2.1.cell (i:=j) (by rw[Array.size_setIfInBounds,HDk.out];omega)
          have f3:=hS2.1.frozen (j)
          generalize (Array.setIfInBounds dk (i) y)[j]! = z at c3
          clear hS2
          have b1:((i:Nat):Int)<(d.size:Int):=by omega
          have n1:(0:Int)<=((i:Nat):Int):=by omega
          have b2:((j:Nat):Int)<(d.size:Int):=by omega
          have n2:(0:Int)<=((j:Nat):Int):=by omega
          go_wp2
          go_region
          have hsw:=(hS.swap (i:=i) (j:=j)).drew
          rw[HX.out,HY.out]at hsw
          clear hS c1 c2 f1 f2 c3 f3 HX HY
          generalize World.drew _=w3 at hsw ⊢
          obtain⟨j,rfl⟩:∃ j',j=j'+1:=⟨j-1,by omega⟩
          go_wp2_with fail
          go_roundg (j+1-(i+1))
          case measure=>omega
          case rel=>exact⟨i+1,j,_,by go_num,by go_num,rfl,by omega,by omega,by omega,Lib.hid (by rw[size_swp,HDk.out]),hsw,Lib.hid (by rw[<-HE.out,HEQ.out];rfl)⟩
def PdqOk (n : Nat) : Prop := ∀ (base g cap a b lim : Nat) (d : Array Nat) (w : World), OW base g cap d w → a ≤ b → b ≤ d.size → d.size ≤ 50000 → b - a ≤ n → lim ≤ 1000 → Sort.Below ltN a b d →
    Calls Tryz.prog 391 #[.slice (some ⟨g,0,none⟩) d.size cap,.int .i64 a,.int .i64 b,.int .i64 lim] w (Sorts base g cap (fun d'=>PermIn a b d d'/\SortedIn ltN a b d') w)
theorem heap_any(base g cap a b:Nat)(d:Array Nat)(w:World)(hw:OW base g cap d w)(hab:a<b)(hb:b<=d.size)(hsz:d.size<=1000000) :
  Calls Tryz.prog 396 #[.slice (some ⟨g,0,none⟩) d.size cap,.int .i64 a,.int .i64 b] w (Sorts base g cap (fun d'=>PermIn a b d d'/\SortedIn ltN a b d') w):=by
 obtain⟨n,rfl⟩:∃ n,b=a+n:=⟨b-a,by omega⟩
 exact (heapSort_walk base g cap a n d w hw (by omega) hb hsz).mono fun _ _ ⟨he,d',hd,hS⟩=>⟨he,d',by rw[hd];exact heapSort_holds swo d a (a+n) (by omega) hb,hS⟩
theorem rev_any(base g cap a b:Nat)(d:Array Nat)(w:World)(hw:OW base g cap d w)(hab:a<b)(hb:b<=d.size)(hsz:d.size<=1000000) :
  Calls Tryz.prog 399 #[.slice (some ⟨g,0,none⟩) d.size cap,.int .i64 a,.int .i64 b] w (Sorts base g cap (fun d'=>PermIn a b d d') w) :=
 (reverseRange_walk base g cap a b d w hw hab hb hsz).mono fun _ _ ⟨he,d',hd,hS⟩=>⟨he,d',by rw[hd];exact reverseRange_holds d a b (by omega) hb,hS⟩
def PartInsW (base g cap a b:Nat) (d:Array Nat) (w:World) (e:Ending) (w':World):Prop:=∃ d',PermIn a b d d'/\SW base g cap w d' w'/\(e = .returned (.bool false)∨e = .returned (.bool true)/\SortedIn ltN a b d')
theorem pins_any(base g cap a b:Nat)(d:Array Nat)(w:World)(hw:OW base g cap d w)(hab:a<b)(hb:b<=d.size)(hsz:d.size<=1000000)(hB:Sort.Below ltN a b d) :
  Calls Tryz.prog 400 #[.slice (some ⟨g,0,none⟩) d.size cap,.int .i64 a,.int .i64 b] w (PartInsW base g cap a b d w) :=
 (partialInsertionSort_walk base g cap a b d w hw hab hb hsz).mono fun _ _ ⟨r,d',hr,he,hS⟩=>by
  obtain⟨h1,h2⟩:=partialInsertionSort_holds (lt:=ltN) swo d a b hab hb hB
  rw[hr]at h1 h2
  cases r with
  | false=>exact⟨d',h1,hS,.inl he⟩
  | true=>exact⟨d',h1,hS,.inr ⟨he,h2 rfl⟩⟩
def Rest (a b a' b':Nat) (d dk:Array Nat):Prop:=∀ R,PermIn a' b' dk R->SortedIn ltN a' b' R->PermIn a b d R/\SortedIn ltN a b R
theorem Rest.perm{a b a' b':Nat}{d dk d2:Array Nat}(h:Rest a b a' b' d dk)(hp:PermIn a' b' dk d2):Rest a b a' b' d d2:=fun R h1 h2=>h R (permIn_trans _ _ _ a' b' hp h1) h2
theorem pdq_step(n:Nat)(hn:∀ m,m<n->PdqOk m):PdqOk n:=by
 intro base g cap a b lim d w hw hab hb hsz hbn hlim hB
 have HN:=Lib.hid hn
 clear hn
 go_enter Tryz.func391,Tryz.ntmps391
 go_wp2
 go_loopg [1,2,3,8,9] (b-a) (fun k s1 s2 s3 s8 s9 wr => ∃ (a' b' lim:Nat) (wb wp:Bool) (dk:Array Nat),s1 = .int .i64 (a':Int)/\s2 = .int .i64 (b':Int)/\s3 = .int .i64 (lim:Int)/\s8 = .bool wb/\s9 = .bool wp /\
  k=b'-a'/\a'<=b'/\b'<=d.size/\b'-a'<=n/\lim<=1000/\Hid (dk.size=d.size)/\Hid (Sort.Below ltN a' b' dk)/\SW base g cap w dk wr/\Hid (Rest a b a' b' d dk))
 case atStart=>exact⟨a,b,lim,true,true,d,rfl,rfl,rfl,rfl,rfl,rfl,hab,hb,hbn,hlim,Lib.hid rfl,Lib.hid hB,SW.refl hw,Lib.hid fun R h1 h2=>⟨h1,h2⟩⟩
 case round =>
  clear hB hw hlim hbn
  obtain⟨a',b',lim,wb,wp,dk,rfl,rfl,rfl,rfl,rfl,rfl,hab',hb',hbn,hlim,HDk,HB,hS,HR⟩:=hrel
  go_upto_region 2 with fail
  go_cut [10] from 19 to 133 (fun s10 wx => ∃ l:Nat,s10 = .int .i64 (l:Int)/\l+a'=b'/\SW base g cap w dk wx)
  case first =>
   go_wp2_with fail
   go_meet
   exact⟨b'-a',by go_num,by omega,hS⟩
  case rest =>
   clear hS
   obtain⟨l,rfl,hl,hS⟩:=hcut
   by_cases h12:l<=12
   ·have h12z:(l:Int)<=12:=by omega
    have hcall:=insertionSort_any base g cap a' b' dk wc hS.1 hab' (by rw[HDk.out];exact hb') (by rw[HDk.out];omega)
    rw[HDk.out]at hcall
    have HC:=Lib.hid hcall
    clear hcall
    go_wp2_with(first|(go_at_call 395;refine HC.out.mono ?_;rintro e w' ⟨rfl,d',hd',hS'⟩)|fail)
    go_end0
    exact⟨rfl,d',HR.out d' hd'.1 hd'.2,hS.trans hS'⟩
   ·have h12z:¬ (l:Int)<=12:=by omega
    have h12y:(12:Int)<(l:Int):=by omega
    have hsz2:dk.size<=50000:=by rw[HDk.out];exact hsz
    by_cases hl0:lim=0
    ·subst hl0
     have hcall:=heap_any base g cap a' b' dk wc hS.1 (by omega) (by rw[HDk.out];exact hb') (by omega)
     rw[HDk.out]at hcall
     have HC:=Lib.hid hcall
     clear hcall
     go_wp2_with(first|(go_at_call 396;refine HC.out.mono ?_;rintro e w' ⟨rfl,d',hd',hS'⟩)|fail)
     go_end0
     exact⟨rfl,d',HR.out d' hd'.1 hd'.2,hS.trans hS'⟩
    ·have hl0z:((lim:Int)==0)=false:=by simp;omega
     have hl0y:¬ (lim:Int)=0:=by omega
     have hl1:(1:Int)<=(lim:Int):=by omega
     go_upto_if 35 with fail
     go_cut [3] from 19 to 133 (fun s3 wx => ∃ (lim:Nat) (d1:Array Nat),s3 = .int .i64 (lim:Int)/\lim<=1000/\d1.size=d.size/\Hid (PermIn a' b' dk d1)/\SW base g cap w d1 wx)
     case first =>
      cases wb with
      | false =>
       have hcall:=breakPatterns_any base g cap a' b' dk wc hS.1 (by omega) (by rw[HDk.out];exact hb') (by omega)
       rw[HDk.out]at hcall
       have HC:=Lib.hid hcall
       clear hcall
       go_wp2_with(first|(go_at_call 397;refine HC.out.mono ?_;rintro e w' ⟨rfl,d',hd',hS'⟩)|fail)
       go_meet
       exact⟨lim-1,d',by go_num,by omega,by rw[hd'.1,HDk.out],Lib.hid hd',hS.trans hS'⟩
      | true =>
       go_wp2_with fail
       go_meet
       exact⟨lim,dk,rfl,hlim,HDk.out,Lib.hid (permIn_refl dk a' b'),hS⟩
     case rest =>
      clear hlim hl0 hl0z hl0y hl1 hS
      obtain⟨lim,d1,rfl,hlim,hD1,HP1,hS⟩:=hcut
      have HD1:=Lib.hid hD1
      clear hD1
      have HB1:Hid (Sort.Below ltN a' b' d1):=Lib.hid (HB.out.perm (by rw[HDk.out];exact hb') HP1.out)
      have HR1:Hid (Rest a b a' b' d d1):=Lib.hid (HR.out.perm HP1.out)
      clear HB HR HP1 HDk hsz2
      have hcall:=choosePivot_any base g cap a' b' d1 wc hS.1 (by omega) (by rw[HD1.out];exact hb') (by rw[HD1.out];omega)
      rw[HD1.out]at hcall
      have HC:=Lib.hid hcall
      clear hcall
      go_upto_region 10 with fail
      go_cut [11,12] from 19 to 133 (fun s11 s12 wx => ∃ (p:Nat) (h:Int),s11 = .int .i64 (p:Int)/\s12 = .int .i64 h/\a'<=p/\p<b'/\SW base g cap w d1 wx)
      case first =>
       go_wp2_with(first|(go_at_call 398;refine HC.out.mono ?_;rintro e w' ⟨p,h,hp1,hp2,rfl,hS'⟩)|fail)
       go_meet
       exact⟨p,h,rfl,rfl,hp1,hp2,hS.trans hS'⟩
      case rest =>
       clear hS HC
       obtain⟨p,h,rfl,rfl,hp1,hp2,hS⟩:=hcut
       go_upto_if 50 with fail
       go_cut [11,12] from 19 to 133 (fun s11 s12 wx => ∃ (p:Nat) (h:Int) (d2:Array Nat),s11 = .int .i64 (p:Int)/\s12 = .int .i64 h/\a'<=p/\p<b'/\d2.size=d.size/\Hid (PermIn a' b' d1 d2)/\SW base g cap w d2 wx)
       case first =>
        cases hh:(h==2) with
        | true =>
         have hcall:=rev_any base g cap a' b' d1 wc hS.1 (by omega) (by rw[HD1.out];exact hb') (by rw[HD1.out];omega)
         rw[HD1.out]at hcall
         have HC:=Lib.hid hcall
         clear hcall
         go_wp2_with(first|(go_at_call 399;refine HC.out.mono ?_;rintro e w' ⟨rfl,d',hd',hS'⟩)|fail)
         go_meet
         exact⟨(b'-1)-(p-a'),1,d',by go_num,rfl,by omega,by omega,by rw[hd'.1,HD1.out],Lib.hid hd',hS.trans hS'⟩
        | false =>
         go_wp2_with fail
         go_meet
         exact⟨p,h,d1,rfl,rfl,hp1,hp2,HD1.out,Lib.hid (permIn_refl d1 a' b'),hS⟩
       case rest =>
        clear hS hp1 hp2
        obtain⟨p,h,d2,rfl,rfl,hp1,hp2,hD2,HP2,hS⟩:=hcut
        have HD2:=Lib.hid hD2
        clear hD2
        have HB2:Hid (Sort.Below ltN a' b' d2):=Lib.hid (HB1.out.perm (by rw[HD1.out];exact hb') HP2.out)
        have HR2:Hid (Rest a b a' b' d d2):=Lib.hid (HR1.out.perm HP2.out)
        clear HB1 HR1 HP2 HD1
        go_upto_region 15 with fail
        go_cut [68] from 19 to 133 (fun s68 wx => ∃ c:Bool,s68 = .bool c/\SW base g cap w d2 wx)
        case first =>
         cases wb<;>cases wp<;>cases hh:(h==1)
         all_goals
          go_wp2_with fail
          go_meet
          exact⟨_,rfl,hS⟩
        case rest =>
         clear hS
         obtain⟨c,rfl,hS⟩:=hcut
         go_upto_if 68 with fail
         go_cut [] from 19 to 133 (fun wx => ∃ d3:Array Nat,d3.size=d.size/\Hid (PermIn a' b' d2 d3)/\SW base g cap w d3 wx)
         case first =>
          cases c with
          | false =>
           go_wp2_with fail
           go_meet
           exact⟨d2,HD2.out,Lib.hid (permIn_refl d2 a' b'),hS⟩
          | true =>
           have hcall:=pins_any base g cap a' b' d2 wc hS.1 (by omega) (by rw[HD2.out];exact hb') (by rw[HD2.out];omega) HB2.out
           rw[HD2.out]at hcall
           have HC:=Lib.hid hcall
           clear hcall
           go_wp2_with fail
           refine HC.out.mono ?_
           rintro e w' ⟨d',hd',hS',rfl|⟨rfl,hso⟩⟩
           ·go_wp2_with fail
            go_meet
            exact⟨d',by rw[hd'.1,HD2.out],Lib.hid hd',hS.trans hS'⟩
           ·go_wp2_with fail
            go_end0
            exact⟨rfl,d',HR2.out d' hd' hso,hS.trans hS'⟩
         case rest =>
          clear hS
          obtain⟨d3,hD3,HP3,hS⟩:=hcut
          have HD3:=Lib.hid hD3
          clear hD3
          have HB3:Hid (Sort.Below ltN a' b' d3):=Lib.hid (HB2.out.perm (by rw[HD2.out];exact hb') HP3.out)
          have HR3:Hid (Rest a b a' b' d d3):=Lib.hid (HR2.out.perm HP3.out)
          clear HB2 HR2 HP3 HD2
          go_upto_region 17 with fail
          go_cut [87] from 19 to 133 (fun s87 wx => ∃ c:Bool,s87 = .bool c/\Hid (c=true->0<a'/\ltN d3[a'-1]! d3[p]! = false)/\SW base g cap w d3 wx)
          case first =>
           rcases a' with _|q
           ·go_quiet (fail)
            go_wp2
            go_meet
            exact⟨false,rfl,Lib.hid (fun h=>by cases h),hS.drewN _⟩
           ·have hwj:IntKind.i64.wrap (q:Int)=(q:Int):=IntWalk.i64_in _ (by omega)
            have c1:=hS.1.cell (i:=q) (by rw[HD3.out];omega)
            have f1:=hS.1.frozen q
            have c2:=hS.1.cell (i:=p) (by rw[HD3.out];omega)
            have f2:=hS.1.frozen p
            have b1:(q:Int)<(d.size:Int):=by omega
            have n1:(0:Int)<=(q:Int):=by omega
            have b2:(p:Int)<(d.size:Int):=by omega
            have n2:(0:Int)<=(p:Int):=by omega
            have hd1:decide ((0:Int)<(q:Int)+1)=true:=decide_eq_true (by omega)
            go_quiet ((go_at_call 401;exact Calls.quiet_of_same (lessN rfl _)))
            go_wp2
            go_meet
            exact⟨_,rfl,Lib.hid (fun h=>⟨by omega,by simpa using h⟩),hS.drewN _⟩
          case rest =>
           clear hS
           obtain⟨c,rfl,HCc,hS⟩:=hcut
           cases c with
           | true =>
            obtain⟨ha0,hnl⟩:=HCc.out rfl
            have HNL:=Lib.hid hnl
            clear hnl HCc
            have hcall:=partitionEqual_walk base g cap a' b' p d3 wc hS.1 hp1 hp2 (by rw[HD3.out];exact hb') (by rw[HD3.out];omega)
            rw[HD3.out]at hcall
            have HC:=Lib.hid hcall
            clear hcall
            go_wp2_with fail
            refine HC.out.mono ?_
            rintro e w' ⟨m,d4,hx,rfl,hS'⟩
            obtain⟨r1,r2,r3,r4,r5⟩:=round_eq swo (partitionEqual_holds ltN) ha0 hp1 hp2 (by rw[HD3.out];exact hb') HB3.out HNL.out hx
            have HE:Hid (Sort.Below ltN m b' d4/\Rest a b m b' d d4/\d4.size=d.size):=Lib.hid ⟨r4,fun R h1 h2=>HR3.out R (r5 R h1 h2).1 (r5 R h1 h2).2,by rw[r3,HD3.out]⟩
            clear r3 r4 r5 hx HNL HB3 HR3
            go_wp2_with fail
            go_roundg (b'-m)
            case measure=>omega
            case rel=>exact⟨m,b',lim,wb,wp,d4,rfl,rfl,rfl,rfl,rfl,rfl,r2,hb',by omega,hlim,Lib.hid HE.out.2.2,Lib.hid HE.out.1,hS.trans hS',Lib.hid HE.out.2.1⟩
           | false =>
            clear HCc
            have hcall:=partition_walk base g cap a' b' p d3 wc hS.1 hp1 hp2 (by rw[HD3.out];exact hb') (by rw[HD3.out];omega)
            rw[HD3.out]at hcall
            have HC:=Lib.hid hcall
            clear hcall
            go_wp2_with fail
            refine HC.out.mono ?_
            rintro e w' ⟨m,ap,d4,hx,rfl,hS'⟩
            obtain⟨r1,r2,r3,r4,r5,r6,r7⟩:=round_part swo (partition_holds ltN) hp1 hp2 (by rw[HD3.out];exact hb') HB3.out hx
            have HD4:Hid (d4.size=d.size):=Lib.hid (by rw[r3,HD3.out])
            have hS4:=hS.trans hS'
            clear hS hS' r3 hx HC
            by_cases hlr:m-a'<b'-m
            ·have hlrz:(m:Int)-(a':Int)<(b':Int)-(m:Int):=by omega
             have hcall:=HN.out (m-a') (by omega) base g cap a' m lim d4 w' hS4.1 r1 (by rw[HD4.out];omega) (by rw[HD4.out];exact hsz) (Nat.le_refl _) hlim r4
             rw[HD4.out]at hcall
             have HC:=Lib.hid hcall
             have H6:=Lib.hid r6
             clear hcall r4 r5 r6 r7
             go_wp2_with fail
             refine HC.out.mono ?_
             rintro e w5 ⟨rfl,d5,hd5,hS5⟩
             obtain⟨q1,q2⟩:=H6.out d5 hd5.1 hd5.2
             have HE:Hid (Sort.Below ltN (m+1) b' d5/\Rest a b (m+1) b' d d5/\d5.size=d.size):=Lib.hid ⟨q1,fun R h1 h2=>HR3.out R (q2 R h1 h2).1 (q2 R h1 h2).2,by rw[hd5.1.1,HD4.out]⟩
             clear q1 q2 hd5 H6
             go_wp2_with fail
             go_roundg (b'-(m+1))
             case measure=>omega
             case rel=>exact⟨m+1,b',lim,_,ap,d5,by go_num,rfl,rfl,rfl,rfl,rfl,by omega,hb',by omega,hlim,Lib.hid HE.out.2.2,Lib.hid HE.out.1,hS4.trans hS5,Lib.hid HE.out.2.1⟩
            ·have hlrz:¬ (m:Int)-(a':Int)<(b':Int)-(m:Int):=by omega
             have hlry:(b':Int)-(m:Int)<=(m:Int)-(a':Int):=by omega
             have hcall:=HN.out (b'-(m+1)) (by omega) base g cap (m+1) b' lim d4 w' hS4.1 (by omega) (by rw[HD4.out];omega) (by rw[HD4.out];exact hsz) (Nat.le_refl _) hlim r5
             rw[HD4.out]at hcall
             have e1:(((m+1:Nat):Nat):Int)=(m:Int)+1:=by omega
             rw[e1]at hcall
             have HC:=Lib.hid hcall
             have H7:=Lib.hid r7
             clear hcall r4 r5 r6 r7 e1
             go_wp2_with fail
             refine HC.out.mono ?_
             rintro e w5 ⟨rfl,d5,hd5,hS5⟩
             obtain⟨q1,q2⟩:=H7.out d5 hd5.1 hd5.2
             have HE:Hid (Sort.Below ltN a' m d5/\Rest a b a' m d d5/\d5.size=d.size):=Lib.hid ⟨q1,fun R h1 h2=>HR3.out R (q2 R h1 h2).1 (q2 R h1 h2).2,by rw[hd5.1.1,HD4.out]⟩
             clear q1 q2 hd5 H7
             go_wp2_with fail
             go_roundg (m-a')
             case measure=>omega
             case rel=>exact⟨a',m,lim,_,ap,d5,rfl,rfl,rfl,rfl,rfl,rfl,r1,by omega,by omega,hlim,Lib.hid HE.out.2.2,Lib.hid HE.out.1,hS4.trans hS5,Lib.hid HE.out.2.1⟩
theorem pdq_all(n:Nat):PdqOk n:=by
 induction n using Nat.strongRecOn with
 | _ n ih=>exact pdq_step n ih
theorem sortOk900:SortOk 900:=sort_of_pdq 900 (by omega) fun base g cap r d w hw hd hr=>pdq_all d.size base g cap 0 d.size r d w hw (by omega) (Nat.le_refl _) (by omega) (by omega) hr (.inl rfl)
end Go.Proofs.YtkibdkfdffkkfaaGreatDoor.Pn
