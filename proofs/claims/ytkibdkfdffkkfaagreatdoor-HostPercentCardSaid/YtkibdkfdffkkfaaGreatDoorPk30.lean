import Derived.Test.YtkibdkfdffkkfaaGreatDoorPk25
import Derived.Sort.LotA
set_option maxRecDepth 100000
set_option maxHeartbeats 8000000
namespace Go.Proofs.YtkibdkfdffkkfaaGreatDoor.Pn
open Go.RowKit Puny Go.Shelf Go.Sort
def OW (base g cap:Nat) (d:Array Nat) (w:World):Prop:=w.ownsRow base 21 1 (.slice (some ⟨g,0,none⟩) d.size cap) d.size (cn d.toList)
def SW (base g cap:Nat) (w0:World) (d:Array Nat) (w:World):Prop:=OW base g cap d w/\w0.grownBy w (some g)
def ltN (x y:Nat):Bool:=decide ((x:Int)<(y:Int))
theorem swo:SWO ltN:=⟨fun x=>by simp[ltN],fun x y z h1 h2=>by simp[ltN]at *;omega,fun x y z h1 h2=>by simp[ltN]at *;omega⟩
section
variable {base g cap:Nat} {w0 w:World} {d:Array Nat}
theorem OW.cell(h:OW base g cap d w){i:Nat}(hi:i<d.size):w.cell? ⟨g,i,none⟩=some (.int .i32 ((d[i]!:Nat):Int)):=by
 have h1:=World.ownsRow.cellAt h i (by omega)
 rw[h1,getElem!_pos d i hi]
 simp[hi]
theorem OW.frozen(h:OW base g cap d w)(i:Nat):w.frozen? ⟨g,i,none⟩=false:=by
 rcases h.2 with ⟨h0,_⟩|⟨g',cap',cur,hv,_,hb,_⟩
 ·cases h0
 cases hv
 simp[World.frozen?,hb]
theorem OW.lt(h:OW base g cap d w):base<=g/\g<w.heap.size:=World.ownsRow.lt h g rfl
theorem OW.set(h:OW base g cap d w)(i x:Nat):OW base g cap (d.setIfInBounds i x) (w.setCell ⟨g,i,none⟩ (.int .i32 (x:Int))):=by
 have h1:=(World.ownsRow.stored h i (.int .i32 (x:Int))).1
 have e:(cn d.toList).set i (.int .i32 (x:Int))=cn (d.setIfInBounds i x).toList:=by simp[List.map_set]
 rw[e]at h1
 unfold OW
 rw[Array.size_setIfInBounds]
 exact h1
theorem SW.refl(h:OW base g cap d w):SW base g cap w d w:=⟨h,World.grownBy.refl _ _⟩
theorem SW.trans{w1 w2:World}{d1 d2:Array Nat}(h:SW base g cap w0 d1 w1)(k:SW base g cap w1 d2 w2):SW base g cap w0 d2 w2 :=
 ⟨k.1,World.grownBy.trans h.2 k.2⟩
theorem SW.drewN(h:SW base g cap w0 d w)(n:Nat):SW base g cap w0 d (w.drewN n):=⟨h.1,⟨h.2.os,h.2.tape,h.2.output,h.2.size,h.2.block⟩⟩
theorem SW.drew(h:SW base g cap w0 d w):SW base g cap w0 d w.drew:=⟨h.1,⟨h.2.os,h.2.tape,h.2.output,h.2.size,h.2.block⟩⟩
theorem SW.set(h:SW base g cap w0 d w)(i x:Nat):SW base g cap w0 (d.setIfInBounds i x) (w.setCell ⟨g,i,none⟩ (.int .i32 (x:Int))) :=
 ⟨h.1.set i x,World.grownBy.trans h.2 (World.ownsRow.stored h.1 i (.int .i32 (x:Int))).2⟩
theorem SW.swap(h:SW base g cap w0 d w){i j:Nat}:SW base g cap w0 (swp d i j) ((w.setCell ⟨g,i,none⟩ (.int .i32 ((d[j]!:Nat):Int))).setCell ⟨g,j,none⟩ (.int .i32 ((d[i]!:Nat):Int))) :=
 (h.set i d[j]!).set j d[i]!
end
def Sorts (base g cap:Nat) (P:Array Nat->Prop) (w:World) (e:Ending) (w':World):Prop:=e = .returned (.tuple #[])/\∃ d',P d'/\SW base g cap w d' w'
theorem lessN{x y:Nat}{b:Bool}(h:ltN x y=b)(w:World):Calls Tryz.prog 401 #[.int .i32 (x:Int),.int .i32 (y:Int)] w fun e w'=>e = .returned (.bool b)/\w'=w:=by
 subst h
 exact (less_any x y w).mono fun _ _ ⟨h1,h2⟩=>⟨h1,h2.symm⟩
theorem insInner_stop{a j:Nat}{d:Array Nat}(h:¬ a<j+1∨ltN d[j+1]! d[j]! = false):insInner ltN a (j+1) d=d:=by
 rw[insInner,if_neg]
 rcases h with h|h<;>simp[h]
theorem insInner_go{a j:Nat}{d:Array Nat}(h1:a<j+1)(h:ltN d[j+1]! d[j]! = true):insInner ltN a (j+1) d=insInner ltN a j (swp d (j+1) j):=by
 rw[insInner,if_pos (by simp[h,h1])]
theorem insInner_self(a:Nat)(d:Array Nat):insInner ltN a a d=d:=by
 cases a with
 | zero=>rfl
 | succ a=>exact insInner_stop (.inl (by omega))
theorem insOuter_go{a b i:Nat}{d:Array Nat}(h:i<b):insOuter ltN a b i d=insOuter ltN a b (i+1) (insInner ltN a i d):=by rw[insOuter,if_pos h]
theorem insOuter_end{a b i:Nat}{d:Array Nat}(h:¬ i<b):insOuter ltN a b i d=d:=by rw[insOuter,if_neg h]
theorem insertionSort_walk(base g cap a b:Nat)(d:Array Nat)(w:World)(hw:OW base g cap d w)(hab:a<=b)(hb:b<=d.size)(hsz:d.size<=1000000) :
  Calls Tryz.prog 395 #[.slice (some ⟨g,0,none⟩) d.size cap,.int .i64 a,.int .i64 b] w (Sorts base g cap (fun d'=>d'=insertionSort ltN d a b) w):=by
 go_enter Tryz.func395,Tryz.ntmps395
 go_wp2
 go_loopw [6] (fun s6 wr => ∃ (i:Nat) (dk:Array Nat),s6 = .int .i64 i/\a+1<=i/\(i<=b∨i=a+1)/\dk.size=d.size/\SW base g cap w dk wr/\insOuter ltN a b i dk=insertionSort ltN d a b) (fun s6 _=>b-(intOf s6).toNat)
 case atStart=>exact⟨a+1,d,by go_num,Nat.le_refl _,.inr rfl,rfl,SW.refl hw,rfl⟩
 case round =>
  obtain⟨i,dk,rfl,hi1,hi2,hds,hS,heq⟩:=hrel
  by_cases hlt:i<b
  ·have HI:=Lib.hid (heq.symm.trans (insOuter_go hlt))
   have HDS:=Lib.hid hds
   clear heq hds
   go_wp2
   go_loopw [7] (fun s7 wr2 => ∃ (j:Nat) (dj:Array Nat),s7 = .int .i64 j/\a<=j/\j<=i/\Hid (dj.size=d.size)/\SW base g cap w dj wr2/\Hid (insInner ltN a j dj=insInner ltN a i dk)) (fun s7 _=>(intOf s7).toNat)
   case atStart=>exact⟨i,dk,rfl,by omega,Nat.le_refl _,HDS,hS,Lib.hid rfl⟩
   case round =>
    obtain⟨j,dj,rfl,hj1,hj2,HDJ,hS2,HJ⟩:=hrel
    by_cases hja:a<j
    ·obtain⟨j,rfl⟩:∃ j',j=j'+1:=⟨j-1,by omega⟩
     have hjz:(a:Int)<(j:Int)+1:=by omega
     have hjd:decide ((a:Int)<(j:Int)+1)=true:=decide_eq_true hjz
     have c1:=hS2.1.cell (i:=j+1) (by rw[HDJ.out];omega)
     have c2:=hS2.1.cell (i:=j) (by rw[HDJ.out];omega)
     have f1:=hS2.1.frozen (j+1)
     have f2:=hS2.1.frozen j
     obtain⟨x,hx⟩:∃ x,dj[j+1]! = x:=⟨_,rfl⟩
     obtain⟨y,hy⟩:∃ y,dj[j]! = y:=⟨_,rfl⟩
     rw[hx]at c1
     rw[hy]at c2
     have HX:=Lib.hid hx
     have HY:=Lib.hid hy
     clear hx hy
     cases hl:ltN x y with
     | true =>
      have HLT:=Lib.hid hl
      clear hl
      go_wp2
      go_quiet ((go_at_call 401;exact Calls.quiet_of_same (lessN HLT.out _)))
      go_wp2
      have hS3:=hS2.drewN nq
      have d1:=hS3.1.cell (i:=j+1) (by rw[HDJ.out];omega)
      have d2:=hS3.1.cell (i:=j) (by rw[HDJ.out];omega)
      have e1:=hS3.1.frozen (j+1)
      have e2:=hS3.1.frozen j
      rw[HX.out]at d1
      rw[HY.out]at d2
      clear hS2 c1 c2 f1 f2
      generalize wr.drewN nq=wr3 at hS3 d1 d2 e1 e2 ⊢
      have b1:(j:Int)<(d.size:Int):=by omega
      have b2:((j+1:Nat):Int)<(d.size:Int):=by omega
      have b3:(0:Int)<=(j:Int):=by omega
      have b4:(0:Int)<=((j+1:Nat):Int):=by omega
      have hwj:IntKind.i64.wrap (j:Int)=(j:Int):=IntWalk.i64_in _ (by omega)
      go_region
      clear hwj
      go_wp2
      go_roundw
      case rel =>
       refine⟨j,swp dj (j+1) j,by go_num,by omega,by omega,Lib.hid (by simp[swp,HDJ.out]), ?_,Lib.hid (by rw[<-HJ.out,insInner_go (by omega) (by rw[HX.out,HY.out];exact HLT.out)])⟩
       have hsw:=(hS3.swap (i:=j+1) (j:=j)).drew
       rw[HX.out,HY.out]at hsw
       exact hsw
      case measure=>first|(simp[intOf];done)|(simp[intOf];omega)
     | false =>
      have HLT:=Lib.hid hl
      clear hl
      go_wp2
      go_quiet ((go_at_call 401;exact Calls.quiet_of_same (lessN HLT.out _)))
      go_wp2
      go_roundw
      case rel=>exact⟨i+1,dj,by go_num,by omega,by omega,HDJ.out,hS2.drewN nq,by rw[HI.out,<-HJ.out,insInner_stop (.inr (by rw[HX.out,HY.out];exact HLT.out))]⟩
      case measure=>first|(simp[intOf];done)|(simp[intOf];omega)
    ·obtain rfl:j=a:=by omega
     have hd:decide ((j:Int)<(j:Int))=false:=by simp
     go_wp2
     go_quiet (fail)
     go_wp2
     go_roundw
     case rel=>exact⟨i+1,dj,by go_num,by omega,by omega,HDJ.out,hS2.drewN _,by rw[HI.out,<-HJ.out,insInner_self]⟩
     case measure=>first|(simp[intOf];done)|(simp[intOf];omega)
  ·have HE:=heq.symm.trans (insOuter_end hlt)
   clear heq
   go_wp2
   go_end0
   exact⟨rfl,dk,HE.symm,hS⟩
theorem insertionSort_any(base g cap a b:Nat)(d:Array Nat)(w:World)(hw:OW base g cap d w)(hab:a<=b)(hb:b<=d.size)(hsz:d.size<=1000000) :
  Calls Tryz.prog 395 #[.slice (some ⟨g,0,none⟩) d.size cap,.int .i64 a,.int .i64 b] w (Sorts base g cap (fun d'=>PermIn a b d d'/\SortedIn ltN a b d') w) :=
 (insertionSort_walk base g cap a b d w hw hab hb hsz).mono fun _ _ ⟨he,d',hd,hS⟩=>⟨he,d',by rw[hd];exact insertionSort_holds swo d a b hab hb,hS⟩
theorem sorted_list{l:List Nat}{d':Array Nat}(hp:PermIn 0 l.toArray.size l.toArray d')(hs:SortedIn ltN 0 l.toArray.size d'):d'.toList=l.mergeSort (fun a b=>decide (a<=b)):=by
 have h:=sorted_unique_holds swo (fun x y h1 h2=>by simp[ltN]at *;omega) l.toArray d' hp hs
 rw[h]
 congr 1
 funext a b
 unfold ltN
 rw[<-decide_not,decide_eq_decide]
 omega
theorem sort_of_pdq(N:Nat)(hN:N<=1000000)(h:∀ (base g cap r:Nat) (d:Array Nat) (w:World),OW base g cap d w->d.size<=N->r<=1000 ->
  Calls Tryz.prog 391 #[.slice (some ⟨g,0,none⟩) d.size cap,.int .i64 0,.int .i64 d.size,.int .i64 r] w (Sorts base g cap (fun d'=>PermIn 0 d.size d d'/\SortedIn ltN 0 d.size d') w)):SortOk N:=by
 intro base g cap l w hl hw
 have hW:OW base g cap l.toArray w:=by simpa[OW] using hw
 have hp:=fun r=>h base g cap r l.toArray w hW (by simpa using hl)
 simp only[List.size_toArray]at hp
 have HP:=Lib.hid hp
 clear hp h
 go_enter Tryz.func382,Tryz.ntmps382
 go_wp2_with(first
  | (go_at_call 392;refine (Len_any _ _ (by omega) (by omega)).mono ?_;rintro e w' ⟨r,h2,rfl,rfl⟩)
  | (go_at_call 391;refine (HP.out _ h2).mono ?_;rintro e w' ⟨rfl,d',hd',hS'⟩)
  | fail)
 go_end0
 have e:=sorted_list (l:=l) (by simpa using hd'.1) (by simpa using hd'.2)
 have hs:d'.size=l.length:=by simpa using hd'.1.1
 have h1:=hS'.1
 unfold OW at h1
 rw[hs,e]at h1
 exact⟨rfl,h1,hS'.2⟩
end Go.Proofs.YtkibdkfdffkkfaaGreatDoor.Pn
