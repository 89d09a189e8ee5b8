import Derived.Test.YtkibdkfdffkkfaaGreatDoorPk15
set_option maxRecDepth 100000
set_option maxHeartbeats 8000000
namespace Remap
def shL:List (Int × Int × Int):=[(65,90,97),(160,160,32),(192,214,224),(216,222,248),(338,338,339),(471,471,472),(902,902,940),(904,906,941),(913,929,945),(931,937,963),(1025,1025,1105),(1030,1030,1110),(1040,1071,1072),(9001,9002,12296),(12290,12290,46),(65288,65289,40),(65294,65295,46),(65296,65305,48),(65306,65306,58),(65313,65338,97),(65345,65370,97)]
def igL:List (Int × Int):=[(173,173),(8203,8203),(65038,65039),(65279,65279)]
def baL:List (Int × Int):=[(128,159),(1564,1564),(8206,8207),(8232,8233),(8234,8238),(8294,8297),(65533,65533)]
def inS (r:Int) (s:Int × Int × Int):Bool:=decide (s.1<=r/\r<=s.2.1)
def inP (r:Int) (p:Int × Int):Bool:=decide (p.1<=r/\r<=p.2)
end Remap
namespace Go.Proofs.YtkibdkfdffkkfaaGreatDoor
open Go.RowKit Norm Remap
def cP (l:List (Int × Int)):List Value:=l.flatMap fun p=>[.int .i32 p.1,.int .i32 p.2]
def cS (l:List (Int × Int × Int)):List Value:=l.flatMap fun s=>[.int .i32 s.1,.int .i32 s.2.1,.int .i32 s.2.2]
theorem cP_get:∀ (l:List (Int × Int)) (i:Nat),i<l.length->(cP l)[i*2]? = some (.int .i32 l[i]!.1)/\(cP l)[i*2+1]? = some (.int .i32 l[i]!.2)
 | x::t,0,_=>⟨rfl,rfl⟩
 | x :: t, i + 1, h => by
  have:=cP_get t i (by simpa using h)
  have e:cP (x::t) = .int .i32 x.1 :: .int .i32 x.2::cP t:=rfl
  rw[e,show (i+1)*2=i*2+1+1 from by omega]
  simpa using this
theorem cS_get:∀ (l:List (Int × Int × Int)) (i:Nat),i<l.length->(cS l)[i*3]? = some (.int .i32 l[i]!.1)/\(cS l)[i*3+1]? = some (.int .i32 l[i]!.2.1)/\(cS l)[i*3+2]? = some (.int .i32 l[i]!.2.2)
 | x::t,0,_=>⟨rfl,rfl,rfl⟩
 | x :: t, i + 1, h => by
  have:=cS_get t i (by simpa using h)
  have e:cS (x::t) = .int .i32 x.1 :: .int .i32 x.2.1 :: .int .i32 x.2.2::cS t:=rfl
  rw[e,show (i+1)*3=i*3+1+1+1 from by omega]
  simpa using this
def TabW (w:World) (n:Nat) (cs:List Value) (t:TypeId) (e:Ending) (w':World):Prop:=e = .returned (.slice (some ⟨w.heap.size,0,none⟩) n n)/\w'=w.alloc (.cells cs.toArray t)
theorem ignored_any(w:World):Calls Tryz.prog 238 #[] w (TabW w 4 (cP igL) 264):=by
 go_enter Tryz.func238,Tryz.ntmps238
 go_wp2
 go_ret
 exact⟨rfl,rfl⟩
theorem barred_any(w:World):Calls Tryz.prog 273 #[] w (TabW w 7 (cP baL) 264):=by
 go_enter Tryz.func273,Tryz.ntmps273
 go_wp2
 go_ret
 exact⟨rfl,rfl⟩
theorem shifts_any(w:World):Calls Tryz.prog 270 #[] w (TabW w 21 (cS shL) 301):=by
 go_enter Tryz.func270,Tryz.ntmps270
 go_wp2
 go_ret
 exact⟨rfl,rfl⟩
theorem spanHas_any(x y r:Int)(w:World):Calls Tryz.prog 239 #[.agg #[.int .i32 x,.int .i32 y],.int .i32 r] w (Tells (.bool (inP r (x,y))) w):=by
 by_cases h1:x<=r
 ·by_cases h2:r<=y
  ·rw[show inP r (x,y)=true from decide_eq_true ⟨h1,h2⟩]
   go_enter Tryz.func239,Tryz.ntmps239
   go_wp2
   go_ret
   exact⟨rfl,(Below.refl _ _).alloc (Nat.le_refl _) _⟩
  ·rw[show inP r (x,y)=false from decide_eq_false fun h=>h2 h.2]
   go_enter Tryz.func239,Tryz.ntmps239
   go_wp2
   go_ret
   exact⟨rfl,(Below.refl _ _).alloc (Nat.le_refl _) _⟩
 ·rw[show inP r (x,y)=false from decide_eq_false fun h=>h1 h.1]
  go_enter Tryz.func239,Tryz.ntmps239
  go_wp2
  go_ret
  exact⟨rfl,(Below.refl _ _).alloc (Nat.le_refl _) _⟩
theorem shiftHas_any(x y z r:Int)(w:World):Calls Tryz.prog 271 #[.agg #[.int .i32 x,.int .i32 y,.int .i32 z],.int .i32 r] w (Tells (.bool (inS r (x,y,z))) w):=by
 have HP:=Lib.hid (fun w=>spanHas_any x y r w)
 rw[show inS r (x,y,z)=inP r (x,y) from by unfold inS inP;rfl]
 generalize inP r (x,y)=q at HP ⊢
 go_enter Tryz.func271,Tryz.ntmps271
 go_wp2_with(first|(go_at_call 239;refine (HP.out _).mono ?_;rintro e w1 ⟨rfl,hB1⟩)|fail)
 go_ret
 exact⟨rfl,below_past _ hB1⟩
theorem shiftMove_any(x y z r:Int)(w:World)(h0:0<=x)(h1:x<=r)(h2:r<=70000)(h3:0<=z)(h4:z<=70000):Calls Tryz.prog 272 #[.agg #[.int .i32 x,.int .i32 y,.int .i32 z],.int .i32 r] w (Tells (.int .i32 (r-x+z)) w):=by
 have e1:IntKind.i32.wrap (r-x)=r-x:=by simp[IntKind.wrap,IntKind.bits,IntKind.signed];omega
 have e2:IntKind.i32.wrap (r-x+z)=r-x+z:=by simp[IntKind.wrap,IntKind.bits,IntKind.signed];omega
 go_enter Tryz.func272,Tryz.ntmps272
 go_wp2
 go_ret
 exact⟨by first|rfl|rw[e1,e2],(Below.refl _ _).alloc (Nat.le_refl _) _⟩
def Z2 (w:World) (B:Nat):Prop:=w.heap[B]? = some (.cells #[.int .i32 0,.int .i32 0] 264 (0,0))
theorem Z2.cells{w:World}{B:Nat}{a b:Value}{t:TypeId}(h:w.heap[B]? = some (.cells #[a,b] t (0,0))):w.cell? ⟨B,0,none⟩=some a/\w.cell? ⟨B,1,none⟩=some b/\w.frozen? ⟨B,0,none⟩=false/\w.frozen? ⟨B,1,none⟩=false:=by
 simp[World.cell?,World.frozen?,h]
def WhP (q:Bool) (w:World) (e:Ending) (w':World):Prop:=(∃ x y,e = .returned (.tuple #[.agg #[.int .i32 x,.int .i32 y],.bool q]))/\Below w.heap.size w w'
theorem any_true{l:List (Int × Int)}{r:Int}{k:Nat}(hk:k<l.length)(h:inP r l[k]! = true):l.any (inP r)=true:=List.any_eq_true.2 ⟨l[k]!,by rw[getElem!_pos l k hk];exact List.getElem_mem hk,h⟩
theorem any_false{l:List (Int × Int)}{r:Int}(h:∀ j,j<l.length->inP r l[j]! = false):l.any (inP r)=false:=by
 rw[List.any_eq_false]
 intro p hp
 obtain⟨k,hk,rfl⟩:=List.getElem_of_mem hp
 have:=h k hk
 rw[getElem!_pos l k hk]at this
 rw[this]
 simp
theorem z2_set{w:World}{B:Nat}{a b:Value}{t:TypeId}(h:w.heap[B]? = some (.cells #[a,b] t (0,0)))(u v:Value):((w.setCell ⟨B,0,none⟩ u).setCell ⟨B,1,none⟩ v).cell? ⟨B,0,none⟩=some u/\((w.setCell ⟨B,0,none⟩ u).setCell ⟨B,1,none⟩ v).cell? ⟨B,1,none⟩=some v:=by
 simp[World.cell?,World.setCell,Array.getElem?_modify,h]
theorem whichP_any(l:List (Int × Int))(b n:Nat)(r:Int)(w:World)(hn:l.length=n)(hn1:n<=100)(hb:b<w.heap.size)(hc:∀ i,i<n->w.cell? ⟨b,i*2,none⟩=some (.int .i32 l[i]!.1)/\w.cell? ⟨b,i*2+1,none⟩=some (.int .i32 l[i]!.2)) :
  Calls Tryz.prog 237 #[.slice (some ⟨b,0,none⟩) n n,.func (.func 239) #[] #[],.int .i32 r] w (WhP (l.any (inP r)) w):=by
 have HN:=Lib.hid hn
 have HC:=Lib.hid hc
 have HH:=Lib.hid (fun x y w=>spanHas_any x y r w)
 have hZ0:Z2 (w.alloc (.cells #[.int .i32 0,.int .i32 0] 264)) w.heap.size:=alloc_heap_new' w _
 have hB0:Below w.heap.size w (w.alloc (.cells #[.int .i32 0,.int .i32 0] 264)):=upA w _
 clear hn hc
 go_enter Tryz.func237,Tryz.ntmps237
 go_upto_region 1 with fail
 generalize w.alloc (.cells #[.int .i32 0,.int .i32 0] 264)=W at hZ0 hB0 ⊢
 obtain⟨B,hBB⟩:∃ B,w.heap.size=B:=⟨_,rfl⟩
 have HBB:=Lib.hid hBB
 have hBl:w.heap.size<=B:=by omega
 rw[hBB]at hZ0 ⊢
 clear hBB
 go_wp2_with fail
 go_loopg [13] n (fun m s13 wr => ∃ k:Nat,s13 = .int .i64 (k:Int)/\m=n-k/\k<=n/\Hid (∀ j,j<k->inP r l[j]! = false)/\Below w.heap.size w wr/\Z2 wr B)
 case atStart=>exact⟨0,rfl,rfl,Nat.zero_le _,Lib.hid (fun j hj=>by omega),hB0,hZ0⟩
 case round =>
  clear hB0 hZ0
  obtain⟨k,rfl,rfl,hk,HNo,hB,hZ⟩:=hrel
  by_cases hlt:k<n
  ·have hltz:(k:Int)<(n:Int):=by omega
   obtain⟨c0,c1⟩:=HC.out k hlt
   rw[<-hB.cell (p:=⟨b,k*2,none⟩) hb]at c0
   rw[<-hB.cell (p:=⟨b,k*2+1,none⟩) hb]at c1
   obtain⟨p,hp⟩:∃ p,l[k]! = p:=⟨_,rfl⟩
   rw[hp]at c0 c1
   obtain⟨x,y⟩:=p
   dsimp only at c0 c1
   have HP:=Lib.hid hp
   clear hp
   go_upto_region 4 with fail
   have hX:=alloc_heap_new' wr (.cells #[.int .i32 x,.int .i32 y] 264)
   have hZ1:Z2 (wr.alloc (.cells #[.int .i32 x,.int .i32 y] 264)) B:=alloc_old _ hZ
   have hB1:Below w.heap.size w (wr.alloc (.cells #[.int .i32 x,.int .i32 y] 264)):=hB.alloc hB.size _
   generalize wr.alloc (.cells #[.int .i32 x,.int .i32 y] 264)=W1 at hX hZ1 hB1 ⊢
   generalize wr.heap.size=X at hX ⊢
   obtain⟨x0,x1,e0,e1⟩:=Z2.cells hX
   have HX:=Lib.hid hX
   have HZ1:=Lib.hid hZ1
   clear hB hZ c0 c1 hX hZ1
   have HQ:=Lib.hid (fun w=>spanHas_any x y r w)
   have HIN:Hid (inP r l[k]! = inP r (x,y)):=Lib.hid (by rw[HP.out])
   obtain⟨q,hq⟩:∃ q,inP r (x,y)=q:=⟨_,rfl⟩
   rw[hq]at HQ HIN
   clear hq HP HH
   cases q with
   | true =>
    go_upto_region 5 with(first|(go_at_call 239;refine (HQ.out _).mono ?_;rintro e w2 ⟨rfl,hB2⟩)|fail)
    have hX2:=(hB2.block X (Array.getElem?_eq_some_iff.1 HX.out).1).trans HX.out
    have hZ2:=(hB2.block B (Array.getElem?_eq_some_iff.1 HZ1.out).1).trans HZ1.out
    have hB3:=hB1.trans (hB2.mono hB1.size)
    have HAT:Hid (l.any (inP r)=true):=Lib.hid (any_true (by rw[HN.out];exact hlt) HIN.out)
    clear x0 x1 e0 e1 hB1 hB2
    obtain⟨x0,x1,e0,e1⟩:=Z2.cells hX2
    obtain⟨z0,z1,g0,g1⟩:=Z2.cells hZ2
    have HZ:=Lib.hid hZ2
    clear hX2 hZ2
    go_wp2_with fail
    obtain⟨s0,s1⟩:=z2_set HZ.out (.int .i32 x) (.int .i32 y)
    refine bodyPost_ret (v:=.tuple #[.agg #[.int .i32 x,.int .i32 y],.bool true]) ?_ rfl ⟨⟨x,y,by rw[HAT.out]⟩, ?_⟩
    ·simp[results,Tryz.results237,go_sem,s0,s1]
    ·exact (hB3.setCell (p:=⟨B,0,none⟩) hBl _).setCell (p:=⟨B,1,none⟩) hBl _
   | false =>
    go_upto_region 6 with(first|(go_at_call 239;refine (HQ.out _).mono ?_;rintro e w2 ⟨rfl,hB2⟩)|fail)
    have hZ2:=(hB2.block B (Array.getElem?_eq_some_iff.1 HZ1.out).1).trans HZ1.out
    have hB3:=hB1.trans (hB2.mono hB1.size)
    clear x0 x1 e0 e1 hB1 hB2
    go_wp2_with fail
    go_roundg (n-(k+1))
    case measure=>omega
    case rel =>
     refine⟨k+1,by go_num,rfl,by omega,Lib.hid (fun j hj => ?_),hB3,hZ2⟩
     by_cases hjk:j=k
     ·subst hjk;exact HIN.out
     ·exact HNo.out j (by omega)
  ·obtain rfl:k=n:=by omega
   have hltz:¬ ((k:Nat):Int)<(k:Int):=by omega
   have HQ:Hid (l.any (inP r)=false):=Lib.hid (any_false (fun j hj=>HNo.out j (by rw[HN.out]at hj;exact hj)))
   go_upto_region 8 with fail
   have hX:=alloc_heap_new' wr (.cells #[.int .i32 0,.int .i32 0] 264)
   have hZ1:Z2 (wr.alloc (.cells #[.int .i32 0,.int .i32 0] 264)) B:=alloc_old _ hZ
   have hB1:Below w.heap.size w (wr.alloc (.cells #[.int .i32 0,.int .i32 0] 264)):=hB.alloc hB.size _
   generalize wr.alloc (.cells #[.int .i32 0,.int .i32 0] 264)=W1 at hX hZ1 hB1 ⊢
   generalize wr.heap.size=X at hX ⊢
   obtain⟨x0,x1,e0,e1⟩:=Z2.cells hX
   obtain⟨z0,z1,g0,g1⟩:=Z2.cells hZ1
   have HZ:=Lib.hid hZ1
   clear hB hZ hX hZ1 HH
   go_wp2_with fail
   obtain⟨s0,s1⟩:=z2_set HZ.out (.int .i32 0) (.int .i32 0)
   refine bodyPost_ret (v:=.tuple #[.agg #[.int .i32 0,.int .i32 0],.bool false]) ?_ rfl ⟨⟨0,0,by rw[HQ.out]⟩, ?_⟩
   ·simp[results,Tryz.results237,go_sem,s0,s1]
   ·exact (hB1.setCell (p:=⟨B,0,none⟩) hBl _).setCell (p:=⟨B,1,none⟩) hBl _
end Go.Proofs.YtkibdkfdffkkfaaGreatDoor
namespace Go.Proofs.YtkibdkfdffkkfaaGreatDoor
open Go.RowKit Norm
end Go.Proofs.YtkibdkfdffkkfaaGreatDoor
namespace Go.Proofs.YtkibdkfdffkkfaaGreatDoor
open Go.RowKit Norm Remap
def Z3 (w:World) (B:Nat):Prop:=w.heap[B]? = some (.cells #[.int .i32 0,.int .i32 0,.int .i32 0] 301 (0,0))
theorem Z3.cells{w:World}{B:Nat}{a b c:Value}{t:TypeId}(h:w.heap[B]? = some (.cells #[a,b,c] t (0,0))):w.cell? ⟨B,0,none⟩=some a/\w.cell? ⟨B,1,none⟩=some b/\w.cell? ⟨B,2,none⟩=some c/\w.frozen? ⟨B,0,none⟩=false/\w.frozen? ⟨B,1,none⟩=false/\w.frozen? ⟨B,2,none⟩=false:=by
 simp[World.cell?,World.frozen?,h]
theorem z3_set{w:World}{B:Nat}{a b c:Value}{t:TypeId}(h:w.heap[B]? = some (.cells #[a,b,c] t (0,0)))(u v x:Value):(((w.setCell ⟨B,0,none⟩ u).setCell ⟨B,1,none⟩ v).setCell ⟨B,2,none⟩ x).cell? ⟨B,0,none⟩=some u/\(((w.setCell ⟨B,0,none⟩ u).setCell ⟨B,1,none⟩ v).setCell ⟨B,2,none⟩ x).cell? ⟨B,1,none⟩=some v/\(((w.setCell ⟨B,0,none⟩ u).setCell ⟨B,1,none⟩ v).setCell ⟨B,2,none⟩ x).cell? ⟨B,2,none⟩=some x:=by
 simp[World.cell?,World.setCell,Array.getElem?_modify,h]
def WhS (o:Option (Int × Int × Int)) (w:World) (e:Ending) (w':World):Prop:=e = .returned (.tuple #[.agg #[.int .i32 (o.getD (0,0,0)).1,.int .i32 (o.getD (0,0,0)).2.1,.int .i32 (o.getD (0,0,0)).2.2],.bool o.isSome])/\Below w.heap.size w w'
theorem find_at:∀ {l:List (Int × Int × Int)} {r:Int} {k:Nat},k<l.length->inS r l[k]! = true->(∀ j,j<k->inS r l[j]! = false)->l.find? (inS r)=some l[k]!
 | x :: t, r, 0, _, h, _ => by
  have h:inS r x=true:=h
  rw[List.find?_cons,h]
  rfl
 | x :: t, r, k + 1, hk, h, hn => by
  have h0:inS r x=false:=hn 0 (by omega)
  rw[List.find?_cons,h0]
  have:=find_at (l:=t) (r:=r) (k:=k) (by simpa using hk) (by simpa using h) (fun j hj=>by simpa using hn (j+1) (by omega))
  simpa using this
theorem find_no{l:List (Int × Int × Int)}{r:Int}(h:∀ j,j<l.length->inS r l[j]! = false):l.find? (inS r)=none:=by
 rw[List.find?_eq_none]
 intro p hp
 obtain⟨k,hk,rfl⟩:=List.getElem_of_mem hp
 have:=h k hk
 rw[getElem!_pos l k hk]at this
 rw[this]
 simp
theorem whichS_any(l:List (Int × Int × Int))(b n:Nat)(r:Int)(w:World)(hn:l.length=n)(hn1:n<=100)(hb:b<w.heap.size)(hc:∀ i,i<n->w.cell? ⟨b,i*3,none⟩=some (.int .i32 l[i]!.1)/\w.cell? ⟨b,i*3+1,none⟩=some (.int .i32 l[i]!.2.1)/\w.cell? ⟨b,i*3+2,none⟩=some (.int .i32 l[i]!.2.2)) :
  Calls Tryz.prog 269 #[.slice (some ⟨b,0,none⟩) n n,.func (.func 271) #[] #[],.int .i32 r] w (WhS (l.find? (inS r)) w):=by
 have HN:=Lib.hid hn
 have HC:=Lib.hid hc
 have HH:=Lib.hid (fun x y z w=>shiftHas_any x y z r w)
 have hZ0:Z3 (w.alloc (.cells #[.int .i32 0,.int .i32 0,.int .i32 0] 301)) w.heap.size:=alloc_heap_new' w _
 have hB0:Below w.heap.size w (w.alloc (.cells #[.int .i32 0,.int .i32 0,.int .i32 0] 301)):=upA w _
 clear hn hc
 go_enter Tryz.func269,Tryz.ntmps269
 go_upto_region 1 with fail
 generalize w.alloc (.cells #[.int .i32 0,.int .i32 0,.int .i32 0] 301)=W at hZ0 hB0 ⊢
 obtain⟨B,hBB⟩:∃ B,w.heap.size=B:=⟨_,rfl⟩
 have HBB:=Lib.hid hBB
 have hBl:w.heap.size<=B:=by omega
 rw[hBB]at hZ0 ⊢
 clear hBB
 go_wp2_with fail
 go_loopg [13] n (fun m s13 wr => ∃ k:Nat,s13 = .int .i64 (k:Int)/\m=n-k/\k<=n/\Hid (∀ j,j<k->inS r l[j]! = false)/\Below w.heap.size w wr/\Z3 wr B)
 case atStart=>exact⟨0,rfl,rfl,Nat.zero_le _,Lib.hid (fun j hj=>by omega),hB0,hZ0⟩
 case round =>
  clear hB0 hZ0
  obtain⟨k,rfl,rfl,hk,HNo,hB,hZ⟩:=hrel
  by_cases hlt:k<n
  ·have hltz:(k:Int)<(n:Int):=by omega
   obtain⟨c0,c1,c2⟩:=HC.out k hlt
   rw[<-hB.cell (p:=⟨b,k*3,none⟩) hb]at c0
   rw[<-hB.cell (p:=⟨b,k*3+1,none⟩) hb]at c1
   rw[<-hB.cell (p:=⟨b,k*3+2,none⟩) hb]at c2
   obtain⟨p,hp⟩:∃ p,l[k]! = p:=⟨_,rfl⟩
   rw[hp]at c0 c1 c2
   obtain⟨x,y,z⟩:=p
   dsimp only at c0 c1 c2
   have HP:=Lib.hid hp
   clear hp
   go_upto_region 4 with fail
   have hX:=alloc_heap_new' wr (.cells #[.int .i32 x,.int .i32 y,.int .i32 z] 301)
   have hZ1:Z3 (wr.alloc (.cells #[.int .i32 x,.int .i32 y,.int .i32 z] 301)) B:=alloc_old _ hZ
   have hB1:Below w.heap.size w (wr.alloc (.cells #[.int .i32 x,.int .i32 y,.int .i32 z] 301)):=hB.alloc hB.size _
   generalize wr.alloc (.cells #[.int .i32 x,.int .i32 y,.int .i32 z] 301)=W1 at hX hZ1 hB1 ⊢
   generalize wr.heap.size=X at hX ⊢
   obtain⟨x0,x1,x2,e0,e1,e2⟩:=Z3.cells hX
   have HX:=Lib.hid hX
   have HZ1:=Lib.hid hZ1
   clear hB hZ c0 c1 c2 hX hZ1
   have HQ:=Lib.hid (fun w=>shiftHas_any x y z r w)
   have HIN:Hid (inS r l[k]! = inS r (x,y,z)):=Lib.hid (by rw[HP.out])
   obtain⟨q,hq⟩:∃ q,inS r (x,y,z)=q:=⟨_,rfl⟩
   rw[hq]at HQ HIN
   clear hq HH
   cases q with
   | true =>
    go_upto_region 5 with(first|(go_at_call 271;refine (HQ.out _).mono ?_;rintro e w2 ⟨rfl,hB2⟩)|fail)
    have hX2:=(hB2.block X (Array.getElem?_eq_some_iff.1 HX.out).1).trans HX.out
    have hZ2:=(hB2.block B (Array.getElem?_eq_some_iff.1 HZ1.out).1).trans HZ1.out
    have hB3:=hB1.trans (hB2.mono hB1.size)
    have HAT:Hid (l.find? (inS r)=some (x,y,z)):=Lib.hid (by rw[find_at (by rw[HN.out];exact hlt) HIN.out HNo.out,HP.out])
    clear x0 x1 x2 e0 e1 e2 hB1 hB2
    obtain⟨x0,x1,x2,e0,e1,e2⟩:=Z3.cells hX2
    obtain⟨z0,z1,z2,g0,g1,g2⟩:=Z3.cells hZ2
    have HZ:=Lib.hid hZ2
    clear hX2 hZ2
    go_wp2_with fail
    obtain⟨s0,s1,s2⟩:=z3_set HZ.out (.int .i32 x) (.int .i32 y) (.int .i32 z)
    refine bodyPost_ret (v:=.tuple #[.agg #[.int .i32 x,.int .i32 y,.int .i32 z],.bool true]) ?_ rfl ⟨by rw[HAT.out];rfl, ?_⟩
    ·simp[results,Tryz.results269,go_sem,s0,s1,s2]
    ·exact ((hB3.setCell (p:=⟨B,0,none⟩) hBl _).setCell (p:=⟨B,1,none⟩) hBl _).setCell (p:=⟨B,2,none⟩) hBl _
   | false =>
    go_upto_region 6 with(first|(go_at_call 271;refine (HQ.out _).mono ?_;rintro e w2 ⟨rfl,hB2⟩)|fail)
    have hZ2:=(hB2.block B (Array.getElem?_eq_some_iff.1 HZ1.out).1).trans HZ1.out
    have hB3:=hB1.trans (hB2.mono hB1.size)
    clear x0 x1 x2 e0 e1 e2 hB1 hB2
    go_wp2_with fail
    go_roundg (n-(k+1))
    case measure=>omega
    case rel =>
     refine⟨k+1,by go_num,rfl,by omega,Lib.hid (fun j hj => ?_),hB3,hZ2⟩
     by_cases hjk:j=k
     ·subst hjk;exact HIN.out
     ·exact HNo.out j (by omega)
  ·obtain rfl:k=n:=by omega
   have hltz:¬ ((k:Nat):Int)<(k:Int):=by omega
   have HQ:Hid (l.find? (inS r)=none):=Lib.hid (find_no (fun j hj=>HNo.out j (by rw[HN.out]at hj;exact hj)))
   go_upto_region 8 with fail
   have hX:=alloc_heap_new' wr (.cells #[.int .i32 0,.int .i32 0,.int .i32 0] 301)
   have hZ1:Z3 (wr.alloc (.cells #[.int .i32 0,.int .i32 0,.int .i32 0] 301)) B:=alloc_old _ hZ
   have hB1:Below w.heap.size w (wr.alloc (.cells #[.int .i32 0,.int .i32 0,.int .i32 0] 301)):=hB.alloc hB.size _
   generalize wr.alloc (.cells #[.int .i32 0,.int .i32 0,.int .i32 0] 301)=W1 at hX hZ1 hB1 ⊢
   generalize wr.heap.size=X at hX ⊢
   obtain⟨x0,x1,x2,e0,e1,e2⟩:=Z3.cells hX
   obtain⟨z0,z1,z2,g0,g1,g2⟩:=Z3.cells hZ1
   have HZ:=Lib.hid hZ1
   clear hB hZ hX hZ1 HH
   go_wp2_with fail
   obtain⟨s0,s1,s2⟩:=z3_set HZ.out (.int .i32 0) (.int .i32 0) (.int .i32 0)
   refine bodyPost_ret (v:=.tuple #[.agg #[.int .i32 0,.int .i32 0,.int .i32 0],.bool false]) ?_ rfl ⟨by rw[HQ.out];rfl, ?_⟩
   ·simp[results,Tryz.results269,go_sem,s0,s1,s2]
   ·exact ((hB1.setCell (p:=⟨B,0,none⟩) hBl _).setCell (p:=⟨B,1,none⟩) hBl _).setCell (p:=⟨B,2,none⟩) hBl _
theorem tab_cell(w:World)(xs:List Value)(t:TypeId)(k:Nat):(w.alloc (.cells xs.toArray t)).cell? ⟨w.heap.size,k,none⟩=xs[k]?:=by
 rw[cell_of_row _ _ _ xs.toArray t (0,0) (World.alloc_heap_new w _),List.getElem?_toArray]
end Go.Proofs.YtkibdkfdffkkfaaGreatDoor
namespace Remap
def mp (r:Int):Option (List Int):=if r=8230 then some [46,46,46] else (shL.find? (inS r)).map fun s=>[r-s.1+s.2.2]
def vl (r:Int):Bool:=!(decide (Ucd.g (Ucd.of r) 0=0)) && !(baL.any (inP r))
def one (r:Int):List Int × Int:=match mp r with
 | some l=>(l,1)
 | none=>if igL.any (inP r) then ([],2) else if vl r then ([r],0) else ([],3)
def vd (r:Int):Bool:=decide ((one r).2=0)
end Remap
namespace Go.Proofs.YtkibdkfdffkkfaaGreatDoor
open Go.RowKit Norm Remap
def MpV (w:World) (o:Option (List Int)) (e:Ending) (w':World):Prop :=
 ∃ A c,e = .returned (.tuple #[.slice A (o.getD []).length c,.bool o.isSome])/\w'.ownsRow w.heap.size 21 1 (.slice A (o.getD []).length c) (o.getD []).length (cl .i32 (o.getD []))/\Below w.heap.size w w'
theorem sh_bd:shL.all (fun s=>decide (0<=s.1/\s.2.1<=70000/\0<=s.2.2/\s.2.2<=70000))=true:=by decide +kernel
theorem own_new(w:World)(base:Nat)(cs:Array Value)(h:base<=w.heap.size)(hs:cs.size<=10):(w.alloc (.cells cs 21)).ownsRow base 21 1 (.slice (some ⟨w.heap.size,0,none⟩) cs.size cs.size) cs.size cs.toList :=
 ⟨by simp,.inr ⟨w.heap.size,cs.size,cs,rfl,h,heap_alloc_new w _,Nat.le_refl _,by unfold maxLen;omega,by simp,by simp[List.take_of_length_le]⟩⟩
theorem own_nil0(w:World)(base:Nat):w.ownsRow base 21 1 (.slice none 0 0) 0 []:=⟨rfl,.inl ⟨rfl,rfl⟩⟩
theorem shifts_at(w:World):∀ i,i<21->(w.alloc (.cells (cS shL).toArray 301)).cell? ⟨w.heap.size,i*3,none⟩=some (.int .i32 shL[i]!.1)/\(w.alloc (.cells (cS shL).toArray 301)).cell? ⟨w.heap.size,i*3+1,none⟩=some (.int .i32 shL[i]!.2.1)/\(w.alloc (.cells (cS shL).toArray 301)).cell? ⟨w.heap.size,i*3+2,none⟩=some (.int .i32 shL[i]!.2.2):=fun i hi=>by
 obtain⟨a,b,c⟩:=cS_get shL i hi
 exact⟨(tab_cell _ _ _ _).trans a,(tab_cell _ _ _ _).trans b,(tab_cell _ _ _ _).trans c⟩
theorem spans_at(w:World)(l:List (Int × Int))(n:Nat)(hn:l.length=n):∀ i,i<n->(w.alloc (.cells (cP l).toArray 264)).cell? ⟨w.heap.size,i*2,none⟩=some (.int .i32 l[i]!.1)/\(w.alloc (.cells (cP l).toArray 264)).cell? ⟨w.heap.size,i*2+1,none⟩=some (.int .i32 l[i]!.2):=fun i hi=>by
 obtain⟨a,b⟩:=cP_get l i (by omega)
 exact⟨(tab_cell _ _ _ _).trans a,(tab_cell _ _ _ _).trans b⟩
theorem mapped_any(r:Int)(w:World):Calls Tryz.prog 236 #[.int .i32 r] w (MpV w (mp r)):=by
 by_cases h:r=8230
 ·have e:mp r=some [46,46,46]:=by unfold mp;rw[if_pos h]
  rw[e]
  go_enter Tryz.func236,Tryz.ntmps236
  go_wp2
  go_ret2
  exact⟨_,3,rfl,own_new w w.heap.size #[.int .i32 46,.int .i32 46,.int .i32 46] (Nat.le_refl _) (by simp),upA w _⟩
 ·cases hf:shL.find? (inS r) with
  | none =>
   have e:mp r=none:=by unfold mp;rw[if_neg h,hf];rfl
   rw[e]
   have HT:=Lib.hid (fun w=>shifts_any w)
   have HW:=Lib.hid (fun w=>whichS_any shL w.heap.size 21 r (w.alloc (.cells (cS shL).toArray 301)) rfl (by omega) (by simp) (shifts_at w))
   rw[hf]at HW
   clear hf e
   go_enter Tryz.func236,Tryz.ntmps236
   go_wp2_with(first
    | (go_at_call 270;refine (HT.out _).mono ?_;rintro e w1 ⟨rfl,rfl⟩)
    | (go_at_call 269;refine (HW.out _).mono ?_;rintro e w2 ⟨rfl,hB2⟩)
    | fail)
   go_ret2
   have hB:=below_past _ hB2
   exact⟨none,0,rfl,own_nil0 _ _,hB.alloc hB.size _⟩
  | some s =>
   have e:mp r=some [r-s.1+s.2.2]:=by unfold mp;rw[if_neg h,hf];rfl
   rw[e]
   have HT:=Lib.hid (fun w=>shifts_any w)
   have HW:=Lib.hid (fun w=>whichS_any shL w.heap.size 21 r (w.alloc (.cells (cS shL).toArray 301)) rfl (by omega) (by simp) (shifts_at w))
   rw[hf]at HW
   have hs1:inS r s=true:=List.find?_some hf
   have hs2:=List.all_eq_true.1 sh_bd s (List.mem_of_find?_eq_some hf)
   unfold inS at hs1
   have hs1:=of_decide_eq_true hs1
   have hs2:=of_decide_eq_true hs2
   obtain⟨x,y,z⟩:=s
   dsimp only at hs1 hs2 ⊢
   have HM:=Lib.hid (fun w=>shiftMove_any x y z r w (by omega) (by omega) (by omega) (by omega) (by omega))
   clear hf e hs1 hs2
   obtain⟨v,hv⟩:∃ v,r-x+z=v:=⟨_,rfl⟩
   rw[hv]at HM ⊢
   clear hv
   go_enter Tryz.func236,Tryz.ntmps236
   go_upto_region 5 with(first
    | (go_at_call 270;refine (HT.out _).mono ?_;rintro e w1 ⟨rfl,rfl⟩)
    | (go_at_call 269;refine (HW.out _).mono ?_;rintro e w2 ⟨rfl,hB2⟩)
    | fail)
   have hB:=below_past _ hB2
   have hX:=alloc_heap_new' w2 (.cells #[.int .i32 x,.int .i32 y,.int .i32 z] 301)
   have hB1:=hB.alloc hB.size (.cells #[.int .i32 x,.int .i32 y,.int .i32 z] 301)
   generalize w2.alloc (.cells #[.int .i32 x,.int .i32 y,.int .i32 z] 301)=w3 at hX hB1 ⊢
   generalize w2.heap.size=X at hX ⊢
   obtain⟨x0,x1,x2,_⟩:=Z3.cells hX
   clear hB hB2 hX
   go_wp2_with(first
    | (go_at_call 272;refine (HM.out _).mono ?_;rintro e w4 ⟨rfl,hB4⟩)
    | fail)
   go_ret2
   have hB5:=hB1.trans (hB4.mono hB1.size)
   exact⟨_,1,rfl,own_new w4 w.heap.size #[.int .i32 v] hB5.size (by simp),hB5.alloc hB5.size _⟩
theorem valid_any(r:Int)(w:World):Calls Tryz.prog 240 #[.int .i32 r] w (Tells (.bool (vl r)) w):=by
 have HO:=Lib.hid (fun w=>Of_any r w)
 have HT:=Lib.hid (fun w=>barred_any w)
 have HW:=Lib.hid (fun w=>whichP_any baL w.heap.size 7 r (w.alloc (.cells (cP baL).toArray 264)) rfl (by omega) (by simp) (spans_at w baL 7 rfl))
 obtain⟨q,hq⟩:∃ q,baL.any (inP r)=q:=⟨_,rfl⟩
 rw[hq]at HW
 have HRC:∀ (p:List Int) w,(Instr.field 281 (pv p) 0).run Tryz.prog w = .ok (.int .u8 (Ucd.g p 0)) w:=fun p w=>by kernel_rfl
 unfold vl
 rw[hq]
 have HR:=HRC (Ucd.of r)
 generalize Ucd.of r=p at HO HR ⊢
 obtain⟨y,hy⟩:∃ y,Ucd.g p 0=y:=⟨_,rfl⟩
 rw[hy]at HR ⊢
 clear hq hy HRC
 by_cases h0:y=0
 ·subst h0
  go_enter Tryz.func240,Tryz.ntmps240
  go_wp2_with(first
   | (go_at_call 250;refine (HO.out _).mono ?_;rintro e w1 ⟨rfl,hB1⟩)
   | fail)
  go_ret
  exact⟨by first|rfl|simp,hB1⟩
 ·go_enter Tryz.func240,Tryz.ntmps240
  go_wp2_with(first
   | (go_at_call 250;refine (HO.out _).mono ?_;rintro e w1 ⟨rfl,hB1⟩)
   | (go_at_call 273;refine (HT.out _).mono ?_;rintro e w2 ⟨rfl,rfl⟩)
   | (go_at_call 237;refine (HW.out _).mono ?_;rintro e w3 ⟨⟨x1,x2,rfl⟩,hB3⟩)
   | fail)
  go_ret
  have hB:=hB1.trans ((below_past _ hB3).mono hB1.size)
  exact⟨by first|rfl|simp[h0],hB.alloc hB.size _⟩
def OneV (w:World) (o:List Int × Int) (e:Ending) (w':World):Prop :=
 ∃ A c,e = .returned (.tuple #[.slice A o.1.length c,.int .u8 o.2])/\w'.ownsRow w.heap.size 21 1 (.slice A o.1.length c) o.1.length (cl .i32 o.1)/\Below w.heap.size w w'
theorem One_any(r:Int)(w:World):Calls Tryz.prog 193 #[.int .i32 r] w (OneV w (one r)):=by
 have HM:=Lib.hid (fun w=>mapped_any r w)
 have HT:=Lib.hid (fun w=>ignored_any w)
 have HW:=Lib.hid (fun w=>whichP_any igL w.heap.size 4 r (w.alloc (.cells (cP igL).toArray 264)) rfl (by omega) (by simp) (spans_at w igL 4 rfl))
 have HV:=Lib.hid (fun w=>valid_any r w)
 unfold one
 obtain⟨o,ho⟩:∃ o,mp r=o:=⟨_,rfl⟩
 rw[ho]at HM ⊢
 clear ho
 cases o with
 | some l =>
  clear HT HW HV
  dsimp only
  go_enter Tryz.func193,Tryz.ntmps193
  go_wp2_with(first
   | (go_at_call 236;refine (HM.out _).mono ?_;rintro e w1 ⟨A,c,rfl,hO1,hB1⟩)
   | fail)
  go_ret2
  exact⟨A,c,rfl,hO1,hB1⟩
 | none =>
  dsimp only
  obtain⟨q,hq⟩:∃ q,igL.any (inP r)=q:=⟨_,rfl⟩
  obtain⟨v,hv⟩:∃ v,vl r=v:=⟨_,rfl⟩
  rw[hq]at HW ⊢
  rw[hv]at HV ⊢
  clear hq hv
  cases q with
  | true =>
   go_enter Tryz.func193,Tryz.ntmps193
   go_wp2_with(first
    | (go_at_call 236;refine (HM.out _).mono ?_;rintro e w1 ⟨A,c,rfl,hO1,hB1⟩)
    | (go_at_call 238;refine (HT.out _).mono ?_;rintro e w2 ⟨rfl,rfl⟩)
    | (go_at_call 237;refine (HW.out _).mono ?_;rintro e w3 ⟨⟨x1,x2,rfl⟩,hB3⟩)
    | fail)
   go_ret2
   have hB:=hB1.trans ((below_past _ hB3).mono hB1.size)
   exact⟨none,0,rfl,own_nil0 _ _,hB.alloc hB.size _⟩
  | false =>
   cases v with
   | true =>
    go_enter Tryz.func193,Tryz.ntmps193
    go_wp2_with(first
     | (go_at_call 236;refine (HM.out _).mono ?_;rintro e w1 ⟨A,c,rfl,hO1,hB1⟩)
     | (go_at_call 238;refine (HT.out _).mono ?_;rintro e w2 ⟨rfl,rfl⟩)
     | (go_at_call 237;refine (HW.out _).mono ?_;rintro e w3 ⟨⟨x1,x2,rfl⟩,hB3⟩)
     | (go_at_call 240;refine (HV.out _).mono ?_;rintro e w4 ⟨rfl,hB4⟩)
     | fail)
    go_ret2
    have hB:=hB1.trans ((below_past _ hB3).mono hB1.size)
    have hB5:=hB.trans ((below_past _ hB4).mono hB.size)
    exact⟨_,1,rfl,own_new w4 w.heap.size #[.int .i32 r] hB5.size (by simp),hB5.alloc hB5.size _⟩
   | false =>
    go_enter Tryz.func193,Tryz.ntmps193
    go_wp2_with(first
     | (go_at_call 236;refine (HM.out _).mono ?_;rintro e w1 ⟨A,c,rfl,hO1,hB1⟩)
     | (go_at_call 238;refine (HT.out _).mono ?_;rintro e w2 ⟨rfl,rfl⟩)
     | (go_at_call 237;refine (HW.out _).mono ?_;rintro e w3 ⟨⟨x1,x2,rfl⟩,hB3⟩)
     | (go_at_call 240;refine (HV.out _).mono ?_;rintro e w4 ⟨rfl,hB4⟩)
     | fail)
    go_ret2
    have hB:=hB1.trans ((below_past _ hB3).mono hB1.size)
    have hB5:=hB.trans ((below_past _ hB4).mono hB.size)
    exact⟨none,0,rfl,own_nil0 _ _,hB5⟩
theorem Code_any(r:Int)(w:World):Calls Tryz.prog 377 #[.int .i32 r] w (Tells (.bool (vd r)) w):=by
 have HM:=Lib.hid (fun w=>One_any r w)
 unfold vd
 generalize one r=p at HM ⊢
 obtain⟨l,y⟩:=p
 dsimp only
 by_cases h:y=0
 ·subst h
  go_enter Tryz.func377,Tryz.ntmps377
  go_wp2_with(first|(go_at_call 193;refine (HM.out _).mono ?_;rintro e w1 ⟨A,c,rfl,hO1,hB1⟩)|fail)
  go_ret
  exact⟨by first|rfl|simp,hB1⟩
 ·go_enter Tryz.func377,Tryz.ntmps377
  go_wp2_with(first|(go_at_call 193;refine (HM.out _).mono ?_;rintro e w1 ⟨A,c,rfl,hO1,hB1⟩)|fail)
  go_ret
  exact⟨by first|rfl|simp[h],hB1⟩
end Go.Proofs.YtkibdkfdffkkfaaGreatDoor
namespace Go.Proofs.YtkibdkfdffkkfaaGreatDoor
open Norm
def sL (a:Int):Int:=4352+(a-44032)/28/21
def sV (a:Int):Int:=4449+(a-44032)/28%21
def sT (a:Int):Int:=4519+(a-44032)%28
theorem full_2{a:Int}(h0:44032<=a)(h1:a<55204)(h:(a-44032)%28=0):full a=[sL a,sV a]:=full_LV h0 h1 h
theorem full_3{a:Int}(h0:44032<=a)(h1:a<55204)(h:(a-44032)%28≠0):full a=[sL a,sV a,sT a]:=full_LVT h0 h1 h
theorem full_len_eq{a:Int}(h0:44032<=a)(h1:a<55204):(full a).length=if (a-44032)%28=0 then 2 else 3:=by
 split
 ·rename_i h;rw[full_2 h0 h1 h];rfl
 ·rename_i h;rw[full_3 h0 h1 h];rfl
end Go.Proofs.YtkibdkfdffkkfaaGreatDoor
namespace Go.Proofs.YtkibdkfdffkkfaaGreatDoor
open Go.RowKit Norm
def E2 (A B:List C):Prop:=∀ acc S,arr acc (A++S)=arr acc (B++S)
theorem E2.arr{A B:List C}(h:E2 A B):arr [] A=arr [] B:=by
 have:=h [] []
 rwa [List.append_nil,List.append_nil]at this
def J (L:List C) (k:Nat) (s:St):Prop :=
 E2 (dec s.out) (L.take k)/\(s.st = -1∨(0<k/\∃ pre y post,s.st=(pre.length:Int)/\s.out=pre++y::post/\(∀ m∈post,full m=[m]/\ccc m≠0/\ccc m<=s.last)/\(post=[]->s.last=0)/\s.last<=L[k-1]!.2))
theorem nfc_le{l:List Int}(hC:C32 l):(nfc l).length<=(nfd l).length:=by
 rw[nfd_len,<-arr_len]
 exact comp_len_le _ (arr_w2 (dec_w2 hC))
end Go.Proofs.YtkibdkfdffkkfaaGreatDoor
namespace Go.Proofs.YtkibdkfdffkkfaaGreatDoor
open Go.RowKit Norm Go.Shelf Go.Sort Go.Lib
theorem srt_le{l:List C}(h:Srt l){i j:Nat}(hij:i<=j)(hj:j<l.length):l[i]!.2<=l[j]!.2:=by
 rw[getElem!_pos l i (by omega),getElem!_pos l j hj]
 rcases Nat.lt_or_ge i j with hlt|hge
 ·exact List.pairwise_iff_getElem.1 h i j (by omega) hj hlt
 ·obtain rfl:i=j:=by omega
  exact Int.le_refl _
theorem srt_take{l:List C}(h:Srt l)(k:Nat):Srt (l.take k):=h.sublist (List.take_sublist k l)
theorem srt_drop{l:List C}(h:Srt l)(k:Nat):Srt (l.drop k):=h.sublist (List.drop_sublist k l)
theorem mem_take!{l:List C}{k:Nat}{x:C}(h:x∈l.take k):∃ i,i<k/\i<l.length/\l[i]! = x:=by
 obtain⟨i,hi,rfl⟩:=List.getElem_of_mem h
 rw[List.length_take]at hi
 exact⟨i,by omega,by omega,by rw[getElem!_pos l i (by omega),List.getElem_take]⟩
theorem mem_drop!{l:List C}{k:Nat}{x:C}(h:x∈l.drop k):∃ i,k<=i/\i<l.length/\l[i]! = x:=by
 obtain⟨i,hi,rfl⟩:=List.getElem_of_mem h
 rw[List.length_drop]at hi
 exact⟨k+i,by omega,by omega,by rw[getElem!_pos l (k+i) (by omega),List.getElem_drop]⟩
theorem mem_isS(l:List C)(x:C):x∈isort l↔x∈l:=⟨fun h=>(isort_stb l).symm.mem h,fun h=>(isort_stb l).mem h⟩
theorem merge_split{X1 X2 Y1 Y2:List C}(hX:Srt (X1++X2))(hY:Srt (Y1++Y2))(h1:∀ x∈X2,∀ y∈Y1,y.2<x.2)(h2:∀ x∈X1,∀ y∈Y2,x.2<=y.2):isort (X1++X2++(Y1++Y2))=isort (X1++Y1)++isort (X2++Y2):=by
 refine (isort_of ?_ ?_).symm
 ·refine List.pairwise_append.2 ⟨isort_srt _,isort_srt _,fun a ha b hb => ?_⟩
  rw[mem_isS,List.mem_append]at ha hb
  rcases ha with ha|ha<;>rcases hb with hb|hb
  ·exact (List.pairwise_append.1 hX).2.2 a ha b hb
  ·exact h2 a ha b hb
  ·exact Int.le_of_lt (h1 b hb a ha)
  ·exact (List.pairwise_append.1 hY).2.2 a ha b hb
 ·intro c
  rw[List.filter_append (isort _),<-isort_stb (X1++Y1) c,<-isort_stb (X2++Y2) c]
  simp only[List.filter_append]
  have e:X2.filter (fun x=>x.2==c)++Y1.filter (fun x=>x.2==c)=Y1.filter (fun x=>x.2==c)++X2.filter (fun x=>x.2==c):=by
   rcases Decidable.em (X2.filter (fun x=>x.2==c)=[]) with h|h
   ·rw[h];simp
   ·have:Y1.filter (fun x=>x.2==c)=[]:=by
     rw[List.filter_eq_nil_iff]
     intro y hy hyc
     obtain⟨x,hx⟩:=List.exists_mem_of_ne_nil _ h
     rw[List.mem_filter]at hx
     have:=h1 x hx.1 y hy
     have e1:=hx.2
     simp only[beq_iff_eq]at e1 hyc
     omega
    rw[this];simp
  rw[List.append_assoc,<-List.append_assoc (X2.filter _),e]
  simp only[List.append_assoc]
theorem merge_at{X Y:List C}{k e:Nat}(hX:Srt X)(hY:Srt Y)(h1:k<X.length->0<e->e<=Y.length->Y[e-1]!.2<X[k]!.2)(h2:0<k->k<=X.length->e<Y.length->X[k-1]!.2<=Y[e]!.2)(he:e<=Y.length)(hk:k<=X.length) :
  isort (X++Y)=isort (X.take k++Y.take e)++isort (X.drop k++Y.drop e):=by
 conv=>lhs;rw[<-List.take_append_drop k X,<-List.take_append_drop e Y]
 refine merge_split (by rw[List.take_append_drop];exact hX) (by rw[List.take_append_drop];exact hY) ?_ ?_
 ·intro x hx y hy
  obtain⟨i,i1,i2,rfl⟩:=mem_drop! hx
  obtain⟨j,j1,j2,rfl⟩:=mem_take! hy
  have:=h1 (by omega) (by omega) he
  have a1:=srt_le hX i1 i2
  have a2:=srt_le hY (i:=j) (j:=e-1) (by omega) (by omega)
  omega
 ·intro x hx y hy
  obtain⟨i,i1,i2,rfl⟩:=mem_take! hx
  obtain⟨j,j1,j2,rfl⟩:=mem_drop! hy
  have:=h2 (by omega) hk (by omega)
  have a1:=srt_le hX (i:=i) (j:=k-1) (by omega) (by omega)
  have a2:=srt_le hY j1 j2
  omega
theorem merge_one{x:C}{Y:List C}{e:Nat}(hY:Srt Y)(he:e<=Y.length)(h1:0<e->Y[e-1]!.2<x.2)(h2:e<Y.length->x.2<=Y[e]!.2):isort ([x]++Y)=Y.take e++[x]++Y.drop e:=by
 rw[merge_at (k:=0) (e:=e) (List.pairwise_singleton _ _) hY (fun _ h _=>h1 h) (fun h=>absurd h (by omega)) he (by simp)]
 rw[List.take_zero,List.nil_append,List.drop_zero,isort_srt_self (srt_take hY e),List.append_assoc]
 congr 1
 refine isort_srt_self (List.pairwise_cons.2 ⟨fun y hy => ?_,srt_drop hY e⟩)
 obtain⟨j,j1,j2,rfl⟩:=mem_drop! hy
 have:=h2 (by omega)
 have a2:=srt_le hY j1 j2
 omega
theorem merge_last{y:C}{X:List C}{k:Nat}(hX:Srt X)(hk:k<=X.length)(h1:k<X.length->y.2<X[k]!.2)(h2:0<k->X[k-1]!.2<=y.2):isort (X++[y])=X.take k++[y]++X.drop k:=by
 rw[merge_at (k:=k) (e:=1) hX (List.pairwise_singleton _ _) (fun h _ _=>h1 h) (fun _ _ h=>absurd h (by simp)) (by simp) hk]
 rw[show List.take 1 [y]=[y] from rfl,show List.drop 1 [y]=[] from rfl,List.append_nil,isort_srt_self (srt_drop hX k)]
 congr 1
 refine isort_srt_self (List.pairwise_append.2 ⟨srt_take hX k,List.pairwise_singleton _ _,fun a ha b hb => ?_⟩)
 rw[List.mem_singleton]at hb
 subst hb
 obtain⟨j,j1,j2,rfl⟩:=mem_take! ha
 have:=h2 (by omega)
 have a2:=srt_le hX (i:=j) (j:=k-1) (by omega) (by omega)
 omega
theorem at_X{P X Y S:List C}{i:Nat}(hi:i<X.length):(P++X++Y++S).toArray[P.length+i]! = X[i]!:=by
 rw[getElem!_pos _ _ (by simp;omega),getElem!_pos X i hi]
 simp only[List.getElem_toArray]
 rw[List.getElem_append_left (by simp;omega),List.getElem_append_left (by simp;omega),List.getElem_append_right (by omega)]
 congr 1
 omega
theorem at_Y{P X Y S:List C}{i:Nat}(hi:i<Y.length):(P++X++Y++S).toArray[P.length+X.length+i]! = Y[i]!:=by
 have:=at_X (P:=P++X) (X:=Y) (Y:=S) (S:=[]) hi
 rw[List.append_nil,List.length_append]at this
 exact this
theorem cmp_call(x y:C)(W:World)(n:Nat)(os:Array Obj):Calls Tryz.prog 291 #[.agg #[.int .i32 x.1,.int .u8 x.2],.agg #[.int .i32 y.1,.int .u8 y.2]] (grow (W.drewN n) os) fun e w''=>e = .returned (.int .i64 (cmpZ x.2 y.2))/\∃ p:GrownBy,w''=grow (W.drewN p.n) p.os :=
 Calls.grown_of (closure_any x y (grow (W.drewN n) os))
section
variable {w0 W:World} {blk off:Nat} {l0 l:List C}
theorem SWL.cells_g(h:SWL w0 blk off l W)(R:RowC w0 blk off l0)(hs:l.length=l0.length){i:Nat}(hi:i<l.length){x:C}(hx:l.toArray[i]! = x) :
  (∀ n os,(grow (W.drewN n) os).cell? ⟨blk,off+i*2,none⟩=some (.int .i32 x.1))/\∀ n os,(grow (W.drewN n) os).cell? ⟨blk,off+i*2+1,none⟩=some (.int .u8 x.2):=by
 subst hx
 exact⟨fun n os=>((h.grown n os).cells R hs hi).1,fun n os=>((h.grown n os).cells R hs hi).2.1⟩
end
theorem cmpZ_lt{x y:Int}:cmpZ x y<0↔x<y:=by
 unfold cmpZ
 by_cases h:x<y
 ·simp[h]
 ·rw[if_neg h]
  split<;>omega
end Go.Proofs.YtkibdkfdffkkfaaGreatDoor
