import Derived.Test.YtkibdkfdffkkfaaGreatDoorPk37
set_option maxRecDepth 100000
set_option maxHeartbeats 8000000
namespace Go.Proofs.YtkibdkfdffkkfaaGreatDoor.Rul
open Go.RowKit Ucd
theorem fld1(p:List Int)(w:World):(Instr.field 281 (pv p) 1).run Tryz.prog w = .ok (.int .u8 (g p 1)) w:=by kernel_rfl
theorem shr_le(s:Int)(k:Nat)(h0:0<=s)(h1:s<4294967296):0<=s/2 ^ k/\s/2 ^ k<4294967296:=by
 have hp:(0:Int)<2 ^ k:=Int.pow_pos (by decide)
 exact⟨Int.ediv_nonneg h0 (by omega),Int.lt_of_le_of_lt (Int.ediv_le_self _ h0) h1⟩
theorem and1(a:Int)(h1:0<=a)(h2:a<4294967296):bits .and .u32 a 1=a%2:=by
 rw[u32_and a 1 h1 h2 (by decide) (by decide),show (1:Int).toNat=1 from rfl,Nat.and_one_is_mod]
 omega
theorem ne0(z:Int):(z != 0)=decide (z≠0):=by
 by_cases h:z=0<;>simp[h]
theorem has_any(s r:Int)(h0:0<=s)(h1:s<4294967296)(w:World):Calls Tryz.prog 293 #[.int .u32 s,.int .i32 r] w (IsB (hb s r) w):=by
 have hbd:=bc_bd r
 unfold hb hs
 unfold bc at hbd ⊢
 have HO:=Lib.hid (fun w=>Of_any r w)
 have HF:=fld1 (of r)
 generalize of r=p at HO HF hbd ⊢
 obtain⟨y,hy⟩:∃ y,g p 1=y:=⟨_,rfl⟩
 rw[hy]at HF hbd ⊢
 have hd:=shr_le s y.toNat h0 h1
 clear hy
 go_enter Tryz.func293,Tryz.ntmps293
 go_wp2_with(first|(go_at_call 250;refine (HO.out _).mono ?_;rintro e w1 ⟨rfl,hB1⟩)|fail)
 go_ret
 exact⟨by rw[<-ne0,and1 _ hd.1 hd.2];rfl,hB1⟩
def PlaceB (q:Bool) (w:World) (e:Ending) (w':World):Prop:=∃ i:Int,e = .returned (.int .i64 i)/\decide (0<=i)=q/\Below w.heap.size w w'
--GEN--
theorem Index_has(s:Int)(hs0:0<=s)(hs1:s<4294967296)(l:List Int)(A:Option Addr)(n c:Nat)(w0:World)  (hn:l.length=n)(hn1:n<=1000000)(hr:Row w0 w0.heap.size A (cl .i32 l)):Calls Tryz.prog 126 #[.slice A n c,.func (.func 293) #[.int .u32 s] #[]] w0 (PlaceB (l.any (hb s)) w0):=by
 have HN:=Lib.hid hn
 have HS:=Lib.hid (fun y=>(fun w (_:Below w0.heap.size w0 w)=>has_any s y hs0 hs1 w))
 clear hn
 go_enter Tryz.func126,Tryz.ntmps126
 go_wp2_with fail
 go_loopg [8] n (fun m s8 wr => ∃ k:Nat,s8 = .int .i64 (k:Int)/\m=n-k/\k<=n/\Hid (∀ j,j<k->hb s l[j]! = false)/\Below w0.heap.size w0 wr)
 case atStart=>exact⟨0,rfl,rfl,Nat.zero_le _,Lib.hid (fun j hj=>by omega),Below.refl _ _⟩
 case round =>
  obtain⟨k,rfl,rfl,hk,HNo,hB⟩:=hrel
  by_cases hlt:k<n
  ·have hltz:(k:Int)<(n:Int):=by omega
   obtain⟨b,o,rfl,hb',hcc⟩:=(hr.below hB).at_ (by have:=HN.out;simp;omega)
   have c0:=row_cell hcc k (by rw[HN.out];exact hlt)
   have hm:=mems (l:=l) (i:=k) (by rw[HN.out];exact hlt)
   obtain⟨y,hy⟩:∃ y,l[k]! = y:=⟨_,rfl⟩
   rw[hy]at c0 hm
   have HY:=Lib.hid hy
   have HM:=Lib.hid hm
   have HC:=Lib.hid (HS.out y)
   obtain⟨q,hq⟩:∃ q,hb s y=q:=⟨_,rfl⟩
   rw[hq]at HC
   have HV:=Lib.hid hq
   clear hcc hy hm hq
   cases q with
   | true =>
    have HQ:Hid (l.any (hb s)=true):=Lib.hid (List.any_eq_true.2 ⟨y,HM.out,HV.out⟩)
    go_wp2_with(first|(go_at_call 293;refine (HC.out _ hB).mono ?_;rintro e w1 ⟨rfl,hB1⟩)|fail)
    go_ret
    exact⟨k,rfl,by rw[HQ.out];exact decide_eq_true (by omega),hB.trans (hB1.mono hB.size)⟩
   | false =>
    go_wp2_with(first|(go_at_call 293;refine (HC.out _ hB).mono ?_;rintro e w1 ⟨rfl,hB1⟩)|fail)
    go_roundg (n-(k+1))
    case measure=>omega
    case rel =>
     refine⟨k+1,by go_num,rfl,by omega,Lib.hid (fun j hj => ?_),hB.trans (hB1.mono hB.size)⟩
     by_cases hjk:j=k
     ·subst hjk;rw[HY.out];exact HV.out
     ·exact HNo.out j (by omega)
  ·obtain rfl:k=n:=by omega
   have hltz:¬ ((k:Nat):Int)<(k:Int):=by omega
   have HQ:Hid (l.any (hb s)=false):=Lib.hid (by
    rw[List.any_eq_false]
    intro r h
    obtain⟨j,hj,e⟩:=List.getElem_of_mem h
    have:=HNo.out j (by have:=HN.out;omega)
    rw[getElem!_pos l j hj,e]at this
    rw[this]
    simp)
   go_wp2_with fail
   go_ret
   exact⟨-1,rfl,by rw[HQ.out];rfl,hB⟩
theorem Contains_has(s:Int)(hs0:0<=s)(hs1:s<4294967296)(l:List Int)(A:Option Addr)(n c:Nat)(w0:World)  (hn:l.length=n)(hn1:n<=1000000)(hr:Row w0 w0.heap.size A (cl .i32 l)):Calls Tryz.prog 90 #[.slice A n c,.func (.func 293) #[.int .u32 s] #[]] w0 (IsB (l.any (hb s)) w0):=by
 have HI:=Lib.hid (Index_has s hs0 hs1 l A n c w0  hn hn1 hr)
 generalize l.any (hb s)=q at HI ⊢
 clear hn hr
 go_enter Tryz.func90,Tryz.ntmps90
 go_wp2_with(first|(go_at_call 126;refine HI.out.mono ?_;rintro e w1 ⟨i,rfl,hi,hB1⟩)|fail)
 go_ret
 exact⟨by rw[<-hi];first|rfl|simp,hB1⟩
def nb (s r:Int):Bool:=!(hb s r)
theorem not_any(s r:Int)(hs0:0<=s)(hs1:s<4294967296)(B:Nat)(w:World)(hbx:w.heap[B]? = some (.cells #[.func (.func 293) #[.int .u32 s] #[]] 81 (0,0))):Calls Tryz.prog 370 #[.int .i32 r,.pointer (some ⟨B,0,none⟩)] w (IsB (nb s r) w):=by
 unfold nb
 have HC:=Lib.hid (fun w=>has_any s r hs0 hs1 w)
 generalize hb s r=q at HC ⊢
 have hc:w.cell? ⟨B,0,none⟩=some (.func (.func 293) #[.int .u32 s] #[]):=by simp[World.cell?,hbx]
 clear hs0 hs1 hbx
 go_enter Tryz.func370,Tryz.ntmps370
 go_wp2_with(first|(go_at_call 293;refine (HC.out _).mono ?_;rintro e w1 ⟨rfl,hB1⟩)|fail)
 go_ret
 exact⟨rfl,hB1⟩
theorem Index_not(s:Int)(hs0:0<=s)(hs1:s<4294967296)(B:Nat)(l:List Int)(A:Option Addr)(n c:Nat)(w0:World)(hbx:w0.heap[B]? = some (.cells #[.func (.func 293) #[.int .u32 s] #[]] 81 (0,0)))(hn:l.length=n)(hn1:n<=1000000)(hr:Row w0 w0.heap.size A (cl .i32 l)):Calls Tryz.prog 126 #[.slice A n c,.func (.func 370) #[] #[.pointer (some ⟨B,0,none⟩)]] w0 (PlaceB (l.any (nb s)) w0):=by
 have HN:=Lib.hid hn
 have HS:=Lib.hid (fun y=>(fun w (h:Below w0.heap.size w0 w)=>not_any s y hs0 hs1 B w ((h.block B (Array.getElem?_eq_some_iff.1 hbx).1).trans hbx)))
 clear hn
 go_enter Tryz.func126,Tryz.ntmps126
 go_wp2_with fail
 go_loopg [8] n (fun m s8 wr => ∃ k:Nat,s8 = .int .i64 (k:Int)/\m=n-k/\k<=n/\Hid (∀ j,j<k->nb s l[j]! = false)/\Below w0.heap.size w0 wr)
 case atStart=>exact⟨0,rfl,rfl,Nat.zero_le _,Lib.hid (fun j hj=>by omega),Below.refl _ _⟩
 case round =>
  obtain⟨k,rfl,rfl,hk,HNo,hB⟩:=hrel
  by_cases hlt:k<n
  ·have hltz:(k:Int)<(n:Int):=by omega
   obtain⟨b,o,rfl,hb',hcc⟩:=(hr.below hB).at_ (by have:=HN.out;simp;omega)
   have c0:=row_cell hcc k (by rw[HN.out];exact hlt)
   have hm:=mems (l:=l) (i:=k) (by rw[HN.out];exact hlt)
   obtain⟨y,hy⟩:∃ y,l[k]! = y:=⟨_,rfl⟩
   rw[hy]at c0 hm
   have HY:=Lib.hid hy
   have HM:=Lib.hid hm
   have HC:=Lib.hid (HS.out y)
   obtain⟨q,hq⟩:∃ q,nb s y=q:=⟨_,rfl⟩
   rw[hq]at HC
   have HV:=Lib.hid hq
   clear hcc hy hm hq
   cases q with
   | true =>
    have HQ:Hid (l.any (nb s)=true):=Lib.hid (List.any_eq_true.2 ⟨y,HM.out,HV.out⟩)
    go_wp2_with(first|(go_at_call 370;refine (HC.out _ hB).mono ?_;rintro e w1 ⟨rfl,hB1⟩)|fail)
    go_ret
    exact⟨k,rfl,by rw[HQ.out];exact decide_eq_true (by omega),hB.trans (hB1.mono hB.size)⟩
   | false =>
    go_wp2_with(first|(go_at_call 370;refine (HC.out _ hB).mono ?_;rintro e w1 ⟨rfl,hB1⟩)|fail)
    go_roundg (n-(k+1))
    case measure=>omega
    case rel =>
     refine⟨k+1,by go_num,rfl,by omega,Lib.hid (fun j hj => ?_),hB.trans (hB1.mono hB.size)⟩
     by_cases hjk:j=k
     ·subst hjk;rw[HY.out];exact HV.out
     ·exact HNo.out j (by omega)
  ·obtain rfl:k=n:=by omega
   have hltz:¬ ((k:Nat):Int)<(k:Int):=by omega
   have HQ:Hid (l.any (nb s)=false):=Lib.hid (by
    rw[List.any_eq_false]
    intro r h
    obtain⟨j,hj,e⟩:=List.getElem_of_mem h
    have:=HNo.out j (by have:=HN.out;omega)
    rw[getElem!_pos l j hj,e]at this
    rw[this]
    simp)
   go_wp2_with fail
   go_ret
   exact⟨-1,rfl,by rw[HQ.out];rfl,hB⟩
theorem Contains_not(s:Int)(hs0:0<=s)(hs1:s<4294967296)(B:Nat)(l:List Int)(A:Option Addr)(n c:Nat)(w0:World)(hbx:w0.heap[B]? = some (.cells #[.func (.func 293) #[.int .u32 s] #[]] 81 (0,0)))(hn:l.length=n)(hn1:n<=1000000)(hr:Row w0 w0.heap.size A (cl .i32 l)):Calls Tryz.prog 90 #[.slice A n c,.func (.func 370) #[] #[.pointer (some ⟨B,0,none⟩)]] w0 (IsB (l.any (nb s)) w0):=by
 have HI:=Lib.hid (Index_not s hs0 hs1 B l A n c w0 hbx hn hn1 hr)
 generalize l.any (nb s)=q at HI ⊢
 clear hn hr
 go_enter Tryz.func90,Tryz.ntmps90
 go_wp2_with(first|(go_at_call 126;refine HI.out.mono ?_;rintro e w1 ⟨i,rfl,hi,hB1⟩)|fail)
 go_ret
 exact⟨by rw[<-hi];first|rfl|simp,hB1⟩
def fstB (s:Int):List Int->Bool
 | []=>false
 | r::_=>hb s r
theorem begins_any(s:Int)(hs0:0<=s)(hs1:s<4294967296)(l:List Int)(A:Option Addr)(n c:Nat)(w:World)(hn:l.length=n)(hr:Row w w.heap.size A (cl .i32 l)):Calls Tryz.prog 295 #[.slice A n c,.func (.func 293) #[.int .u32 s] #[]] w (IsB (fstB s l) w):=by
 cases l with
 | nil =>
  obtain rfl:n=0:=hn.symm
  show Calls _ _ _ _ (IsB false w)
  clear hn hr
  go_enter Tryz.func295,Tryz.ntmps295
  go_wp2_with fail
  go_ret
  exact⟨rfl,Below.refl _ _⟩
 | cons r t =>
  show Calls _ _ _ _ (IsB (hb s r) w)
  have hn0:0<n:=by rw[<-hn];simp
  have hnz:(0:Int)<(n:Int):=by omega
  obtain⟨b,o,rfl,hb',hcc⟩:=hr.at_ (by simp)
  have c0:=row_cell hcc 0 (by simp)
  rw[show (r::t)[0]! = r from rfl,Nat.add_zero]at c0
  have HC:=Lib.hid (fun w=>has_any s r hs0 hs1 w)
  generalize hb s r=q at HC ⊢
  clear hcc hn hr hs0 hs1
  go_enter Tryz.func295,Tryz.ntmps295
  go_wp2_with(first|(go_at_call 293;refine (HC.out _).mono ?_;rintro e w1 ⟨rfl,hB1⟩)|fail)
  go_ret
  exact⟨rfl,hB1⟩
theorem all_any(s:Int)(hs0:0<=s)(hs1:s<4294967296)(l:List Int)(A:Option Addr)(n c:Nat)(w:World)(hn:l.length=n)(hn1:n<=1000000)(hr:Row w w.heap.size A (cl .i32 l)):Calls Tryz.prog 331 #[.slice A n c,.func (.func 293) #[.int .u32 s] #[]] w (IsB (l.all (hb s)) w):=by
 have HI:=Lib.hid (Contains_not s hs0 hs1 w.heap.size l A n c _ (World.alloc_heap_new w (.cells #[.func (.func 293) #[.int .u32 s] #[]] 81)) hn hn1 (upR hr (upA w _)))
 have e:l.any (nb s) = !(l.all (hb s)):=any_not (hb s) l
 rw[e]at HI
 have hW:=upA w (.cells #[.func (.func 293) #[.int .u32 s] #[]] 81)
 generalize l.all (hb s)=q at HI ⊢
 clear hn hr e
 go_enter Tryz.func331,Tryz.ntmps331
 go_wp2_with(first|(go_at_call 90;refine HI.out.mono ?_;rintro e w1 ⟨rfl,hB1⟩)|fail)
 go_ret
 exact⟨by simp,upB hW hB1⟩
end Go.Proofs.YtkibdkfdffkkfaaGreatDoor.Rul
