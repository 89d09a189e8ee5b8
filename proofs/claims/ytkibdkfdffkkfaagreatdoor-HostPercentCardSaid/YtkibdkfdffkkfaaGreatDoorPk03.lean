import Derived.Laws.BitsAllLaws
import Derived.Laws.BitsLemmas
import Derived.WalkKit
import Derived.Test.YtkibdkfdffkkfaaGreatDoorRows
import Derived.Test.YtkibdkfdffkkfaaGreatDoorPk01
import Derived.Test.YtkibdkfdffkkfaaGreatDoorPk02
import Derived.WalkLawsBesides
import Derived.WalkSpells
set_option maxRecDepth 100000
set_option maxHeartbeats 8000000
namespace Go.Proofs.YtkibdkfdffkkfaaGreatDoor
open Go.RowKit
theorem ofInt32(a:Nat)(ha:a<2147483648):(BitVec.ofInt 32 (a:Int)).toNat=a:=by
 rw[BitVec.ofInt_natCast,BitVec.toNat_ofNat]
 exact Nat.mod_eq_of_lt (by omega)
theorem wrap_i32_id(x:Int)(h0:-2147483648<=x)(h1:x<=2147483647):IntKind.i32.wrap x=x:=by
 simp[IntKind.wrap,IntKind.bits,IntKind.signed]
 omega
theorem i32_andN(a b:Nat)(ha:a<2147483648)(hb:b<2147483648):bits .and .i32 (a:Int) (b:Int)=((a &&& b:Nat):Int):=by
 have hx:a &&& b<2 ^ 31:=Nat.and_lt_two_pow _ (by omega)
 show IntKind.i32.wrap ((BitVec.ofInt 32 (a:Int) &&& BitVec.ofInt 32 (b:Int)).toNat:Int)=_
 rw[BitVec.toNat_and,ofInt32 a ha,ofInt32 b hb]
 exact wrap_i32_id _ (by omega) (by omega)
theorem i32_and63(r:Int)(h0:0<=r)(h1:r<2147483648):bits .and .i32 r 63=r%64:=by
 obtain⟨a,rfl⟩:=Int.eq_ofNat_of_zero_le h0
 have h:=i32_andN a 63 (by omega) (by omega)
 rw[nat_mask6]at h
 exact h.trans (by omega)
theorem u8_join(k:Nat)(x y:Int)(hx0:0<=x)(hx1:x<256)(hy0:0<=y)(hk:k<=8)(hxm:x%2 ^ k=0)(hy1:y<2 ^ k):bits .or .u8 x y=x+y:=by
 obtain⟨a,rfl⟩:=Int.eq_ofNat_of_zero_le hx0
 obtain⟨b,rfl⟩:=Int.eq_ofNat_of_zero_le hy0
 have hp:(2:Nat) ^ k<=2 ^ 8:=Nat.pow_le_pow_right (by omega) hk
 have ep:((2 ^ k:Nat):Int)=(2:Int) ^ k:=by rw[Int.natCast_pow];rfl
 rw[<-ep]at hxm hy1
 rw[u8_or_nat a b (by omega) (by omega),nat_join k a b (by omega) (by omega)]
 omega
end Go.Proofs.YtkibdkfdffkkfaaGreatDoor
namespace Go.Proofs.YtkibdkfdffkkfaaGreatDoor.Ut
open Go.RowKit Utf
theorem Scalar_any(r:Int)(w:World):Calls Tryz.prog 190 #[.int .i32 r] w fun e w'=>e = .returned (.bool (sca r))/\w=w':=by
 by_cases h1:0<=r
 ·by_cases h2:r<=1114111
  ·by_cases h3:r<55296
   ·go_enter Tryz.func190,Tryz.ntmps190
    go_wp2
    go_ret
    exact⟨ret_bool (by simp[sca];omega),rfl⟩
   ·by_cases h4:57343<r
    ·go_enter Tryz.func190,Tryz.ntmps190
     go_wp2
     go_ret
     exact⟨ret_bool (by simp[sca];omega),rfl⟩
    ·go_enter Tryz.func190,Tryz.ntmps190
     go_wp2
     go_ret
     exact⟨ret_bool (by simp[sca];omega),rfl⟩
  ·go_enter Tryz.func190,Tryz.ntmps190
   go_wp2
   go_ret
   exact⟨ret_bool (by simp[sca];omega),rfl⟩
 ·go_enter Tryz.func190,Tryz.ntmps190
  go_wp2
  go_ret
  exact⟨ret_bool (by simp[sca];omega),rfl⟩
theorem tail_any(r:Int)(w:World)(h0:0<=r)(h1:r<=1114111):Calls Tryz.prog 191 #[.int .i32 r] w fun e w'=>e = .returned (.int .u8 (128+r%64))/\w=w':=by
 go_enter Tryz.func191,Tryz.ntmps191
 go_wp2
 go_ret
 refine⟨ret_int ?_,rfl⟩
 rw[i32_and63 r h0 (by omega),u8_join 6 128 _ (by omega) (by omega) (by omega) (by omega) (by decide) (by omega)]
 omega
theorem Scalar_yes{r:Int}(w:World)(h:sca r=true):Calls Tryz.prog 190 #[.int .i32 r] w fun e w'=>e = .returned (.bool true)/\w=w':=by
 have:=Scalar_any r w
 rw[h]at this
 exact this
theorem Scalar_no{r:Int}(w:World)(h:sca r=false):Calls Tryz.prog 190 #[.int .i32 r] w fun e w'=>e = .returned (.bool false)/\w=w':=by
 have:=Scalar_any r w
 rw[h]at this
 exact this
def Added (base:Nat) (v:Value) (n:Nat) (xs:List Value) (r:Int) (w:World) (e:Ending) (w':World):Prop :=
 ∃ v',e = .returned v'/\w'.ownsRow base 5 1 v' (n+(encOne r).length) (xs++cl .u8 (encOne r))/\w.grownBy w' v.ownBlock
theorem info_u8:(Tryz.prog.info? 5).map (fun i=>(i.zero,i.size,i.bytes))=some (some (.int .u8 0),1,1):=by kernel_rfl
theorem added_mk{base:Nat}{v v':Value}{n m:Nat}{xs news:List Value}{r:Int}{w w1:World}{o:Obj}(hm:(encOne r).length=m)(hnews:cl .u8 (encOne r)=news)
  (h1:w1.ownsRow base 5 1 v' (n+m) (xs++news)) (h2:(w.alloc o).grownBy w1 v.ownBlock):Added base v n xs r w (.returned v') w1 :=
 ⟨v',rfl,by rw[hm,hnews];exact h1,(World.grownBy_alloc w o _).trans h2⟩
theorem add_any1(base:Nat)(v:Value)(n:Nat)(xs:List Value)(r:Int)(w:World)(hown:w.ownsRow base 5 1 v n xs)(hn:n<=1000000)(hb:base<=w.heap.size)
  (hs:sca r=true) (h0:0<=r) (hr:r<=127):Calls Tryz.prog 144 #[v,.int .i32 r] w (Added base v n xs r w):=by
 obtain⟨i0,hi,hz0,hz1,hz2⟩:=info_parts info_u8
 have HS:=Lib.hid hs
 clear hs
 go_enter Tryz.func144,Tryz.ntmps144
 go_wp2_with(first
  | (go_at_call 190;refine (Scalar_yes _ HS.out).mono ?_;rintro e w' ⟨rfl,rfl⟩)
  | (go_at_call 191;refine (tail_any _ _ (by omega) (by omega)).mono ?_;rintro e w' ⟨rfl,rfl⟩)
  | (at_builtin;refine wpList_append_own_at _ rfl _ _ 40 rfl base 5 i0 (.int .u8 0) 1 1 Tryz.underlying40 hi hz0 hz1 hz2 rfl (by decide) _ _ _ rfl (hown.alloc _) ⟨w.heap.size,0,none⟩ 1 1 _ rfl (by rfl) (news_new _ _ _ _ rfl) (by simp[Value.oneCell']) (by unfold maxLen;omega) (by omega) (by simp;omega) ?_;intro v' w1 hown1 hgrow1 _ _))
 go_ret
 refine added_mk (m:=1) ?_ ?_ hown1 hgrow1
 ·simp[encOne,b1,fix_of_sca HS.out,hr]
 ·simp[encOne,b1,fix_of_sca HS.out,hr]
theorem add_any2(base:Nat)(v:Value)(n:Nat)(xs:List Value)(r:Int)(w:World)(hown:w.ownsRow base 5 1 v n xs)(hn:n<=1000000)(hb:base<=w.heap.size)
  (hs:sca r=true) (h0:127<r) (hr:r<=2047):Calls Tryz.prog 144 #[v,.int .i32 r] w (Added base v n xs r w):=by
 obtain⟨i0,hi,hz0,hz1,hz2⟩:=info_parts info_u8
 have HS:=Lib.hid hs
 clear hs
 go_enter Tryz.func144,Tryz.ntmps144
 go_wp2_with(first
  | (go_at_call 190;refine (Scalar_yes _ HS.out).mono ?_;rintro e w' ⟨rfl,rfl⟩)
  | (go_at_call 191;refine (tail_any _ _ (by omega) (by omega)).mono ?_;rintro e w' ⟨rfl,rfl⟩)
  | (at_builtin;refine wpList_append_own_at _ rfl _ _ 40 rfl base 5 i0 (.int .u8 0) 1 1 Tryz.underlying40 hi hz0 hz1 hz2 rfl (by decide) _ _ _ rfl (hown.alloc _) ⟨w.heap.size,0,none⟩ 2 2 _ rfl (by rfl) (news_new _ _ _ _ rfl) (by simp[Value.oneCell']) (by unfold maxLen;omega) (by omega) (by simp;omega) ?_;intro v' w1 hown1 hgrow1 _ _))
 go_ret
 refine added_mk (m:=2) ?_ ?_ hown1 hgrow1
 ·simp[encOne,b1,fix_of_sca HS.out,hr,show ¬ r<=127 from by omega]
 ·simp[encOne,b1,fix_of_sca HS.out,hr,show ¬ r<=127 from by omega]
theorem add_any3(base:Nat)(v:Value)(n:Nat)(xs:List Value)(r:Int)(w:World)(hown:w.ownsRow base 5 1 v n xs)(hn:n<=1000000)(hb:base<=w.heap.size)
  (hs:sca r=true) (h0:2047<r) (hr:r<=65535):Calls Tryz.prog 144 #[v,.int .i32 r] w (Added base v n xs r w):=by
 obtain⟨i0,hi,hz0,hz1,hz2⟩:=info_parts info_u8
 have HS:=Lib.hid hs
 clear hs
 go_enter Tryz.func144,Tryz.ntmps144
 go_wp2_with(first
  | (go_at_call 190;refine (Scalar_yes _ HS.out).mono ?_;rintro e w' ⟨rfl,rfl⟩)
  | (go_at_call 191;refine (tail_any _ _ (by omega) (by omega)).mono ?_;rintro e w' ⟨rfl,rfl⟩)
  | (at_builtin;refine wpList_append_own_at _ rfl _ _ 40 rfl base 5 i0 (.int .u8 0) 1 1 Tryz.underlying40 hi hz0 hz1 hz2 rfl (by decide) _ _ _ rfl (hown.alloc _) ⟨w.heap.size,0,none⟩ 3 3 _ rfl (by rfl) (news_new _ _ _ _ rfl) (by simp[Value.oneCell']) (by unfold maxLen;omega) (by omega) (by simp;omega) ?_;intro v' w1 hown1 hgrow1 _ _))
 go_ret
 refine added_mk (m:=3) ?_ ?_ hown1 hgrow1
 ·simp[encOne,b1,fix_of_sca HS.out,hr,show ¬ r<=127 from by omega,show ¬ r<=2047 from by omega]
 ·simp[encOne,b1,fix_of_sca HS.out,hr,show ¬ r<=127 from by omega,show ¬ r<=2047 from by omega]
theorem add_any4(base:Nat)(v:Value)(n:Nat)(xs:List Value)(r:Int)(w:World)(hown:w.ownsRow base 5 1 v n xs)(hn:n<=1000000)(hb:base<=w.heap.size)
  (hs:sca r=true) (h0:65535<r) (hr:r<=1114111):Calls Tryz.prog 144 #[v,.int .i32 r] w (Added base v n xs r w):=by
 obtain⟨i0,hi,hz0,hz1,hz2⟩:=info_parts info_u8
 have HS:=Lib.hid hs
 clear hs
 go_enter Tryz.func144,Tryz.ntmps144
 go_wp2_with(first
  | (go_at_call 190;refine (Scalar_yes _ HS.out).mono ?_;rintro e w' ⟨rfl,rfl⟩)
  | (go_at_call 191;refine (tail_any _ _ (by omega) (by omega)).mono ?_;rintro e w' ⟨rfl,rfl⟩)
  | (at_builtin;refine wpList_append_own_at _ rfl _ _ 40 rfl base 5 i0 (.int .u8 0) 1 1 Tryz.underlying40 hi hz0 hz1 hz2 rfl (by decide) _ _ _ rfl (hown.alloc _) ⟨w.heap.size,0,none⟩ 4 4 _ rfl (by rfl) (news_new _ _ _ _ rfl) (by simp[Value.oneCell']) (by unfold maxLen;omega) (by omega) (by simp;omega) ?_;intro v' w1 hown1 hgrow1 _ _))
 go_ret
 refine added_mk (m:=4) ?_ ?_ hown1 hgrow1
 ·simp[encOne,b1,fix_of_sca HS.out,show ¬ r<=127 from by omega,show ¬ r<=2047 from by omega,show ¬ r<=65535 from by omega]
 ·simp[encOne,b1,fix_of_sca HS.out,show ¬ r<=127 from by omega,show ¬ r<=2047 from by omega,show ¬ r<=65535 from by omega]
theorem add_any0(base:Nat)(v:Value)(n:Nat)(xs:List Value)(r:Int)(w:World)(hown:w.ownsRow base 5 1 v n xs)(hn:n<=1000000)(hb:base<=w.heap.size)
  (hs:sca r=false):Calls Tryz.prog 144 #[v,.int .i32 r] w (Added base v n xs r w):=by
 obtain⟨i0,hi,hz0,hz1,hz2⟩:=info_parts info_u8
 have HS:=Lib.hid hs
 clear hs
 go_enter Tryz.func144,Tryz.ntmps144
 go_wp2_with(first
  | (go_at_call 190;refine (Scalar_no _ HS.out).mono ?_;rintro e w' ⟨rfl,rfl⟩)
  | (go_at_call 191;refine (tail_any _ _ (by omega) (by omega)).mono ?_;rintro e w' ⟨rfl,rfl⟩)
  | (at_builtin;refine wpList_append_own_at _ rfl _ _ 40 rfl base 5 i0 (.int .u8 0) 1 1 Tryz.underlying40 hi hz0 hz1 hz2 rfl (by decide) _ _ _ rfl (hown.alloc _) ⟨w.heap.size,0,none⟩ 3 3 _ rfl (by rfl) (news_new _ _ _ _ rfl) (by simp[Value.oneCell']) (by unfold maxLen;omega) (by omega) (by simp;omega) ?_;intro v' w1 hown1 hgrow1 _ _))
 go_ret
 refine added_mk (m:=3) ?_ ?_ hown1 hgrow1
 ·simp[encOne,b1,fixR,HS.out]
 ·simp[encOne,b1,fixR,HS.out]
theorem add_any(base:Nat)(v:Value)(n:Nat)(xs:List Value)(r:Int)(w:World)(hown:w.ownsRow base 5 1 v n xs)(hn:n<=1000000)(hb:base<=w.heap.size) :
  Calls Tryz.prog 144 #[v,.int .i32 r] w (Added base v n xs r w):=by
 cases hs:sca r with
 | false=>exact add_any0 base v n xs r w hown hn hb hs
 | true =>
  have h:=(sca_iff r).1 hs
  by_cases h1:r<=127
  ·exact add_any1 base v n xs r w hown hn hb hs h.1 h1
  by_cases h2:r<=2047
  ·exact add_any2 base v n xs r w hown hn hb hs (by omega) h2
  by_cases h3:r<=65535
  ·exact add_any3 base v n xs r w hown hn hb hs (by omega) h3
  ·exact add_any4 base v n xs r w hown hn hb hs (by omega) h.2.1
end Go.Proofs.YtkibdkfdffkkfaaGreatDoor.Ut
