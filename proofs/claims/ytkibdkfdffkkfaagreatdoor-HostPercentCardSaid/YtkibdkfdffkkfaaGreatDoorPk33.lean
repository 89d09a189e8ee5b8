import Derived.Test.YtkibdkfdffkkfaaGreatDoorPk31
import Derived.Shelf.Strings.Repeat
import Derived.Test.YtkibdkfdffkkfaaGreatDoorPk32
set_option maxRecDepth 100000
set_option maxHeartbeats 8000000
namespace Go.Proofs.YtkibdkfdffkkfaaGreatDoor.Pn
open Go.RowKit Go.Shelf Puny
theorem EncodeN_any(l:List Nat)(A:Option Addr)(len cap:Nat)(w:World)(hlen:l.length=len)(hm:len<=900)(hs:∀ x∈l,sca x=true)(hr:Row w w.heap.size A (cn l)) :
  Calls Tryz.prog 278 #[.slice A len cap] w (Encoded l w) :=
 Encode_any 900 sortOk900 (by omega) l A len cap w hlen (Nat.le_trans (oth_len _ _) (by omega)) (by omega) hs hr
end Go.Proofs.YtkibdkfdffkkfaaGreatDoor.Pn
namespace Go.Proofs.YtkibdkfdffkkfaaGreatDoor.Hst
open Go.RowKit Utf Remap Norm Pn Puny
def ascN (l:List Nat):List UInt8:=if (ofN l).any byd=true then [120,110,45,45]++encT l else dl (runesBytes (ofN l))
def TextR (t:List UInt8) (w:World) (e:Ending) (w':World):Prop:=∃ s:ByteArray,e = .returned (.string s)/\dl s=t/\Below w.heap.size w w'
theorem ascii_any(l:List Nat)(A:Option Addr)(n c:Nat)(w:World)(hn:l.length=n)(hl:n<=900)(hs:∀ x∈l,Puny.sca x=true)(hr:Row w w.heap.size A (cl .i32 (ofN l))):Calls Tryz.prog 245 #[.slice A n c] w (TextR (ascN l) w):=by
 have hn2:(ofN l).length=n:=by rw[ofN,List.length_map,hn]
 have HB:=Lib.hid (Contains_bey (ofN l) A n c w hn2 (by omega) hr)
 have HCV:=Lib.hid (fun W (h:Below w.heap.size w W)=>conv_runes (c:=c) hn2 (hr.below h))
 have HEN:=Lib.hid (fun W (h:Below w.heap.size w W)=>EncodeN_any l A n c W hn hl hs (by rw[cn_ofN];exact (hr.below h).mono h.size))
 have HLE:=Lib.hid (encT_len hs (by omega))
 have HR:Hid (ascN l=if (ofN l).any byd=true then [120,110,45,45]++encT l else dl (runesBytes (ofN l))):=Lib.hid rfl
 obtain⟨q,hq⟩:∃ q,(ofN l).any byd=q:=⟨_,rfl⟩
 rw[hq]at HB HR
 clear hq hr hn hn2 hs
 unfold Encoded at HEN
 cases q with
 | true =>
  have HR2:Hid (ascN l=[120,110,45,45]++encT l):=Lib.hid (by rw[HR.out,if_pos rfl])
  go_enter Tryz.func245,Tryz.ntmps245
  go_upto_region 4 with(first|(go_at_call 90;refine HB.out.mono ?_;rintro e w1 ⟨rfl,hB1⟩)|(go_at_call 278;refine (HEN.out _ hB1).mono ?_;rintro e w2 ⟨s,rfl,hs,hB2⟩)|fail)
  have hsz:s.size<=10000:=by
   have h1:=HLE.out
   rw[<-hs]at h1
   simpa using h1
  have hk:¬ (9223372036854775807<4+s.size):=by omega
  have HS:=Lib.hid hs
  clear hs
  go_wp2_with fail
  go_ret
  refine⟨_,rfl, ?_,upB hB1 hB2⟩
  rw[HR2.out,<-HS.out]
  simp[dl]
 | false =>
  have HR2:Hid (ascN l=dl (runesBytes (ofN l))):=Lib.hid (by rw[HR.out,if_neg (by decide)])
  go_enter Tryz.func245,Tryz.ntmps245
  go_wp2_with(first|(go_at_call 90;refine HB.out.mono ?_;rintro e w1 ⟨rfl,hB1⟩;have hcv:=HCV.out w1 hB1)|fail)
  go_ret
  exact⟨_,rfl,HR2.out.symm,hB1⟩
theorem conv_none(a:Addr)(c:Nat)(w:World):(convert 22 9 (.slice (some a) 0 c)).run Tryz.prog w = .ok (.string (runesBytes [])) w:=by
 have:=conv_runes (w:=w) (B:=0) (A:=some a) (l:=[]) (n:=0) (c:=c) rfl (.inl rfl)
 exact this
theorem dt_nil:dt []=some []:=by decide +kernel
theorem standsFor_4(l:List Int)(A:Option Addr)(c:Nat)(w:World)(hn:l.length=4)(hc:4<=c)(hr:Row w w.heap.size A (cl .i32 l)):Calls Tryz.prog 243 #[.slice A 4 c] w (SfR (sfv l) w):=by
 have hd:l.drop 4=[]:=List.drop_of_length_le (by omega)
 have HV:Hid (sfv l = .inl 40):=Lib.hid (by
  unfold sfv
  rw[hd,show dl (runesBytes [])=[] from rfl,dt_nil]
  rfl)
 obtain⟨b,o,rfl,hb,hcc⟩:=hr.at_ (by simp[hn])
 have hcv:=fun a k W=>conv_none a k W
 have HD:Hid (∀ W,Calls Tryz.prog 275 #[.string (runesBytes [])] W (DecT (runesBytes []) W)):=Lib.hid (fun W=>DecT_any (runesBytes []) W (by decide))
 obtain⟨s,hs⟩:∃ s,runesBytes []=s:=⟨_,rfl⟩
 have HDT:Hid (dt s.data.toList=some []):=Lib.hid (by rw[<-hs];exact dt_nil)
 rw[hs]at HD
 simp only[hs]at hcv
 clear hs hd hn hcc hr
 by_cases h4:c=4
 ·subst h4
  go_enter Tryz.func243,Tryz.ntmps243
  go_wp2_with fail
  refine (HD.out _).mono ?_
  rintro e w1 (⟨out,A1,c1,hd,rfl,hr1,hB1⟩|⟨hd,rfl,hB1⟩)
  ·rw[HDT.out]at hd
   cases hd
   have HBY:=Lib.hid (Contains_bey [] A1 0 c1 w1 rfl (by decide) (.inl rfl))
   rw[show ([]:List Int).any byd=false from rfl]at HBY
   go_wp2_with(first|(go_at_call 90;refine HBY.out.mono ?_;rintro e w2 ⟨rfl,hB2⟩)|fail)
   go_ret2
   exact sfR_inl HV.out (upB hB1 hB2)
  ·rw[HDT.out]at hd
   cases hd
 ·have h4':4<c:=by omega
  go_enter Tryz.func243,Tryz.ntmps243
  go_wp2_with fail
  refine (HD.out _).mono ?_
  rintro e w1 (⟨out,A1,c1,hd,rfl,hr1,hB1⟩|⟨hd,rfl,hB1⟩)
  ·rw[HDT.out]at hd
   cases hd
   have HBY:=Lib.hid (Contains_bey [] A1 0 c1 w1 rfl (by decide) (.inl rfl))
   rw[show ([]:List Int).any byd=false from rfl]at HBY
   go_wp2_with(first|(go_at_call 90;refine HBY.out.mono ?_;rintro e w2 ⟨rfl,hB2⟩)|fail)
   go_ret2
   exact sfR_inl HV.out (upB hB1 hB2)
  ·rw[HDT.out]at hd
   cases hd
end Go.Proofs.YtkibdkfdffkkfaaGreatDoor.Hst
