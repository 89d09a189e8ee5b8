import Derived.Test.YtediahdedmkehaaGreatDoorPk31
import Derived.Shelf.Strings.Repeat
import Derived.OwnWalk
import Derived.Test.YtediahdedmkehaaGreatDoorPk32
namespace Go.Proofs.YtediahdedmkehaaGreatDoor.Pn
set_option maxRecDepth 100000
open Go.RowKit Go.Shelf Puny
def renR:Ren:=⟨fun|99=>20|105=>26|165=>45|166=>46|169=>48|170=>61|206=>55|212=>60|240=>99|241=>100|263=>116|264=>117|276=>154|277=>155|n=>n,fun|0=>0|3=>3|4=>4|5=>5|9=>9|20=>20|37=>41|46=>42|51=>23|53=>78|70=>67|72=>69|75=>72|76=>73|80=>66|109=>90|127=>124|146=>142|148=>144|164=>180|n=>n,fun n=>n⟩
theorem repeatLaid:Lays.n105 Tryz.prog renR:={
 mixed:=by kernel_rfl
 f99:=by kernel_rfl
 f105:=by kernel_rfl
 f165:=by kernel_rfl
 f166:=by kernel_rfl
 f169:=by kernel_rfl
 f170:=by kernel_rfl
 f206:=by kernel_rfl
 f212:=by kernel_rfl
 f240:=by kernel_rfl
 f241:=by kernel_rfl
 f263:=by kernel_rfl
 f264:=by kernel_rfl
 f276:=by kernel_rfl
 f277:=by kernel_rfl
 t0:=Tryz.underlying0
 a0:=Tryz.isAgg0
 z0:=Tryz.sizeOf0
 v0:=Tryz.zeroValue0
 t3:=Tryz.underlying3
 a3:=Tryz.isAgg3
 z3:=Tryz.sizeOf3
 v3:=Tryz.zeroValue3
 t4:=Tryz.underlying4
 a4:=Tryz.isAgg4
 z4:=Tryz.sizeOf4
 v4:=Tryz.zeroValue4
 t5:=Tryz.underlying5
 a5:=Tryz.isAgg5
 z5:=Tryz.sizeOf5
 v5:=Tryz.zeroValue5
 t9:=Tryz.underlying9
 a9:=Tryz.isAgg9
 z9:=Tryz.sizeOf9
 v9:=Tryz.zeroValue9
 t20:=Tryz.underlying20
 a20:=Tryz.isAgg20
 z20:=Tryz.sizeOf20
 v20:=Tryz.zeroValue20
 t37:=Tryz.underlying41
 a37:=Tryz.isAgg41
 z37:=Tryz.sizeOf41
 v37:=Tryz.zeroValue41
 t46:=Tryz.underlying42
 a46:=Tryz.isAgg42
 z46:=Tryz.sizeOf42
 v46:=Tryz.zeroValue42
 t51:=Tryz.underlying23
 a51:=Tryz.isAgg23
 z51:=Tryz.sizeOf23
 v51:=Tryz.zeroValue23
 t53:=Tryz.underlying78
 a53:=Tryz.isAgg78
 z53:=Tryz.sizeOf78
 v53:=Tryz.zeroValue78
 t70:=Tryz.underlying67
 a70:=Tryz.isAgg67
 z70:=Tryz.sizeOf67
 v70:=Tryz.zeroValue67
 t72:=Tryz.underlying69
 a72:=Tryz.isAgg69
 z72:=Tryz.sizeOf69
 v72:=Tryz.zeroValue69
 t75:=Tryz.underlying72
 a75:=Tryz.isAgg72
 z75:=Tryz.sizeOf72
 v75:=Tryz.zeroValue72
 t76:=Tryz.underlying73
 a76:=Tryz.isAgg73
 z76:=Tryz.sizeOf73
 v76:=Tryz.zeroValue73
 t109:=Tryz.underlying90
 a109:=Tryz.isAgg90
 z109:=Tryz.sizeOf90
 v109:=Tryz.zeroValue90
 t127:=Tryz.underlying124
 a127:=Tryz.isAgg124
 z127:=Tryz.sizeOf124
 v127:=Tryz.zeroValue124
 t146:=Tryz.underlying142
 a146:=Tryz.isAgg142
 z146:=Tryz.sizeOf142
 v146:=Tryz.zeroValue142
 t148:=Tryz.underlying144
 a148:=Tryz.isAgg144
 z148:=Tryz.sizeOf144
 v148:=Tryz.zeroValue144
 t164:=Tryz.underlying180
 a164:=Tryz.isAgg180
 z164:=Tryz.sizeOf180
 v164:=Tryz.zeroValue180 }
theorem repeatExtra:Builder.Extra Tryz.prog renR where
 sizeBuilder:=by kernel_rfl
 liesBuilder:=by kernel_rfl
 t5:=repeatLaid.t5
 a5:=repeatLaid.a5
 z5:=repeatLaid.z5
 v5:=repeatLaid.v5
 infoByte:=by kernel_rfl
 cellsByte:=by kernel_rfl
 sizeByte:=by kernel_rfl
 neB5:=by decide
theorem Repeat_any (s:ByteArray) (c:Nat) (w:World) (hc:c≤9223372036854775807) (hlen:s.size*c≤140737488355328) :
   Calls Tryz.prog 26 #[.string s,.int .i64 c] w fun e w'=>e = .returned (.string ⟨(Lib.repeatL s.data.toList c).toArray⟩)∧Below w.heap.size w w' :=
 Any.strings_Repeat repeatLaid repeatExtra s c w hc hlen
end Go.Proofs.YtediahdedmkehaaGreatDoor.Pn
namespace Go.Proofs.YtediahdedmkehaaGreatDoor.Pn
set_option maxRecDepth 100000
open Go.RowKit Go.Shelf Puny
end Go.Proofs.YtediahdedmkehaaGreatDoor.Pn
namespace Go.Proofs.YtediahdedmkehaaGreatDoor.Pn
set_option maxRecDepth 100000
open Go.RowKit Go.Shelf Puny
theorem EncodeN_any (l:List Nat) (A:Option Addr) (len cap:Nat) (w:World) (hlen:l.length=len) (hm:len≤900) (hs:∀ x∈l,sca x=true) (hr:Row w w.heap.size A (cn l)) :
   Calls Tryz.prog 263 #[.slice A len cap] w (Encoded l w) :=
 Encode_any 900 sortOk900 (by omega) l A len cap w hlen (Nat.le_trans (oth_len _ _) (by omega)) (by omega) hs hr
end Go.Proofs.YtediahdedmkehaaGreatDoor.Pn
namespace Go.Proofs.YtediahdedmkehaaGreatDoor.Hst
set_option maxRecDepth 100000
open Go.RowKit Utf Remap Norm Pn Puny
def ascN (l:List Nat):List UInt8:=if (ofN l).any byd=true then [120,110,45,45]++encT l else dl (runesBytes (ofN l))
def TextR (t:List UInt8) (w:World) (e:Ending) (w':World):Prop:=∃ s:ByteArray,e = .returned (.string s)∧dl s=t∧Below w.heap.size w w'
set_option maxHeartbeats 4000000 in
theorem ascii_any (l:List Nat) (A:Option Addr) (n c:Nat) (w:World) (hn:l.length=n) (hl:n≤900) (hs:∀ x∈l,Puny.sca x=true) (hr:Row w w.heap.size A (cl .i32 (ofN l))):Calls Tryz.prog 222 #[.slice A n c] w (TextR (ascN l) w):=by
 have hn2:(ofN l).length=n:=by rw [ofN,List.length_map,hn]
 have HB:=Lib.hid (Contains_bey (ofN l) A n c w hn2 (by omega) hr)
 have HCV:=Lib.hid (fun W (h:Below w.heap.size w W)=>conv_runes (c:=c) hn2 (hr.below h))
 have HEN:=Lib.hid (fun W (h:Below w.heap.size w W)=>EncodeN_any l A n c W hn hl hs (by rw [cn_ofN];exact (hr.below h).mono h.size))
 have HLE:=Lib.hid (encT_len hs (by omega))
 have HR:Hid (ascN l=if (ofN l).any byd=true then [120,110,45,45]++encT l else dl (runesBytes (ofN l))):=Lib.hid rfl
 obtain ⟨q,hq⟩:∃ q,(ofN l).any byd=q:=⟨_,rfl⟩
 rw [hq]at HB HR
 clear hq hr hn hn2 hs
 unfold Encoded at HEN
 cases q with
 | true =>
   have HR2:Hid (ascN l=[120,110,45,45]++encT l):=Lib.hid (by rw [HR.out,if_pos rfl])
   go_enter Tryz.func222,Tryz.ntmps222
   go_upto_region 4 with (first|(go_at_call 68;refine HB.out.mono ?_;rintro e w1 ⟨rfl,hB1⟩)|(go_at_call 263;refine (HEN.out _ hB1).mono ?_;rintro e w2 ⟨s,rfl,hs,hB2⟩)|fail)
   have hsz:s.size≤10000:=by
     have h1:=HLE.out
     rw [←hs]at h1
     simpa using h1
   have hk:¬ (9223372036854775807<4+s.size):=by omega
   have HS:=Lib.hid hs
   clear hs
   go_wp2_with fail
   go_ret
   refine ⟨_,rfl, ?_,upB hB1 hB2⟩
   rw [HR2.out,←HS.out]
   simp [dl]
 | false =>
   have HR2:Hid (ascN l=dl (runesBytes (ofN l))):=Lib.hid (by rw [HR.out,if_neg (by decide)])
   go_enter Tryz.func222,Tryz.ntmps222
   go_wp2_with (first|(go_at_call 68;refine HB.out.mono ?_;rintro e w1 ⟨rfl,hB1⟩;have hcv:=HCV.out w1 hB1)|fail)
   go_ret
   exact ⟨_,rfl,HR2.out.symm,hB1⟩
end Go.Proofs.YtediahdedmkehaaGreatDoor.Hst
namespace Go.Proofs.YtediahdedmkehaaGreatDoor.Hst
set_option maxRecDepth 100000
open Go.RowKit Utf Remap Norm Pn Puny
theorem conv_none (a:Addr) (c:Nat) (w:World):(convert 22 9 (.slice (some a) 0 c)).run Tryz.prog w = .ok (.string (runesBytes [])) w:=by
 have:=conv_runes (w:=w) (B:=0) (A:=some a) (l:=[]) (n:=0) (c:=c) rfl (.inl rfl)
 exact this
theorem dt_nil:dt []=some []:=by decide +kernel
set_option maxHeartbeats 4000000 in
theorem standsFor_4 (l:List Int) (A:Option Addr) (c:Nat) (w:World) (hn:l.length=4) (hc:4≤c) (hr:Row w w.heap.size A (cl .i32 l)):Calls Tryz.prog 220 #[.slice A 4 c] w (SfR (sfv l) w):=by
 have hd:l.drop 4=[]:=List.drop_of_length_le (by omega)
 have HV:Hid (sfv l = .inl 40):=Lib.hid (by
   unfold sfv
   rw [hd,show dl (runesBytes [])=[] from rfl,dt_nil]
   rfl)
 obtain ⟨b,o,rfl,hb,hcc⟩:=hr.at_ (by simp [hn])
 have hcv:=fun a k W=>conv_none a k W
 have HD:Hid (∀ W,Calls Tryz.prog 260 #[.string (runesBytes [])] W (DecT (runesBytes []) W)):=Lib.hid (fun W=>DecT_any (runesBytes []) W (by decide))
 obtain ⟨s,hs⟩:∃ s,runesBytes []=s:=⟨_,rfl⟩
 have HDT:Hid (dt s.data.toList=some []):=Lib.hid (by rw [←hs];exact dt_nil)
 rw [hs]at HD
 simp only [hs]at hcv
 clear hs hd hn hcc hr
 by_cases h4:c=4
 · subst h4
   go_enter Tryz.func220,Tryz.ntmps220
   go_wp2_with fail
   refine (HD.out _).mono ?_
   rintro e w1 (⟨out,A1,c1,hd,rfl,hr1,hB1⟩|⟨hd,rfl,hB1⟩)
   · rw [HDT.out]at hd
     cases hd
     have HBY:=Lib.hid (Contains_bey [] A1 0 c1 w1 rfl (by decide) (.inl rfl))
     rw [show ([]:List Int).any byd=false from rfl]at HBY
     go_wp2_with (first|(go_at_call 68;refine HBY.out.mono ?_;rintro e w2 ⟨rfl,hB2⟩)|fail)
     go_ret2
     exact sfR_inl HV.out (upB hB1 hB2)
   · rw [HDT.out]at hd
     cases hd
 · have h4':4<c:=by omega
   go_enter Tryz.func220,Tryz.ntmps220
   go_wp2_with fail
   refine (HD.out _).mono ?_
   rintro e w1 (⟨out,A1,c1,hd,rfl,hr1,hB1⟩|⟨hd,rfl,hB1⟩)
   · rw [HDT.out]at hd
     cases hd
     have HBY:=Lib.hid (Contains_bey [] A1 0 c1 w1 rfl (by decide) (.inl rfl))
     rw [show ([]:List Int).any byd=false from rfl]at HBY
     go_wp2_with (first|(go_at_call 68;refine HBY.out.mono ?_;rintro e w2 ⟨rfl,hB2⟩)|fail)
     go_ret2
     exact sfR_inl HV.out (upB hB1 hB2)
   · rw [HDT.out]at hd
     cases hd
end Go.Proofs.YtediahdedmkehaaGreatDoor.Hst
