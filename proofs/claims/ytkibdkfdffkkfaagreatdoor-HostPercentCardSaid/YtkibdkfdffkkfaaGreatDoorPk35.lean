import Derived.Test.YtkibdkfdffkkfaaGreatDoorPk34
import Derived.Shelf.Strconv.ParseUint10At
import Derived.Shelf.Strconv.ToErrorRange
import Derived.Shelf.Strconv.ToError
set_option maxRecDepth 100000
set_option maxHeartbeats 8000000
namespace Go.Proofs.YtkibdkfdffkkfaaGreatDoor.Sx
open Go.RowKit Go.Shelf
def puLaid_ren:Ren:=⟨fun|287=>267|321=>299|322=>300|n=>n,fun|9=>9|3=>3|53=>72|75=>87|4=>4|167=>331|5=>5|46=>41|37=>40|0=>0|21=>21|80=>80|n=>n,fun n=>n⟩
theorem puLaid:LaysM.n287 Tryz.prog puLaid_ren:={
 mixed:=by kernel_rfl
 f287:=by kernel_rfl
 f321:=by kernel_rfl
 f322:=by kernel_rfl
 t0:=Tryz.underlying0
 a0:=Tryz.isAgg0
 z0:=Tryz.sizeOf0
 v0:=Tryz.zeroValue0
 t3:=Tryz.underlying3
 a3:=Tryz.isAgg3
 z3:=Tryz.sizeOf3
 v3:=Tryz.zeroValue3
 t4:=Tryz.underlying4
 a4:=Tryz.isAgg4
 z4:=Tryz.sizeOf4
 v4:=Tryz.zeroValue4
 t5:=Tryz.underlying5
 a5:=Tryz.isAgg5
 z5:=Tryz.sizeOf5
 v5:=Tryz.zeroValue5
 t9:=Tryz.underlying9
 a9:=Tryz.isAgg9
 z9:=Tryz.sizeOf9
 v9:=Tryz.zeroValue9
 t21:=Tryz.underlying21
 a21:=Tryz.isAgg21
 z21:=Tryz.sizeOf21
 v21:=Tryz.zeroValue21
 t37:=Tryz.underlying40
 a37:=Tryz.isAgg40
 z37:=Tryz.sizeOf40
 v37:=Tryz.zeroValue40
 t46:=Tryz.underlying41
 a46:=Tryz.isAgg41
 z46:=Tryz.sizeOf41
 v46:=Tryz.zeroValue41
 t53:=Tryz.underlying72
 a53:=Tryz.isAgg72
 z53:=Tryz.sizeOf72
 v53:=Tryz.zeroValue72
 t75:=Tryz.underlying87
 a75:=Tryz.isAgg87
 z75:=Tryz.sizeOf87
 v75:=Tryz.zeroValue87
 t167:=Tryz.underlying331
 a167:=Tryz.isAgg331
 z167:=Tryz.sizeOf331
 v167:=Tryz.zeroValue331
 t80:=Tryz.underlying80
 a80:=Tryz.isAgg80
 z80:=Tryz.sizeOf80
 v80:=Tryz.zeroValue80
 i0:=by kernel_rfl
 i3:=by kernel_rfl
 i4:=by kernel_rfl
 i5:=by kernel_rfl
 i9:=by kernel_rfl
 i21:=by kernel_rfl
 i37:=by kernel_rfl
 i46:=by kernel_rfl
 i53:=by kernel_rfl
 i75:=by kernel_rfl
 i80:=by kernel_rfl
 i167:=by kernel_rfl
}
def teLaid_ren:Ren:=⟨fun|245=>268|279=>301|280=>302|281=>303|282=>304|316=>335|171=>25|205=>336|243=>69|246=>120|283=>137|284=>138|285=>139|286=>140|129=>184|317=>183|318=>185|319=>186|320=>187|337=>232|338=>233|n=>n,fun|9=>9|3=>3|75=>87|167=>331|4=>4|168=>333|210=>369|37=>40|0=>0|127=>129|145=>383|143=>381|2=>2|171=>175|53=>72|5=>5|173=>178|212=>217|51=>24|20=>20|213=>218|46=>41|232=>295|233=>296|80=>80|n=>n,fun|15=>7|16=>8|17=>2|18=>5|19=>6|n=>n⟩
theorem teLaid:LaysC.n245 Tryz.prog teLaid_ren:={
 mixed:=by kernel_rfl
 f129:=by kernel_rfl
 f171:=by kernel_rfl
 f205:=by kernel_rfl
 f243:=by kernel_rfl
 f245:=by kernel_rfl
 f246:=by kernel_rfl
 f279:=by kernel_rfl
 f280:=by kernel_rfl
 f281:=by kernel_rfl
 f282:=by kernel_rfl
 f283:=by kernel_rfl
 f284:=by kernel_rfl
 f285:=by kernel_rfl
 f286:=by kernel_rfl
 f316:=by kernel_rfl
 f317:=by kernel_rfl
 f318:=by kernel_rfl
 f319:=by kernel_rfl
 f320:=by kernel_rfl
 f337:=by kernel_rfl
 f338:=by kernel_rfl
 t0:=Tryz.underlying0
 a0:=Tryz.isAgg0
 z0:=Tryz.sizeOf0
 v0:=Tryz.zeroValue0
 t2:=Tryz.underlying2
 a2:=Tryz.isAgg2
 z2:=Tryz.sizeOf2
 v2:=Tryz.zeroValue2
 t3:=Tryz.underlying3
 a3:=Tryz.isAgg3
 z3:=Tryz.sizeOf3
 v3:=Tryz.zeroValue3
 t4:=Tryz.underlying4
 a4:=Tryz.isAgg4
 z4:=Tryz.sizeOf4
 v4:=Tryz.zeroValue4
 t5:=Tryz.underlying5
 a5:=Tryz.isAgg5
 z5:=Tryz.sizeOf5
 v5:=Tryz.zeroValue5
 t9:=Tryz.underlying9
 a9:=Tryz.isAgg9
 z9:=Tryz.sizeOf9
 v9:=Tryz.zeroValue9
 t20:=Tryz.underlying20
 a20:=Tryz.isAgg20
 z20:=Tryz.sizeOf20
 v20:=Tryz.zeroValue20
 t37:=Tryz.underlying40
 a37:=Tryz.isAgg40
 z37:=Tryz.sizeOf40
 v37:=Tryz.zeroValue40
 t46:=Tryz.underlying41
 a46:=Tryz.isAgg41
 z46:=Tryz.sizeOf41
 v46:=Tryz.zeroValue41
 t51:=Tryz.underlying24
 a51:=Tryz.isAgg24
 z51:=Tryz.sizeOf24
 v51:=Tryz.zeroValue24
 t53:=Tryz.underlying72
 a53:=Tryz.isAgg72
 z53:=Tryz.sizeOf72
 v53:=Tryz.zeroValue72
 t75:=Tryz.underlying87
 a75:=Tryz.isAgg87
 z75:=Tryz.sizeOf87
 v75:=Tryz.zeroValue87
 t127:=Tryz.underlying129
 a127:=Tryz.isAgg129
 z127:=Tryz.sizeOf129
 v127:=Tryz.zeroValue129
 t143:=Tryz.underlying381
 a143:=Tryz.isAgg381
 z143:=Tryz.sizeOf381
 v143:=Tryz.zeroValue381
 t145:=Tryz.underlying383
 a145:=Tryz.isAgg383
 z145:=Tryz.sizeOf383
 v145:=Tryz.zeroValue383
 t167:=Tryz.underlying331
 a167:=Tryz.isAgg331
 z167:=Tryz.sizeOf331
 v167:=Tryz.zeroValue331
 t168:=Tryz.underlying333
 a168:=Tryz.isAgg333
 z168:=Tryz.sizeOf333
 v168:=Tryz.zeroValue333
 t171:=Tryz.underlying175
 a171:=Tryz.isAgg175
 z171:=Tryz.sizeOf175
 v171:=Tryz.zeroValue175
 t173:=Tryz.underlying178
 a173:=Tryz.isAgg178
 z173:=Tryz.sizeOf178
 v173:=Tryz.zeroValue178
 t210:=Tryz.underlying369
 a210:=Tryz.isAgg369
 z210:=Tryz.sizeOf369
 v210:=Tryz.zeroValue369
 t212:=Tryz.underlying217
 a212:=Tryz.isAgg217
 z212:=Tryz.sizeOf217
 v212:=Tryz.zeroValue217
 t213:=Tryz.underlying218
 a213:=Tryz.isAgg218
 z213:=Tryz.sizeOf218
 t232:=Tryz.underlying295
 a232:=Tryz.isAgg295
 z232:=Tryz.sizeOf295
 v232:=Tryz.zeroValue295
 t233:=Tryz.underlying296
 a233:=Tryz.isAgg296
 z233:=Tryz.sizeOf296
 v233:=Tryz.zeroValue296
 g15:=by kernel_rfl
 g16:=by kernel_rfl
 g17:=by kernel_rfl
 g18:=by kernel_rfl
 g19:=by kernel_rfl
 t80:=Tryz.underlying80
 a80:=Tryz.isAgg80
 z80:=Tryz.sizeOf80
 v80:=Tryz.zeroValue80
 i0:=by kernel_rfl
 i2:=by kernel_rfl
 i3:=by kernel_rfl
 i4:=by kernel_rfl
 i5:=by kernel_rfl
 i9:=by kernel_rfl
 i20:=by kernel_rfl
 i37:=by kernel_rfl
 i46:=by kernel_rfl
 i51:=by kernel_rfl
 i53:=by kernel_rfl
 i75:=by kernel_rfl
 i80:=by kernel_rfl
 i127:=by kernel_rfl
 i143:=by kernel_rfl
 i145:=by kernel_rfl
 i167:=by kernel_rfl
 i168:=by kernel_rfl
 i171:=by kernel_rfl
 i173:=by kernel_rfl
 i210:=by kernel_rfl
 i212:=by kernel_rfl
 i232:=by kernel_rfl
 i233:=by kernel_rfl
 m15:=by kernel_rfl
 m16:=by kernel_rfl
 m17:=by kernel_rfl
 m18:=by kernel_rfl
 m19:=by kernel_rfl
 c0:=by kernel_rfl
 c2:=by kernel_rfl
 c3:=by kernel_rfl
 c4:=by kernel_rfl
 c5:=by kernel_rfl
 c9:=by kernel_rfl
 c20:=by kernel_rfl
 c37:=by kernel_rfl
 c46:=by kernel_rfl
 c51:=by kernel_rfl
 c53:=by kernel_rfl
 c75:=by kernel_rfl
 c80:=by kernel_rfl
 c127:=by kernel_rfl
 c143:=by kernel_rfl
 c145:=by kernel_rfl
 c167:=by kernel_rfl
 c168:=by kernel_rfl
 c171:=by kernel_rfl
 c173:=by kernel_rfl
 c210:=by kernel_rfl
 c212:=by kernel_rfl
 c213:=by kernel_rfl
 c232:=by kernel_rfl
 c233:=by kernel_rfl
}
theorem conv_bytes(s:ByteArray)(w:World):∃ (W':World) (c:Nat),(convert 9 40 (.string s)).run Tryz.prog w = .ok (.slice (some ⟨w.heap.size,0,none⟩) s.size c) W'/\Below w.heap.size w W' /\
  ∀ k (h:k<s.data.toList.length),W'.cell? ⟨w.heap.size,k,none⟩=some (.int .u8 ((s.data.toList[k].toNat:Nat):Int)):=by
 refine⟨_,_,run_bytes_of_string w 9 40 5 s Tryz.underlying9 Tryz.underlying40 Tryz.underlying5, ?_,fun k h => ?_⟩
 ·exact ((Below.refl w.heap.size w).drew).alloc (Nat.le_refl _) _
 ·have hb:(w.drew.alloc (.cells (bytesRow s (grownCap w s.size 0 5)) 5 ((bytesRow s (grownCap w s.size 0 5)).size,(bytesRow s (grownCap w s.size 0 5)).size+1))).heap[w.heap.size]? = some (.cells (bytesRow s (grownCap w s.size 0 5)) 5 ((bytesRow s (grownCap w s.size 0 5)).size,(bytesRow s (grownCap w s.size 0 5)).size+1)):=by
   show (w.heap.push _)[w.heap.size]? = _
   simp
  simp only[World.cell?,hb]
  have hk:k<s.data.size:=by simpa using h
  have hk2:k<s.size:=hk
  simp[bytesRow,Array.getElem?_append,hk2]
def lw (c:UInt8):Nat:=c.toNat ||| 32
theorem lw_all:∀ c:Fin 256,¬ (48<=c.1/\c.1<=57)->(97<=(c.1 ||| 32)/\(c.1 ||| 32)<=102->dv (UInt8.ofNat c.1)=(c.1 ||| 32)-87)/\(¬ (97<=(c.1 ||| 32)/\(c.1 ||| 32)<=102)->dv (UInt8.ofNat c.1)=99):=by decide +kernel
theorem lw_dv{c:UInt8}(h:¬ (48<=c.toNat/\c.toNat<=57)):(97<=lw c/\lw c<=102->dv c=lw c-87)/\(¬ (97<=lw c/\lw c<=102)->dv c=99):=by
 have:=lw_all ⟨c.toNat,c.toNat_lt⟩ h
 simpa[lw] using this
theorem lw_lt(c:UInt8):lw c<256:=Nat.or_lt_two_pow (n:=8) c.toNat_lt (by decide)
theorem lower_any(c:UInt8)(w:World):Calls Tryz.prog 299 #[.int .u8 (c.toNat:Int)] w (fun e w'=>e = .returned (.int .u8 (lw c:Int))/\w'=w):=by
 have h:bits .or .u8 (c.toNat:Int) 32=(lw c:Int):=by
  have h256:=c.toNat_lt
  have e:=u8_or_nat c.toNat 32 h256 (by decide)
  exact e
 go_enter Tryz.func299,Tryz.ntmps299
 go_wp2
 go_ret
 exact⟨rfl,rfl⟩
def PuR (o:Option Nat) (w:World) (e:Ending) (w':World):Prop :=
 (e=match o with|some n => .returned (.tuple #[.int .u64 (n:Int),.nilIface])|none => .returned (.tuple #[.int .u64 0,.iface 331 (.int .i64 2)]))/\Below w.heap.size w w'
theorem puR_some{o:Option Nat}{n:Nat}{w w':World}(h:o=some n)(hB:Below w.heap.size w w'):PuR o w (.returned (.tuple #[.int .u64 (n:Int),.nilIface])) w':=⟨by rw[h],hB⟩
theorem puR_none{o:Option Nat}{w w':World}(h:o=none)(hB:Below w.heap.size w w'):PuR o w (.returned (.tuple #[.int .u64 0,.iface 331 (.int .i64 2)])) w':=⟨by rw[h],hB⟩
theorem lt_four{k acc:Nat}(hk:k<4)(h:acc<16 ^ k):acc<4096:=Nat.lt_of_lt_of_le h (Nat.pow_le_pow_right (n:=16) (by decide) (by omega:k<=3))
theorem pu16_in(t:ByteArray)(h0:t.size≠0)(h4:t.size<=4)(w:World) :
  Calls Tryz.prog 267 #[.string t,.int .i64 16,.int .i64 16] w (PuR (vgo 16 0 (dl t)) w):=by
 have hz:(dl t).length=t.size:=by simp[dl]
 have hemp:t.toList.isEmpty=false:=by
  rw[ByteArray.toList_eq,List.isEmpty_eq_false_iff]
  intro e
  rw[dl,e]at hz
  exact h0 hz.symm
 obtain⟨W1,cc,hrun,hB,hcells⟩:=conv_bytes t w
 have HZ:=Lib.hid hz
 have HC:=Lib.hid hcells
 have HB:=Lib.hid hB
 have hlt1:w.heap.size<W1.heap.size:=cell_lt (hcells 0 (by rw[<-Lib.size_eq];omega))
 have hmv:IntKind.u64.wrap (IntKind.u64.wrap 65536-1)=65535:=by
  rw[IntKind.wrap_u64,IntKind.wrap_u64]
  decide
 clear hz hcells hB
 go_enter Tryz.func267,Tryz.ntmps267
 go_wp2
 go_loopg [12,13,101] t.size (fun m s12 s13 s101 wr => ∃ k n:Nat,s12 = .bool false/\s101 = .int .i64 (k:Int)/\s13 = .int .u64 (n:Int)/\m=t.size-k/\k<=t.size/\Hid (n<16 ^ k/\vgo 16 0 (dl t)=vgo 16 n ((dl t).drop k))/\wr=W1)
 case atStart=>exact⟨0,0,rfl,rfl,rfl,rfl,Nat.zero_le _,Lib.hid ⟨by decide,rfl⟩,rfl⟩
 case round =>
  obtain⟨k,n,rfl,rfl,rfl,rfl,hk,HV,rfl⟩:=hrel
  by_cases hlt:k<t.size
  ·have hkl:k<(dl t).length:=by rw[HZ.out];exact hlt
   have c1:wr.cell? ⟨w.heap.size,k,none⟩=some (.int .u8 (((dl t)[k].toNat:Nat):Int)):=HC.out k hkl
   obtain⟨hn,hv⟩:=HV.out
   rw[List.drop_eq_getElem_cons hkl,vgo]at hv
   have hn4:=lt_four (by omega:k<4) hn
   have hn5:n<16 ^ k:=hn
   generalize (dl t)[k]=c at c1 hv
   have hc256:c.toNat<256:=c.toNat_lt
   have hltz:(k:Int)<(t.size:Int):=by omega
   have HL:=Lib.hid (fun W=>lower_any c W)
   have hlw:=lw_lt c
   have hdd:=lw_dv (c:=c)
   clear hn
   by_cases hdig:48<=c.toNat/\c.toNat<=57
   ·obtain⟨hd0,hd1⟩:=hdig
    have hd:dv c=c.toNat-48:=by unfold dv;rw[if_pos ⟨hd0,hd1⟩]
    rw[hd,if_pos (by omega)]at hv
    obtain⟨d,hdx⟩:∃ d:Nat,c.toNat=48+d:=⟨c.toNat-48,by omega⟩
    rw[hdx,Nat.add_sub_cancel_left]at hv
    have hdi:(c.toNat:Int)-48=(d:Int):=by omega
    have hd9:d<=9:=by omega
    have hm:(n:Int)*16=((n*16:Nat):Int):=by simp
    have HN:Hid (n*16+d<16 ^ (k+1)/\vgo 16 0 (dl t)=vgo 16 (n*16+d) ((dl t).drop (k+1))):=Lib.hid ⟨by rw[Nat.pow_succ];omega,hv⟩
    obtain⟨p,hp⟩:∃ p,n*16=p:=⟨_,rfl⟩
    have hp4:p<=65520:=by omega
    rw[hp]at hm HN
    have hc1:¬ ((1152921504606846976:Int)<=(n:Int)):=by omega
    have hc2:(p:Int)+(d:Int)<=65535:=by omega
    have hc3:¬ ((p:Int)+(d:Int)<(p:Int)):=by omega
    clear hv hn5 hdd hlw HL hd hdx hp HV hp4 hn4 hmv
    go_wp2
    go_roundg (t.size-(k+1))
    case measure=>omega
    case rel=>exact⟨k+1,p+d,rfl,by go_num,by go_num,rfl,by omega,HN,rfl⟩
   ·obtain⟨hd1,hd2⟩:=hdd hdig
    have h95:lw c<=122->97<=lw c->((c.toNat:Int)==95)=false:=by
     intro g1 g2
     rw[beq_eq_false_iff_ne]
     intro e
     have e2:c.toNat=95:=by omega
     have:lw c=127:=by unfold lw;rw[e2];decide
     omega
    have hdigz:¬ (48<=(c.toNat:Int)/\(c.toNat:Int)<=57):=by omega
    by_cases hl:97<=lw c/\lw c<=102
    ·have hd:=hd1 hl
     have hq:=h95 (by omega) hl.1
     rw[hd,if_pos (by omega)]at hv
     obtain⟨v,hvv⟩:∃ v,lw c=v:=⟨_,rfl⟩
     rw[hvv]at HL hl hv
     have hm:(n:Int)*16=((n*16:Nat):Int):=by simp
     have HN:Hid (n*16+(v-87)<16 ^ (k+1)/\vgo 16 0 (dl t)=vgo 16 (n*16+(v-87)) ((dl t).drop (k+1))):=Lib.hid ⟨by rw[Nat.pow_succ];omega,hv⟩
     obtain⟨p,hp⟩:∃ p,n*16=p:=⟨_,rfl⟩
     have hp4:p<=65520:=by omega
     rw[hp]at hm HN
     have hl1:97<=(v:Int):=by omega
     have hl2:(v:Int)<=122:=by omega
     have hl3:(v:Int)<=102:=by omega
     have HC1:Hid (¬ ((1152921504606846976:Int)<=(n:Int))):=Lib.hid (by omega)
     have HP4:=Lib.hid hp4
     have HM:=Lib.hid hm
     have HLL:=Lib.hid hl
     clear hm
     clear hv hn5 hd1 hd2 hlw hl h95 hd hp HV hvv hdig hp4 hn4 hmv
     by_cases hge:48<=(c.toNat:Int)
     ·have hgt:¬ (c.toNat:Int)<=57:=by omega
      clear hdigz
      go_upto_region 46 with(first|(go_at_call 299;refine (HL.out _).mono ?_;rintro e w' ⟨rfl,rfl⟩)|fail)
      obtain⟨d,hd⟩:∃ d:Nat,(v:Int)-97+10=(d:Int):=⟨v-87,by have:=HLL.out;omega⟩
      rw[hd]
      have hd5:d<=15:=by have:=HLL.out;omega
      have hdv:d=v-87:=by omega
      rw[<-hdv]at HN
      have HC2:Hid ((p:Int)+(d:Int)<=65535):=Lib.hid (by have:=HP4.out;omega)
      have HC3:Hid (¬ ((p:Int)+(d:Int)<(p:Int))):=Lib.hid (by omega)
      have hw1:IntKind.u64.wrap (p:Int)=(p:Int):=by rw[IntKind.wrap_u64];have:=HP4.out;omega
      have hw2:IntKind.u64.wrap ((p:Int)+(d:Int))=(p:Int)+(d:Int):=by rw[IntKind.wrap_u64];have:=HP4.out;omega
      have hdec:decide ((16:Int)<=(d:Int))=false:=decide_eq_false (by omega)
      clear hd hdv hl1 hl2 hl3 HLL HL HP4
      clear hge
      try clear hgt
      clear hq
      go_upto_region 48 with fail
      have hc1:decide ((1152921504606846976:Int)<=(n:Int))=false:=decide_eq_false (by have:=HC1.out;omega)
      go_upto_region 50 with fail
      have hm:=HM.out
      go_upto_region 52 with fail
      have hc2:decide ((65535:Int)<(p:Int)+(d:Int))=false:=decide_eq_false (by have:=HC2.out;omega)
      clear hc1 hm HM HC1 HC2 HC3
      have hc3:decide ((p:Int)+(d:Int)<(p:Int))=false:=decide_eq_false (by omega)
      go_wp2
      go_roundg (t.size-(k+1))
      case measure=>omega
      case rel=>exact⟨k+1,p+d,rfl,by go_num,by go_num,rfl,by omega,HN,rfl⟩
     ·clear hdigz
      go_upto_region 46 with(first|(go_at_call 299;refine (HL.out _).mono ?_;rintro e w' ⟨rfl,rfl⟩)|fail)
      obtain⟨d,hd⟩:∃ d:Nat,(v:Int)-97+10=(d:Int):=⟨v-87,by have:=HLL.out;omega⟩
      rw[hd]
      have hd5:d<=15:=by have:=HLL.out;omega
      have hdv:d=v-87:=by omega
      rw[<-hdv]at HN
      have HC2:Hid ((p:Int)+(d:Int)<=65535):=Lib.hid (by have:=HP4.out;omega)
      have HC3:Hid (¬ ((p:Int)+(d:Int)<(p:Int))):=Lib.hid (by omega)
      have hw1:IntKind.u64.wrap (p:Int)=(p:Int):=by rw[IntKind.wrap_u64];have:=HP4.out;omega
      have hw2:IntKind.u64.wrap ((p:Int)+(d:Int))=(p:Int)+(d:Int):=by rw[IntKind.wrap_u64];have:=HP4.out;omega
      have hdec:decide ((16:Int)<=(d:Int))=false:=decide_eq_false (by omega)
      clear hd hdv hl1 hl2 hl3 HLL HL HP4
      clear hge
      try clear hgt
      clear hq
      go_upto_region 48 with fail
      have hc1:decide ((1152921504606846976:Int)<=(n:Int))=false:=decide_eq_false (by have:=HC1.out;omega)
      go_upto_region 50 with fail
      have hm:=HM.out
      go_upto_region 52 with fail
      have hc2:decide ((65535:Int)<(p:Int)+(d:Int))=false:=decide_eq_false (by have:=HC2.out;omega)
      clear hc1 hm HM HC1 HC2 HC3
      have hc3:decide ((p:Int)+(d:Int)<(p:Int))=false:=decide_eq_false (by omega)
      go_wp2
      go_roundg (t.size-(k+1))
      case measure=>omega
      case rel=>exact⟨k+1,p+d,rfl,by go_num,by go_num,rfl,by omega,HN,rfl⟩
    ·have hd:=hd2 hl
     rw[hd,if_neg (by decide)]at hv
     have HN:=Lib.hid hv
     obtain⟨v,hvv⟩:∃ v,lw c=v:=⟨_,rfl⟩
     rw[hvv]at HL hl hlw
     clear hv hn5 hd1 hd2 h95 hd HV hvv hdig
     by_cases hge:48<=(c.toNat:Int)
     ·have hgt:¬ (c.toNat:Int)<=57:=by omega
      clear hdigz
      cases hq:((c.toNat:Int)==95)
      all_goals
       by_cases hl1:97<=(v:Int)
       ·by_cases hl2:(v:Int)<=122
        ·have hdd:16<=(v:Int)-97+10:=by omega
         go_wp2_with(first|(go_at_call 299;refine (HL.out _).mono ?_;rintro e w' ⟨rfl,rfl⟩)|fail)
         go_ret2
         exact puR_none HN.out HB.out
        ·go_wp2_with(first|(go_at_call 299;refine (HL.out _).mono ?_;rintro e w' ⟨rfl,rfl⟩)|fail)
         go_ret2
         exact puR_none HN.out HB.out
       ·go_wp2_with(first|(go_at_call 299;refine (HL.out _).mono ?_;rintro e w' ⟨rfl,rfl⟩)|fail)
        go_ret2
        exact puR_none HN.out HB.out
     ·clear hdigz
      cases hq:((c.toNat:Int)==95)
      all_goals
       by_cases hl1:97<=(v:Int)
       ·by_cases hl2:(v:Int)<=122
        ·have hdd:16<=(v:Int)-97+10:=by omega
         go_wp2_with(first|(go_at_call 299;refine (HL.out _).mono ?_;rintro e w' ⟨rfl,rfl⟩)|fail)
         go_ret2
         exact puR_none HN.out HB.out
        ·go_wp2_with(first|(go_at_call 299;refine (HL.out _).mono ?_;rintro e w' ⟨rfl,rfl⟩)|fail)
         go_ret2
         exact puR_none HN.out HB.out
       ·go_wp2_with(first|(go_at_call 299;refine (HL.out _).mono ?_;rintro e w' ⟨rfl,rfl⟩)|fail)
        go_ret2
        exact puR_none HN.out HB.out
  ·obtain rfl:k=t.size:=by omega
   have hltz:¬ ((t.size:Int)<(t.size:Int)):=by omega
   have hv:=HV.out.2
   rw[List.drop_eq_nil_of_le (by rw[HZ.out];exact Nat.le_refl _),vgo]at hv
   have HN:=Lib.hid hv
   clear hv HV hlt
   go_wp2
   go_ret2
   exact puR_some HN.out HB.out
def PuJ (o:Option Nat) (w:World) (e:Ending) (w':World):Prop :=
 (match o with|some n=>e = .returned (.tuple #[.int .u64 (n:Int),.nilIface])|none => ∃ v k:Int,(k=1∨k=2)/\e = .returned (.tuple #[.int .u64 v,.iface 331 (.int .i64 k)]))/\Below w.heap.size w w'
def PubR (o:Option Nat) (w:World) (e:Ending) (w':World):Prop :=
 (match o with|some n=>e = .returned (.tuple #[.int .u64 (n:Int),.nilIface])|none => ∃ (v:Int) (te:TypeId) (pe:Value),e = .returned (.tuple #[.int .u64 v,.iface te pe]))/\Below w.heap.size w w'
theorem pub_of(t:ByteArray)(b s:Int)(o:Option Nat)(w:World)(ht:t.size<=1000000)(hE:Env w)(h:Calls Tryz.prog 267 #[.string t,.int .i64 b,.int .i64 s] w (PuJ o w)) :
  Calls Tryz.prog 235 #[.string t,.int .i64 b,.int .i64 s] w (PubR o w):=by
 have H:=Lib.hid h
 have HE:=Lib.hid (fun w' (hB:Below w.heap.size w w')=>hE.go hB)
 clear h hE
 cases o with
 | some n =>
  go_enter Tryz.func235,Tryz.ntmps235
  go_wp2_with fail
  refine H.out.mono ?_
  rintro e w1 ⟨rfl,hB⟩
  go_wp2_with fail
  go_ret2
  exact⟨rfl,hB⟩
 | none =>
  go_enter Tryz.func235,Tryz.ntmps235
  go_wp2_with fail
  refine H.out.mono ?_
  rintro e w1 ⟨⟨v,k,hk,rfl⟩,hB⟩
  have hE1:=HE.out _ hB
  rcases hk with rfl|rfl
  ·obtain⟨te,pe,hv⟩:=hE1.ran
   have HT:=Lib.hid (Any.strconv_toError_range teLaid ⟨#[80,97,114,115,101,85,105,110,116]⟩ t b s (.iface te pe) w1 (by omega) hv (.inr ⟨te,pe,rfl⟩))
   clear hv hE1
   go_wp2_with fail
   refine HT.out.mono ?_
   rintro e w2 ⟨N,rfl,_,_,hB2⟩
   go_wp2_with fail
   go_ret2
   exact⟨⟨_,_,_,rfl⟩,upB hB hB2⟩
  ·obtain⟨te,pe,hv⟩:=hE1.syn
   have HT:=Lib.hid (Any.strconv_toError_syntax teLaid ⟨#[80,97,114,115,101,85,105,110,116]⟩ t b s (.iface te pe) w1 (by omega) hv (.inr ⟨te,pe,rfl⟩))
   clear hv hE1
   go_wp2_with fail
   refine HT.out.mono ?_
   rintro e w2 ⟨N,rfl,_,_,hB2⟩
   go_wp2_with fail
   go_ret2
   exact⟨⟨_,_,_,rfl⟩,upB hB hB2⟩
theorem ParseUint16_any(t:ByteArray)(h4:t.size<=4)(w:World)(hE:Env w):Calls Tryz.prog 235 #[.string t,.int .i64 16,.int .i64 16] w (PubR (pce (dl t)) w):=by
 refine pub_of t 16 16 _ w (by omega) hE ?_
 have hz:(dl t).length=t.size:=by simp[dl]
 by_cases h0:t.size=0
 ·obtain rfl:t=⟨#[]⟩:=by
   apply ByteArray.ext
   exact Array.eq_empty_of_size_eq_zero h0
  refine (Any.internal_strconv_ParseUint_empty (ρ:=puLaid_ren) { puLaid with } 16 16 w).mono ?_
  rintro e w' ⟨rfl,rfl⟩
  exact⟨⟨0,2,.inr rfl,rfl⟩,Below.refl _ _⟩
 ·refine (pu16_in t h0 h4 w).mono ?_
  rintro e w' ⟨rfl,hB⟩
  have hp:pce (dl t)=vgo 16 0 (dl t):=by
   unfold pce
   rw[if_neg]
   rintro (e|e)
   ·rw[e]at hz;exact h0 hz.symm
   ·omega
  rw[hp]
  cases vgo 16 0 (dl t) with
  | some n=>exact⟨rfl,hB⟩
  | none=>exact⟨⟨0,2,.inr rfl,rfl⟩,hB⟩
def d10 (l:List UInt8):Option Nat:=if l=[] then none else match vgo 10 0 l with
 | some n=>if n<256 then some n else none
 | none=>none
theorem dec_d10(l:List UInt8):dec l=if 1<l.length/\l.head? = some 48 then none else d10 l:=by
 unfold dec d10
 by_cases h:l=[]
 ·subst h;simp
 ·by_cases h2:1<l.length/\l.head? = some 48
  ·rw[if_pos (.inr h2),if_pos h2]
  ·rw[if_neg (by rintro (e|e);exact h e;exact h2 e),if_neg h2,if_neg h]
   cases vgo 10 0 l<;>rfl
theorem vgo_ge(b:Nat)(hb:1<=b):∀ (l:List UInt8) (n m:Nat),vgo b n l=some m->n<=m
 | [],n,m,h=>by simp only[vgo,Option.some.injEq]at h;omega
 | x :: t, n, m, h => by
  rw[vgo]at h
  split at h
  ·have:=vgo_ge b hb t _ _ h
   have h2:n*1<=n*b:=Nat.mul_le_mul_left _ hb
   omega
  ·cases h
theorem dv_ten(c:UInt8):dv c<10↔48<=c.toNat/\c.toNat<=57:=by
 unfold dv
 split<;>(try split)<;>(try split)<;>omega
theorem dv_ten_eq{c:UInt8}(h:48<=c.toNat/\c.toNat<=57):dv c=c.toNat-48:=by unfold dv;rw[if_pos h]
theorem pum_eq:∀ (l:List UInt8) (a:Nat),a<=255->match vgo 10 a l with
  | some n=>if n<256 then Lib.parseUintM 255 a l = .ok n else (Lib.parseUintM 255 a l=Lib.NumEnd.range∨Lib.parseUintM 255 a l=Lib.NumEnd.syntax)
  | none=>Lib.parseUintM 255 a l=Lib.NumEnd.range∨Lib.parseUintM 255 a l=Lib.NumEnd.syntax
 | [], a, h => by
  rw[vgo,Lib.parseUintM]
  show if a<256 then _ else _
  rw[if_pos (by omega)]
 | c :: t, a, h => by
  rw[vgo,Lib.parseUintM]
  by_cases hd:dv c<10
  ·have hc:=(dv_ten c).1 hd
   rw[if_pos hd,if_pos hc,if_neg (by omega),<-dv_ten_eq hc]
   by_cases ho:255<a*10+dv c
   ·rw[if_pos ho]
    cases hv:vgo 10 (a*10+dv c) t with
    | none=>exact .inl rfl
    | some n =>
     have:=vgo_ge 10 (by decide) t _ _ hv
     show if n<256 then _ else _
     rw[if_neg (by omega)]
     exact .inl rfl
   ·rw[if_neg ho]
    exact pum_eq t _ (by omega)
  ·rw[if_neg hd,if_neg (fun e=>hd ((dv_ten c).2 e))]
   exact .inr rfl
theorem bytesB(w:World)(t:ByteArray):Below w.heap.size w (Lib.bytesWorld w 5 t):=Lib.bytesWorld_below _ _ _
theorem ParseUint10_any(t:ByteArray)(hs:t.size<=1000000)(w:World)(hE:Env w):Calls Tryz.prog 235 #[.string t,.int .i64 10,.int .i64 8] w (PubR (d10 (dl t)) w):=by
 refine pub_of t 10 8 _ w hs hE ?_
 refine (Any.internal_strconv_ParseUint_10_at8 (ρ:=puLaid_ren) { puLaid with } t (by omega) w).mono ?_
 rintro e w' ⟨rfl,hw⟩
 have hB:Below w.heap.size w w':=by
  rcases hw with rfl|rfl
  ·exact Below.refl _ _
  ·exact bytesB w t
 unfold Lib.parseUintB d10
 by_cases h0:dl t=[]
 ·rw[if_pos h0,if_pos h0]
  exact⟨⟨0,2,.inr rfl,rfl⟩,hB⟩
 ·rw[if_neg h0,if_neg h0]
  have:=pum_eq (dl t) 0 (by decide)
  rw[show (2:Nat) ^ 8-1=255 by decide]
  cases hv:vgo 10 0 (dl t) with
  | none =>
   rw[hv]at this
   rcases this with e|e<;>rw[e]
   ·exact⟨⟨_,1,.inl rfl,rfl⟩,hB⟩
   ·exact⟨⟨_,2,.inr rfl,rfl⟩,hB⟩
  | some n =>
   rw[hv]at this
   simp only at this ⊢
   split
   ·rename_i hn
    rw[if_pos hn]at this
    rw[this]
    exact⟨rfl,hB⟩
   ·rename_i hn
    rw[if_neg hn]at this
    rcases this with e|e<;>rw[e]
    ·exact⟨⟨_,1,.inl rfl,rfl⟩,hB⟩
    ·exact⟨⟨_,2,.inr rfl,rfl⟩,hB⟩
def cut3:Nat->List UInt8->List (List UInt8)
 | 0,l=>[l]
 | k + 1, l => match cutg [46] l with
  | none=>[l]
  | some p=>p.1::cut3 k p.2
theorem splitB_eq:∀ (k:Nat) (s:ByteArray),(Lib.splitB ⟨#[46]⟩ 0 k s).map dl=cut3 k (dl s)
 | 0,s=>rfl
 | k + 1, s => by
  have hi:Lib.indexB s ⟨#[46]⟩=match cutg [46] (dl s) with|some p=>(p.1.length:Int)|none => -1:=index_eq (by simp) (dl s)
  rw[Lib.splitB,cut3]
  cases h:cutg [46] (dl s) with
  | none =>
   rw[h]at hi
   rw[hi]
   rfl
  | some p =>
   rw[h]at hi
   simp only at hi ⊢
   have hne:(Lib.indexB s ⟨#[46]⟩ == -1)=false:=by rw[hi,beq_eq_false_iff_ne];omega
   obtain⟨e1,_⟩:=cut1_some h
   rw[if_neg (by rw[hne];decide),hi,Int.toNat_natCast,List.map_cons,Nat.add_zero,splitB_eq k]
   congr 1
   ·rw[dl,ext_take,show s.data.toList=dl s from rfl,e1]
    simp
   ·congr 1
    rw[dl,ext_drop _ _ _ rfl,show s.data.toList=dl s from rfl,e1]
    simp
    rfl
theorem cut3_len:∀ (k:Nat) (l:List UInt8),(cut3 k l).length<=k+1
 | 0,l=>by simp[cut3]
 | k + 1, l => by
  rw[cut3]
  split
  ·simp
  ·have:=cut3_len k
   simp only[List.length_cons]
   have:=this ‹List UInt8 × List UInt8›.2
   omega
theorem cut3_short:∀ (k j:Nat) (l:List UInt8),l.length<=k->cut3 (k+j) l=cut3 k l
 | 0, j, l, h => by
  obtain rfl:l=[]:=List.eq_nil_of_length_eq_zero (by omega)
  cases j<;>rfl
 | k + 1, j, l, h => by
  rw[show k+1+j=(k+j)+1 by omega,cut3,cut3]
  cases hc:cutg [46] l with
  | none=>rfl
  | some p =>
   have:=(cut1_some hc).1
   have hl:=congrArg List.length this
   rw[List.length_append,List.length_cons]at hl
   simp only
   rw[cut3_short k j p.2 (by omega)]
def SplitR (l:List UInt8) (w:World) (e:Ending) (w':World):Prop:=∃ (xs:List ByteArray) (c:Nat),e = .returned (.slice (some ⟨w.heap.size,0,none⟩) xs.length c)/\xs.map dl=cut3 3 l/\(∀ (j:Nat) x,xs[j]? = some x->w'.cell? ⟨w.heap.size,j,none⟩=some (.string x))/\w.heap.size<w'.heap.size/\Below w.heap.size w w'
theorem SplitN_any(s:ByteArray)(hs:s.size<=1000000)(w:World)(hE:Env w):Calls Tryz.prog 266 #[.string s,.string ⟨#[46]⟩,.int .i64 4] w (SplitR (dl s) w):=by
 obtain⟨m,hm⟩:=hE.max
 refine (Any.strings_SplitN spnLaid info_s s ⟨#[46]⟩ 4 m w (by omega) hm (by decide) (by decide) (by decide)).mono ?_
 rintro e w' ⟨rfl,rfl⟩
 have hz:(dl s).length=s.size:=by simp[dl]
 have hc:(Lib.splitB ⟨#[46]⟩ 0 (min 4 (s.size+1)-1) s).map dl=cut3 3 (dl s):=by
  rw[splitB_eq]
  by_cases h:s.size<=2
  ·have:=cut3_short s.size (3-s.size) (dl s) (by omega)
   rw[show s.size+(3-s.size)=3 by omega]at this
   rw[this,show min 4 (s.size+1)-1=s.size by omega]
  ·rw[show min 4 (s.size+1)-1=3 by omega]
 have hlen:(Lib.splitB ⟨#[46]⟩ 0 (min 4 (s.size+1)-1) s).length<=min 4 (s.size+1):=by
  have:=congrArg List.length (splitB_eq (min 4 (s.size+1)-1) s)
  rw[List.length_map]at this
  rw[this]
  have:=cut3_len (min 4 (s.size+1)-1) (dl s)
  omega
 refine⟨_,_,rfl,hc,fun j x hx => ?_,by simp,(Below.refl _ w).alloc (Nat.le_refl _) _⟩
 rw[World.cell?_alloc_new]
 have hj:=(List.getElem?_eq_some_iff.1 hx).1
 unfold Lib.cellsOf
 simp[List.getElem?_append,hj]
 exact (List.getElem?_eq_some_iff.1 hx).2
end Go.Proofs.YtkibdkfdffkkfaaGreatDoor.Sx
