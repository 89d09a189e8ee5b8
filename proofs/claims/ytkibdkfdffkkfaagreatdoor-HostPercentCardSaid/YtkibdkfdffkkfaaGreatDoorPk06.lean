import Derived.Test.YtkibdkfdffkkfaaGreatDoorPk05
import Derived.Test.YtkibdkfdffkkfaaGreatDoorPk07
import Derived.Deep.LoopGhost
import Derived.Deep.DeepCutAuto
set_option maxRecDepth 100000
set_option maxHeartbeats 8000000
namespace Go.Proofs.YtkibdkfdffkkfaaGreatDoor.Ut
open Go.RowKit Utf
theorem conv_row{w:World}{B:Nat}{A:Option Addr}{xs:List Int}{n c:Nat}(hn:xs.length=n)(hr:Row w B A (cl .u8 xs)) :
  (convert 40 9 (.slice A n c)).run Tryz.prog w = .ok (.string (strOfNums xs)) w:=by
 subst hn
 cases xs with
 | nil =>
  cases A with
  | none=>exact run_convert_bytes_nil w 40 5 Tryz.underlying40 Tryz.underlying5 0 c 9 Tryz.underlying9
  | some a =>
   rw[run_convert_bytes_string w 40 9 5 _ _ c Tryz.underlying40 Tryz.underlying5 Tryz.underlying9]
   exact run_bytesToString w a 0 c [] (by simp[loadCells,loadCellsFrom])
 | cons x t =>
  obtain⟨b,o,rfl,_,hc⟩:=hr.at_ (by simp)
  refine run_convert_bytes_arg w 40 5 Tryz.underlying40 Tryz.underlying5 b o _ c (x::t) rfl (fun i hi => ?_) 9 Tryz.underlying9
  rw[hc i (by simpa using hi),cl_get _ _ _ hi]
  simp[List.getD,List.getElem?_eq_getElem hi]
abbrev T3:=Int × Int × Int
def c3 (l:List T3):List Value:=l.flatMap fun x=>[.int .i32 x.1,.int .i64 x.2.1,.int .i64 x.2.2]
end Go.Proofs.YtkibdkfdffkkfaaGreatDoor.Ut
namespace Go.Proofs.YtkibdkfdffkkfaaGreatDoor.Hst
open Go.RowKit Utf Ut
open Sx (dv)
abbrev dl (s:ByteArray):List UInt8:=s.data.toList
def bi (l:List UInt8):List Int:=l.map fun c=>(c.toNat:Int)
def cod:List UInt8->Nat × Bool
 | []=>(0,false)
 | c :: t => if c = 37 then match t with
   | a::b::_=>if dv a<16/\dv b<16 then (dv a*16+dv b,true) else (37,false)
   | _=>(37,false)
  else (c.toNat,false)
def pgo:Nat->List UInt8->List Int
 | _,[]=>[]
 | k+1,_::t=>pgo k t
 | 0,c::t=>((cod (c::t)).1:Int)::pgo (if (cod (c::t)).2=true then 2 else 0) t
def pdec (l:List UInt8):List Int:=pgo 0 l
theorem pgo_skip:∀ (k:Nat) (l:List UInt8),pgo k l=pgo 0 (l.drop k)
 | 0,l=>rfl
 | k+1,[]=>rfl
 | k+1,c::t=>by rw[pgo,pgo_skip k t];rfl
theorem pgo_step{l:List UInt8}{i:Nat}(h:i<l.length):pgo 0 (l.drop i)=((cod (l.drop i)).1:Int)::pgo 0 (l.drop (i+1+if (cod (l.drop i)).2=true then 2 else 0)):=by
 cases hd:l.drop i with
 | nil=>have:=congrArg List.length hd;rw[List.length_drop]at this;simp at this;omega
 | cons c t =>
  have ht:t=l.drop (i+1):=by rw[<-List.drop_drop,hd];rfl
  rw[pgo,pgo_skip,ht,List.drop_drop]
theorem cod_len{l:List UInt8}(h:(cod l).2=true):3<=l.length:=by
 unfold cod at h
 split at h
 ·cases h
 ·split at h
  ·split at h
   ·simp
   ·cases h
  ·cases h
theorem dv_cases(c:UInt8):(48<=c.toNat/\c.toNat<=57/\dv c=c.toNat-48)∨(97<=c.toNat/\c.toNat<=102/\dv c=c.toNat-87)∨(65<=c.toNat/\c.toNat<=70/\dv c=c.toNat-55)∨(dv c=99/\(c.toNat<48∨57<c.toNat)/\(c.toNat<97∨102<c.toNat)/\(c.toNat<65∨70<c.toNat)):=by
 unfold dv
 split
 ·left;omega
 ·split
  ·right;left;omega
  ·split
   ·right;right;left;omega
   ·right;right;right;omega
def DigR (d:Nat) (w:World) (e:Ending) (w':World):Prop:=e = .returned (if d<16 then .tuple #[.int .i64 (d:Int),.bool true] else .tuple #[.int .i64 0,.bool false])/\w=w'
theorem Digit_any(c:UInt8)(w:World):Calls Tryz.prog 192 #[.int .u8 (c.toNat:Int)] w (DigR (dv c) w):=by
 have hcs:=dv_cases c
 have hv256:c.toNat<256:=c.toNat_lt
 obtain⟨d,hd⟩:∃ d,dv c=d:=⟨_,rfl⟩
 rw[hd]at hcs ⊢
 obtain⟨v,hv⟩:∃ v,c.toNat=v:=⟨_,rfl⟩
 rw[hv]at hcs hv256 ⊢
 have HD:=Lib.hid hcs
 clear hcs hd hv
 have hcs:(0<=v/\v<=47)∨(48<=v/\v<=57)∨(58<=v/\v<=64)∨(65<=v/\v<=70)∨(71<=v/\v<=96)∨(97<=v/\v<=102)∨(103<=v/\v<=255):=by omega
 rcases hcs with ⟨e1,e2⟩|⟨e1,e2⟩|⟨e1,e2⟩|⟨e1,e2⟩|⟨e1,e2⟩|⟨e1,e2⟩|⟨e1,e2⟩
 ·have HE:=HD.out
  have p0:¬ (48:Int)<=(v:Int):=by omega
  have q0:decide ((48:Int)<=(v:Int))=false:=decide_eq_false p0
  have p1:(v:Int)<=57:=by omega
  have q1:decide ((v:Int)<=57)=true:=decide_eq_true p1
  have p2:¬ (97:Int)<=(v:Int):=by omega
  have q2:decide ((97:Int)<=(v:Int))=false:=decide_eq_false p2
  have p3:(v:Int)<=102:=by omega
  have q3:decide ((v:Int)<=102)=true:=decide_eq_true p3
  have p4:¬ (65:Int)<=(v:Int):=by omega
  have q4:decide ((65:Int)<=(v:Int))=false:=decide_eq_false p4
  have p5:(v:Int)<=70:=by omega
  have q5:decide ((v:Int)<=70)=true:=decide_eq_true p5
  have e:Hid (d=99):=Lib.hid (by omega)
  clear HE HD e1 e2
  go_enter Tryz.func192,Tryz.ntmps192
  go_wp2_with fail
  go_ret2
  exact⟨by rw[e.out]<;>rfl,rfl⟩
 ·have HE:=HD.out
  have p0:(48:Int)<=(v:Int):=by omega
  have q0:decide ((48:Int)<=(v:Int))=true:=decide_eq_true p0
  have p1:(v:Int)<=57:=by omega
  have q1:decide ((v:Int)<=57)=true:=decide_eq_true p1
  have p2:¬ (97:Int)<=(v:Int):=by omega
  have q2:decide ((97:Int)<=(v:Int))=false:=decide_eq_false p2
  have p3:(v:Int)<=102:=by omega
  have q3:decide ((v:Int)<=102)=true:=decide_eq_true p3
  have p4:¬ (65:Int)<=(v:Int):=by omega
  have q4:decide ((65:Int)<=(v:Int))=false:=decide_eq_false p4
  have p5:(v:Int)<=70:=by omega
  have q5:decide ((v:Int)<=70)=true:=decide_eq_true p5
  have e:Hid ((d:Int)=(v:Int)-48/\d<16):=Lib.hid (by omega)
  clear HE HD e1 e2
  go_enter Tryz.func192,Tryz.ntmps192
  go_wp2_with fail
  go_ret2
  refine⟨?_,rfl⟩
  rw[if_pos e.out.2,e.out.1]
  exact congrArg (fun q=>Ending.returned (.tuple #[.int .i64 q,.bool true])) (by omega)
 ·have HE:=HD.out
  have p0:(48:Int)<=(v:Int):=by omega
  have q0:decide ((48:Int)<=(v:Int))=true:=decide_eq_true p0
  have p1:¬ (v:Int)<=57:=by omega
  have q1:decide ((v:Int)<=57)=false:=decide_eq_false p1
  have p2:¬ (97:Int)<=(v:Int):=by omega
  have q2:decide ((97:Int)<=(v:Int))=false:=decide_eq_false p2
  have p3:(v:Int)<=102:=by omega
  have q3:decide ((v:Int)<=102)=true:=decide_eq_true p3
  have p4:¬ (65:Int)<=(v:Int):=by omega
  have q4:decide ((65:Int)<=(v:Int))=false:=decide_eq_false p4
  have p5:(v:Int)<=70:=by omega
  have q5:decide ((v:Int)<=70)=true:=decide_eq_true p5
  have e:Hid (d=99):=Lib.hid (by omega)
  clear HE HD e1 e2
  go_enter Tryz.func192,Tryz.ntmps192
  go_wp2_with fail
  go_ret2
  exact⟨by rw[e.out]<;>rfl,rfl⟩
 ·have HE:=HD.out
  have p0:(48:Int)<=(v:Int):=by omega
  have q0:decide ((48:Int)<=(v:Int))=true:=decide_eq_true p0
  have p1:¬ (v:Int)<=57:=by omega
  have q1:decide ((v:Int)<=57)=false:=decide_eq_false p1
  have p2:¬ (97:Int)<=(v:Int):=by omega
  have q2:decide ((97:Int)<=(v:Int))=false:=decide_eq_false p2
  have p3:(v:Int)<=102:=by omega
  have q3:decide ((v:Int)<=102)=true:=decide_eq_true p3
  have p4:(65:Int)<=(v:Int):=by omega
  have q4:decide ((65:Int)<=(v:Int))=true:=decide_eq_true p4
  have p5:(v:Int)<=70:=by omega
  have q5:decide ((v:Int)<=70)=true:=decide_eq_true p5
  have e:Hid ((d:Int)=(v:Int)-55/\d<16):=Lib.hid (by omega)
  clear HE HD e1 e2
  go_enter Tryz.func192,Tryz.ntmps192
  go_wp2_with fail
  go_ret2
  refine⟨?_,rfl⟩
  rw[if_pos e.out.2,e.out.1]
  exact congrArg (fun q=>Ending.returned (.tuple #[.int .i64 q,.bool true])) (by omega)
 ·have HE:=HD.out
  have p0:(48:Int)<=(v:Int):=by omega
  have q0:decide ((48:Int)<=(v:Int))=true:=decide_eq_true p0
  have p1:¬ (v:Int)<=57:=by omega
  have q1:decide ((v:Int)<=57)=false:=decide_eq_false p1
  have p2:¬ (97:Int)<=(v:Int):=by omega
  have q2:decide ((97:Int)<=(v:Int))=false:=decide_eq_false p2
  have p3:(v:Int)<=102:=by omega
  have q3:decide ((v:Int)<=102)=true:=decide_eq_true p3
  have p4:(65:Int)<=(v:Int):=by omega
  have q4:decide ((65:Int)<=(v:Int))=true:=decide_eq_true p4
  have p5:¬ (v:Int)<=70:=by omega
  have q5:decide ((v:Int)<=70)=false:=decide_eq_false p5
  have e:Hid (d=99):=Lib.hid (by omega)
  clear HE HD e1 e2
  go_enter Tryz.func192,Tryz.ntmps192
  go_wp2_with fail
  go_ret2
  exact⟨by rw[e.out]<;>rfl,rfl⟩
 ·have HE:=HD.out
  have p0:(48:Int)<=(v:Int):=by omega
  have q0:decide ((48:Int)<=(v:Int))=true:=decide_eq_true p0
  have p1:¬ (v:Int)<=57:=by omega
  have q1:decide ((v:Int)<=57)=false:=decide_eq_false p1
  have p2:(97:Int)<=(v:Int):=by omega
  have q2:decide ((97:Int)<=(v:Int))=true:=decide_eq_true p2
  have p3:(v:Int)<=102:=by omega
  have q3:decide ((v:Int)<=102)=true:=decide_eq_true p3
  have p4:(65:Int)<=(v:Int):=by omega
  have q4:decide ((65:Int)<=(v:Int))=true:=decide_eq_true p4
  have p5:¬ (v:Int)<=70:=by omega
  have q5:decide ((v:Int)<=70)=false:=decide_eq_false p5
  have e:Hid ((d:Int)=(v:Int)-87/\d<16):=Lib.hid (by omega)
  clear HE HD e1 e2
  go_enter Tryz.func192,Tryz.ntmps192
  go_wp2_with fail
  go_ret2
  refine⟨?_,rfl⟩
  rw[if_pos e.out.2,e.out.1]
  exact congrArg (fun q=>Ending.returned (.tuple #[.int .i64 q,.bool true])) (by omega)
 ·have HE:=HD.out
  have p0:(48:Int)<=(v:Int):=by omega
  have q0:decide ((48:Int)<=(v:Int))=true:=decide_eq_true p0
  have p1:¬ (v:Int)<=57:=by omega
  have q1:decide ((v:Int)<=57)=false:=decide_eq_false p1
  have p2:(97:Int)<=(v:Int):=by omega
  have q2:decide ((97:Int)<=(v:Int))=true:=decide_eq_true p2
  have p3:¬ (v:Int)<=102:=by omega
  have q3:decide ((v:Int)<=102)=false:=decide_eq_false p3
  have p4:(65:Int)<=(v:Int):=by omega
  have q4:decide ((65:Int)<=(v:Int))=true:=decide_eq_true p4
  have p5:¬ (v:Int)<=70:=by omega
  have q5:decide ((v:Int)<=70)=false:=decide_eq_false p5
  have e:Hid (d=99):=Lib.hid (by omega)
  clear HE HD e1 e2
  go_enter Tryz.func192,Tryz.ntmps192
  go_wp2_with fail
  go_ret2
  exact⟨by rw[e.out]<;>rfl,rfl⟩
def CodR (l:List UInt8) (w:World) (e:Ending) (w':World):Prop:=e = .returned (.tuple #[.int .u8 ((cod l).1:Int),.bool (cod l).2])/\w=w'
theorem codR_mk{l:List UInt8}{v:Nat}{q:Bool}{x:Int}{w:World}(h:cod l=(v,q))(hx:x=(v:Int)):CodR l w (.returned (.tuple #[.int .u8 x,.bool q])) w:=by
 unfold CodR
 rw[h,hx]
 exact⟨rfl,rfl⟩
theorem or4{a b:Nat}(ha:a<16)(hb:b<16):bits .or .i64 ((a:Int)*16) (b:Int)=(a:Int)*16+(b:Int):=by
 refine Go.bits_join .i64 8 (by decide) (fun n h0 h1=>IntWalk.i64_in _ (by omega)) 4 _ _ (by omega) ?_ ?_ (by omega) ?_ ?_
 all_goals simp only[show (2:Int) ^ 4=16 from rfl,show (2:Int) ^ 8=256 from rfl]
 all_goals omega
theorem code_any(s:ByteArray)(hs:1<=s.size)(hs2:s.size<=100000)(w:World):Calls Tryz.prog 145 #[.string s] w (CodR (dl s) w):=by
 have hlen:(dl s).length=s.size:=by simp[dl]
 have hg:∀ (k:Nat) (h:k<s.size),s[k]=(dl s)[k]'(by rw[hlen];exact h):=fun k h=>by simp[dl];rfl
 obtain⟨c,t,hl⟩:∃ c t,dl s=c::t:=by
  cases h:dl s with
  | nil=>rw[h]at hlen;simp at hlen;omega
  | cons c t=>exact⟨c,t,rfl⟩
 have h0z:(0:Int)<(s.size:Int):=by omega
 have p0:0<s.size:=hs
 have h0:s[0]'p0=c:=by rw[hg 0 p0];simp[hl]
 have hv0:c.toNat<256:=c.toNat_lt
 by_cases hc:c=37
 ·subst hc
  by_cases h3:s.size<3
  ·have h3z:(s.size:Int)<3:=by omega
   have HC:Hid (cod (dl s)=(37,false)):=Lib.hid (by
    rw[hl]
    rcases t with _|⟨a,_|⟨b,r⟩⟩
    ·rfl
    ·rfl
    ·rw[hl]at hlen;simp at hlen;omega)
   have h0i:((s[0]'p0).toNat:Int)=37:=by rw[h0];rfl
   clear hl hlen hg h0 h3
   go_enter Tryz.func145,Tryz.ntmps145
   go_wp2_with fail
   go_ret2
   exact codR_mk HC.out (by first|exact h0i|rfl)
  ·have h3z:¬ (s.size:Int)<3:=by omega
   obtain⟨a,b,r,rfl⟩:∃ a b r,t=a::b::r:=by
    rcases t with _|⟨a,_|⟨b,r⟩⟩
    ·rw[hl]at hlen;simp at hlen;omega
    ·rw[hl]at hlen;simp at hlen;omega
    ·exact⟨a,b,r,rfl⟩
   have p1:1<s.size:=by omega
   have p2:2<s.size:=by omega
   have h1:s[1]'p1=a:=by rw[hg 1 p1];simp[hl]
   have h2:s[2]'p2=b:=by rw[hg 2 p2];simp[hl]
   have h1z:(1:Int)<(s.size:Int):=by omega
   have h2z:(2:Int)<(s.size:Int):=by omega
   have HC:Hid (cod (dl s)=if dv a<16/\dv b<16 then (dv a*16+dv b,true) else (37,false)):=Lib.hid (by rw[hl];rfl)
   have HA:=Lib.hid (fun W=>Digit_any a W)
   have HB:=Lib.hid (fun W=>Digit_any b W)
   have h0i:((s[0]'p0).toNat:Int)=37:=by rw[h0];rfl
   have h1i:((s[1]'p1).toNat:Int)=(a.toNat:Int):=by rw[h1]
   have h2i:((s[2]'p2).toNat:Int)=(b.toNat:Int):=by rw[h2]
   obtain⟨x,hx⟩:∃ x,dv a=x:=⟨_,rfl⟩
   obtain⟨y,hy⟩:∃ y,dv b=y:=⟨_,rfl⟩
   rw[hx,hy]at HC
   rw[hx]at HA
   rw[hy]at HB
   unfold DigR at HA HB
   clear hl hlen hg h0 h1 h2 hx hy h3
   by_cases hxa:x<16
   ·rw[if_pos hxa]at HA
    by_cases hyb:y<16
    ·rw[if_pos hyb]at HB
     have HC2:Hid (cod (dl s)=(x*16+y,true)):=Lib.hid (by rw[HC.out,if_pos ⟨hxa,hyb⟩])
     have hor:=or4 hxa hyb
     have hw8:IntKind.u8.wrap ((x:Int)*16+(y:Int))=(x:Int)*16+(y:Int):=by simp[IntKind.wrap,IntKind.signed,IntKind.bits];omega
     go_enter Tryz.func145,Tryz.ntmps145
     go_upto_region 4 with(first|(go_at_call 192;refine (HA.out _).mono ?_;rintro e w1 ⟨rfl,rfl⟩)|fail)
     go_wp2_with(first|(go_at_call 192;refine (HB.out _).mono ?_;rintro e w1 ⟨rfl,rfl⟩)|fail)
     go_ret2
     exact codR_mk HC2.out (by omega)
    ·rw[if_neg hyb]at HB
     have HC2:Hid (cod (dl s)=(37,false)):=Lib.hid (by rw[HC.out,if_neg (fun h=>hyb h.2)])
     go_enter Tryz.func145,Tryz.ntmps145
     go_upto_region 4 with(first|(go_at_call 192;refine (HA.out _).mono ?_;rintro e w1 ⟨rfl,rfl⟩)|fail)
     go_wp2_with(first|(go_at_call 192;refine (HB.out _).mono ?_;rintro e w1 ⟨rfl,rfl⟩)|fail)
     go_ret2
     exact codR_mk HC2.out (by first|exact h0i|rfl)
   ·rw[if_neg hxa]at HA
    have HC2:Hid (cod (dl s)=(37,false)):=Lib.hid (by rw[HC.out,if_neg (fun h=>hxa h.1)])
    obtain⟨V,hV⟩:∃ V,(if y<16 then Value.tuple #[.int .i64 (y:Int),.bool true] else .tuple #[.int .i64 0,.bool false])=V:=⟨_,rfl⟩
    by_cases hyb:y<16
    ·rw[if_pos hyb]at HB
     go_enter Tryz.func145,Tryz.ntmps145
     go_upto_region 4 with(first|(go_at_call 192;refine (HA.out _).mono ?_;rintro e w1 ⟨rfl,rfl⟩)|fail)
     go_wp2_with(first|(go_at_call 192;refine (HB.out _).mono ?_;rintro e w1 ⟨rfl,rfl⟩)|fail)
     go_ret2
     exact codR_mk HC2.out (by first|exact h0i|rfl)
    ·rw[if_neg hyb]at HB
     go_enter Tryz.func145,Tryz.ntmps145
     go_upto_region 4 with(first|(go_at_call 192;refine (HA.out _).mono ?_;rintro e w1 ⟨rfl,rfl⟩)|fail)
     go_wp2_with(first|(go_at_call 192;refine (HB.out _).mono ?_;rintro e w1 ⟨rfl,rfl⟩)|fail)
     go_ret2
     exact codR_mk HC2.out (by first|exact h0i|rfl)
 ·have HC:Hid (cod (dl s)=(c.toNat,false)):=Lib.hid (by rw[hl];show (if c=37 then _ else (c.toNat,false))=_;rw[if_neg hc])
  have h0i:((s[0]'p0).toNat:Int)=(c.toNat:Int):=by rw[h0]
  have hcn:((c.toNat:Int) != 37)=true:=by
   rw[bne_iff_ne]
   intro e
   exact hc (by rw[<-UInt8.toNat_inj];exact Int.ofNat_inj.1 e)
  clear hl hlen hg h0 hc
  go_enter Tryz.func145,Tryz.ntmps145
  go_wp2_with fail
  go_ret2
  exact codR_mk HC.out (by first|exact h0i|rfl)
end Go.Proofs.YtkibdkfdffkkfaaGreatDoor.Hst
namespace Go.Proofs.YtkibdkfdffkkfaaGreatDoor.Hst
open Go.RowKit Utf Ut
open Sx (dv)
theorem info_split{i:TypeId}{z:Value}{a b:Nat}(h:(Tryz.prog.info? i).map (fun i=>(i.zero,i.size,i.bytes))=some (some z,a,b)):∃ x,Tryz.prog.info? i=some x/\x.zero=some z/\x.size=a/\x.bytes=b:=by
 cases hx:Tryz.prog.info? i with
 | none=>rw[hx]at h;cases h
 | some x=>rw[hx]at h;simp only[Option.map_some,Option.some.injEq,Prod.mk.injEq]at h;exact⟨x,rfl,h.1,h.2.1,h.2.2⟩
theorem own_form{w:World}{base:Nat}{e:TypeId}{size n:Nat}{v:Value}{xs:List Value}(h:w.ownsRow base e size v n xs):∃ A c,v = .slice A n c/\n<=c/\Row w w.heap.size A xs:=by
 rcases h.2 with ⟨rfl,rfl⟩|⟨g,cap,cur,rfl,_,_,hc,_⟩
 ·exact⟨none,0,rfl,by omega,.of_own h⟩
 ·exact⟨_,cap,rfl,hc,.of_own h⟩
theorem upB{w w1 w2:World}(h:Below w.heap.size w w1)(k:Below w1.heap.size w1 w2):Below w.heap.size w w2:=h.trans (k.mono h.size)
theorem upA(w:World)(o:Obj):Below w.heap.size w (w.alloc o):=(Below.refl _ w).alloc (Nat.le_refl _) o
theorem one_u8(xs:List Int):∀ u∈cl .u8 xs,u.oneCell'=true:=by
 intro u hu
 obtain⟨x,_,rfl⟩:=List.mem_map.1 hu
 rfl
theorem cl_snoc(k:IntKind)(xs:List Int)(y:Int):cl k (xs++[y])=cl k xs++[.int k y]:=by simp[cl]
theorem cl_app(k:IntKind)(xs ys:List Int):cl k (xs++ys)=cl k xs++cl k ys:=by simp[cl]
theorem wpList_appB{ops:Array Oper}{rest:List Oper}{o:Oper}{a:Act}{Q:Exit->Act->World->Prop}(B:Nat)(W:World)(hgd:o.guard=none)(s x:Operand)
  (ho:o.op = .call { callee:=.builtin .append,args:=#[s,x],argTypes:=#[40,40] })
  (v:Value) (n m:Nat) (xs:List Int) (y:Int) (hs:a.eval s=v) (hown:W.ownsRow B 5 1 v n (cl .u8 xs)) (hB:B<=W.heap.size)
  (hx:a.eval x = .slice (some ⟨W.heap.size,0,none⟩) 1 1) (hm:n+1=m) (hm2:m<=11000000)
  (h:∀ A' c' w',w'.ownsRow B 5 1 (.slice A' m c') m (cl .u8 (xs++[y]))->Below B W w'->wpList Tryz.prog ops Q rest (a.put o.dst (.slice A' m c')) w') :
  wpList Tryz.prog ops Q (o::rest) a (W.alloc (.cells #[.int .u8 y] 5)):=by
 subst hm
 obtain⟨i0,hi,hz0,hz1,hz2⟩:=info_split info_u8
 have hB1:=(Below.refl B W).alloc hB (.cells #[.int .u8 y] 5)
 refine wpList_append_row _ hgd s x 40 ho B 5 i0 (.int .u8 0) 1 1 Tryz.underlying40 hi hz0 hz1 hz2 rfl (Nat.zero_lt_succ 0) v n (cl .u8 xs) hs (hown.alloc _) _ _ 1 1 [.int .u8 y] hx rfl (row_new _ _ 5 [.int .u8 y] rfl) (by simp[Value.oneCell']) (by unfold maxLen;omega) (by omega) (by rw[World.size_alloc];omega) ?_
 intro v' w' hO hg
 have hB2:=hB1.grown hg (by rw[World.size_alloc];omega) (fun j e=>(hown.lt j e).1)
 obtain⟨A',c',rfl,_,_⟩:=own_form hO
 exact h A' c' w' (by rw[cl_snoc];exact hO) hB2
theorem ext_drop(s:ByteArray)(i:Nat):dl (s.extract i s.size)=(dl s).drop i:=by
 simp[dl,ByteArray.data_extract]
 exact List.take_of_length_le (by simp)
theorem pdec_le:∀ (l:List UInt8) (k:Nat),(pgo k l).length<=l.length
 | [],k=>by cases k<;>simp[pgo]
 | c::t,0=>by rw[pgo,List.length_cons,List.length_cons];have:=pdec_le t (if (cod (c::t)).2=true then 2 else 0);omega
 | c::t,k+1=>by rw[pgo,List.length_cons];have:=pdec_le t k;omega
theorem PDecode_any(s:ByteArray)(hs:s.size<=100000)(w:World):Calls Tryz.prog 87 #[.string s] w (MadeBytes (pdec (dl s)) w):=by
 have hlen:(dl s).length=s.size:=by simp[dl]
 have HC:Hid (∀ (i:Nat) (_:i<s.size) W,Calls Tryz.prog 145 #[.string (s.extract i s.size)] W (CodR ((dl s).drop i) W)):=Lib.hid (fun i hi W=>by
  have:=code_any (s.extract i s.size) (by rw[ByteArray.size_extract];omega) (by rw[ByteArray.size_extract];omega) W
  rw[ext_drop]at this
  exact this)
 obtain⟨l,hl⟩:∃ l,dl s=l:=⟨_,rfl⟩
 rw[hl]at hlen HC ⊢
 have HLEN:=Lib.hid hlen
 obtain⟨i0,hi,hz0,hz1,hz2⟩:=info_split info_u8
 have HZ:=Lib.hid hz2
 clear hl hlen
 go_enter Tryz.func87,Tryz.ntmps87
 go_wp2_with(first|(at_make;refine wpList_make_own _ rfl _ _ 40 rfl w.heap.size 5 i0 _ 1 Tryz.underlying40 hi hz0 hz1 .i64 .i64 _ s.size rfl rfl rfl (by rw[HZ.out];omega) (by unfold maxLen;omega) (Nat.le_refl _) ?_;intro w1 hown1 hgrow1)|fail)
 have hB1:Below w.heap.size w w1:=(Below.refl _ _).grown hgrow1 (Nat.le_refl _) (fun j e=>by cases e)
 go_loopg [3,4] s.size (fun m s3 s4 wr => ∃ (i n c:Nat) (A:Option Addr) (P:List Int),s4 = .int .i64 (i:Int)/\s3 = .slice A n c/\s.size-i=m/\i<=s.size/\n<=i/\Hid (P.length=n/\pdec l=P++pgo 0 (l.drop i))/\Hid (wr.ownsRow w.heap.size 5 1 (.slice A n c) n (cl .u8 P))/\Hid (Below w.heap.size w wr))
 case atStart=>exact⟨0,0,s.size,_,[],rfl,rfl,rfl,Nat.zero_le _,Nat.le_refl _,Lib.hid ⟨rfl,rfl⟩,Lib.hid hown1,Lib.hid hB1⟩
 case round =>
  clear hown1 hB1 hgrow1
  obtain⟨i,n,c,A,P,rfl,rfl,rfl,hi',hn,HP,HO,HB⟩:=hrel
  by_cases hlt:i<s.size
  ·have hltz:(i:Int)<(s.size:Int):=by omega
   have HCi:=Lib.hid (HC.out i hlt)
   have HST:=Lib.hid (pgo_step (l:=l) (i:=i) (by rw[HLEN.out];exact hlt))
   have HCL:=Lib.hid (fun h=>cod_len (l:=l.drop i) h)
   unfold CodR at HCi
   obtain⟨p,hp⟩:∃ p,cod (l.drop i)=p:=⟨_,rfl⟩
   rw[hp]at HCi HST HCL
   obtain⟨v,q⟩:=p
   simp only at HCi HST HCL
   clear hp
   have HO1:=HO.out
   have HBS:=Lib.hid HB.out.size
   cases q with
   | true =>
    have h3:i+3<=s.size:=by have:=HCL.out rfl;rw[List.length_drop,HLEN.out]at this;omega
    go_upto_region 8 with(first|(go_at_call 145;refine (HCi.out _).mono ?_;rintro e w2 ⟨rfl,rfl⟩)|fail)
    rename World=>w2
    have HBS:=Lib.hid HB.out.size
    go_wp2_with(first|(at_builtin;refine wpList_appB w.heap.size _ rfl _ _ rfl (.slice A n c) n (n+1) P (v:Int) rfl HO1 HBS.out rfl rfl (by omega) ?_;intro A' c' w3 hO3 hB3)|fail)
    go_roundg (s.size-(i+3))
    case measure=>omega
    case rel=>exact⟨i+3,n+1,c',A',P++[(v:Int)],by go_num,by go_num,rfl,h3,by omega,Lib.hid ⟨by rw[List.length_append,HP.out.1];rfl,by rw[HP.out.2,HST.out];simp⟩,Lib.hid hO3,Lib.hid (HB.out.trans hB3)⟩
   | false =>
    go_upto_region 8 with(first|(go_at_call 145;refine (HCi.out _).mono ?_;rintro e w2 ⟨rfl,rfl⟩)|fail)
    have HBS:=Lib.hid HB.out.size
    go_wp2_with(first|(at_builtin;refine wpList_appB w.heap.size _ rfl _ _ rfl (.slice A n c) n (n+1) P (v:Int) rfl HO1 HBS.out rfl rfl (by omega) ?_;intro A' c' w3 hO3 hB3)|fail)
    go_roundg (s.size-(i+1))
    case measure=>omega
    case rel=>exact⟨i+1,n+1,c',A',P++[(v:Int)],by go_num,by go_num,rfl,by omega,by omega,Lib.hid ⟨by rw[List.length_append,HP.out.1];rfl,by rw[HP.out.2,HST.out];simp⟩,Lib.hid hO3,Lib.hid (HB.out.trans hB3)⟩
  ·have hltz:¬ (i:Int)<(s.size:Int):=by omega
   have HE:Hid (P=pdec l):=Lib.hid (by rw[HP.out.2,List.drop_of_length_le (by rw[HLEN.out];omega)];simp[pgo])
   have HL:=Lib.hid HP.out.1
   clear hlt
   go_wp2_with fail
   go_ret
   rw[<-HE.out]
   exact⟨_,rfl,by rw[HL.out];exact HO.out,HB.out⟩
end Go.Proofs.YtkibdkfdffkkfaaGreatDoor.Hst
namespace Go.Proofs.YtkibdkfdffkkfaaGreatDoor
open Go.RowKit
section
variable {P:Program} (w:World)
theorem step_append_row{ops:Array Oper}{o:Oper}{a:Act}{K:Act->World->Prop}{Q:Exit->Act->World->Prop}{E:Prop}(hgd:o.guard=none)(s x:Operand)(t:TypeId)
  (ho:o.op = .call { callee:=.builtin .append,args:=#[s,x],argTypes:=#[t,t] })
  (base:Nat) (e:TypeId) (i:TypeInfo) (z:Value) (size bytes:Nat) (ht:P.underlying t=some (.slice e)) (hi:P.info? e=some i) (hz:i.zero=some z)
  (hsize:i.size=size) (hby:i.bytes=bytes) (hzs:z.cells.size=size) (hsz:0<size) (v:Value) (n:Nat) (xs:List Value) (hs:a.eval s=v) (hown:w.ownsRow base e size v n xs)
  (B:Nat) (A:Option Addr) (m c:Nat) (news:List Value) (hx:a.eval x = .slice A m c) (hl:news.length=m*size) (hr:Row w B A news) (h1:∀ u∈news,u.oneCell'=true)
  (h63:n+m<=maxLen) (hbytes:(n+m)*bytes<=140737488355328) (hbase:base<=w.heap.size)
  (h:∀ v' w',w'.ownsRow base e size v' (n+m) (xs++news)->w.grownBy w' v.ownBlock->K (a.put o.dst v') w'):if Region.wanted o (yielded ops a.tmps)=true then Oper.wp P o a w K Q else E:=by
 rw[if_pos (show Region.wanted o (yielded ops a.tmps)=true by simp[Region.wanted,hgd])]
 obtain⟨v',w',hr,h2,h3⟩:=run_append_row (P:=P) w base t o.type e i z size bytes ht hi hz hsize hby hzs hsz v n xs hown B A m c news hl hr h1 h63 hbytes hbase
 unfold Oper.wp execOp
 simp only[ho,resolve,invoke,builtin,Sem.run_bind,Sem.run_pure,Result.andThen_ok,List.map_toArray,List.map_cons,List.map_nil,hs,hx,hr]
 exact h v' w' h2 h3
end
end Go.Proofs.YtkibdkfdffkkfaaGreatDoor
