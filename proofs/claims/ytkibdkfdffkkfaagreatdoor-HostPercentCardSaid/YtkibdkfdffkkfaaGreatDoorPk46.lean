import Derived.Test.YtkibdkfdffkkfaaGreatDoorPk44
import Derived.Test.YtkibdkfdffkkfaaGreatDoorPk45
set_option maxRecDepth 100000
set_option maxHeartbeats 8000000
namespace Go.Proofs.YtkibdkfdffkkfaaGreatDoor.Hst
open Go.RowKit Utf Ut Remap Norm Pn Puny
def brv (l:List Int):Option (List Nat):=if l[l.length-1]! = 93 then Sx.prs (dl (strOfNums (enc ((l.drop 1).take (l.length-2))))) else none
abbrev hS (x:List Nat):Value:=.agg ((#[.int .u8 4,.string ⟨#[]⟩,.int .u32 0]:Array Value)++(Sx.cu x).toArray)
def BrR (l:List Int) (w:World) (e:Ending) (w':World):Prop:=(match brv l with|none=>e = .returned (.tuple #[hV 0 ⟨#[]⟩,.int .i64 31])|some x=>e = .returned (.tuple #[hS x,.int .i64 0]))/\Below w.heap.size w w'
theorem brR_no{l:List Int}{w w':World}(h:brv l=none)(hB:Below w.heap.size w w'):BrR l w (.returned (.tuple #[hV 0 ⟨#[]⟩,.int .i64 31])) w':=by unfold BrR;rw[h];exact⟨rfl,hB⟩
theorem brR_yes{l:List Int}{x:List Nat}{w w':World}(h:brv l=some x)(hB:Below w.heap.size w w'):BrR l w (.returned (.tuple #[hS x,.int .i64 0])) w':=by unfold BrR;rw[h];exact⟨rfl,hB⟩
theorem row_takeI{w:World}{B:Nat}{A:Option Addr}{l:List Int}(h:Row w B A (cl .i32 l))(k:Nat):Row w B A (cl .i32 (l.take k)):=by
 rcases h with h|⟨b,o,hA,hb,hc⟩
 ·have:l=[]:=by simpa[cl] using h
  subst this
  exact .inl (by simp[cl])
 ·refine .inr ⟨b,o,hA,hb,fun i hi => ?_⟩
  have hi':i<k/\i<l.length:=by rw[List.length_map,List.length_take]at hi;omega
  rw[hc i (by simp;omega),List.getElem?_map,List.getElem?_map,List.getElem?_take_of_lt hi'.1]
theorem bracketed_any(l:List Int)(A:Option Addr)(n c:Nat)(w:World)(hn:l.length=n)(h0:l[0]! = 91)(h1:1<=n)(hl:n<=1000)(hc:n<=c)(hr:Row w w.heap.size A (cl .i32 l))(hE:Sx.Env w):Calls Tryz.prog 47 #[.slice A n c] w (BrR l w):=by
 have hB0:=upA w (.cells #[.int .u8 0,.string ⟨#[]⟩,.int .u32 0,.int .u16 0,.int .u16 0,.int .u16 0,.int .u16 0,.int .u16 0,.int .u16 0,.int .u16 0,.int .u16 0] 28)
 have hr1:=(hr.below hB0).mono hB0.size
 have hE1:=hE.go hB0
 obtain⟨w1,hw1⟩:∃ w1,w.alloc (.cells #[.int .u8 0,.string ⟨#[]⟩,.int .u32 0,.int .u16 0,.int .u16 0,.int .u16 0,.int .u16 0,.int .u16 0,.int .u16 0,.int .u16 0,.int .u16 0] 28)=w1:=⟨_,rfl⟩
 rw[hw1]at hB0 hr1 hE1
 have HB0:=Lib.hid hB0
 have HBL:Hid (∀ W,Below w1.heap.size w1 W->W.heap[w.heap.size]? = some (.cells #[.int .u8 0,.string ⟨#[]⟩,.int .u32 0,.int .u16 0,.int .u16 0,.int .u16 0,.int .u16 0,.int .u16 0,.int .u16 0,.int .u16 0,.int .u16 0] 28 (0,0))):=Lib.hid (fun W h=>by
  have e:w1.heap[w.heap.size]? = some (.cells #[.int .u8 0,.string ⟨#[]⟩,.int .u32 0,.int .u16 0,.int .u16 0,.int .u16 0,.int .u16 0,.int .u16 0,.int .u16 0,.int .u16 0,.int .u16 0] 28 (0,0)):=by rw[<-hw1];exact World.alloc_heap_new w _
  exact (h.block _ (Array.getElem?_eq_some_iff.1 e).1).trans e)
 have HW1:=Lib.hid hw1
 obtain⟨b,o,rfl,hb',hcc⟩:=hr1.at_ (by simp[hn];omega)
 have c0:=cell_at hcc (k:=n-1) (by omega)
 obtain⟨y,hy⟩:∃ y,l[n-1]! = y:=⟨_,rfl⟩
 rw[hy]at c0
 have hlast:(n:Int)-1=((n-1:Nat):Int):=by omega
 have hlt:((n-1:Nat):Int)<(n:Int):=by omega
 by_cases h93:y=93
 ·have hyz:(y != 93)=false:=by rw[h93];rfl
  obtain⟨m,rfl⟩:∃ m,n=m+2:=⟨n-2,by
   rcases Nat.lt_or_ge n 2 with h|h
   ·obtain rfl:n=1:=by omega
    rw[show 1-1=0 from rfl,h0]at hy
    omega
   ·omega⟩
  have HV:Hid (brv l=Sx.prs (dl (strOfNums (enc ((l.drop 1).take m))))):=Lib.hid (by unfold brv;rw[hn,hy,if_pos h93];rfl)
  have hrow:Row w1 w1.heap.size (some ⟨b,o+1,none⟩) (cl .i32 ((l.drop 1).take m)):=row_takeI (row_dropI hr1 (cap:=c) hn (k:=1) (by omega) (by omega)) m
  have hml:((l.drop 1).take m).length=m:=by rw[List.length_take,List.length_drop,hn];omega
  have HEN:=Lib.hid (Encode_any ((l.drop 1).take m) (some ⟨b,o+1,none⟩) m (c-1) w1 hml (by omega) hrow)
  obtain⟨t,ht⟩:∃ t,enc ((l.drop 1).take m)=t:=⟨_,rfl⟩
  have htl:t.length<=4*m:=by rw[<-ht];have:=enc_len_le ((l.drop 1).take m);omega
  rw[ht]at HEN HV
  have HTB:Hid (t.length<=4000):=Lib.hid (by omega)
  have HE1:=Lib.hid hE1
  unfold MadeBytes at HEN
  have hlast2:((m+2:Nat):Int)-1=(m:Int)+1:=by omega
  have c0':w1.cell? ⟨b,o+(m+1),none⟩=some (.int .i32 y):=c0
  clear hcc hy hr hr1 hE hE1 h0 hn hB0 hlast hlt hrow hml ht htl c0
  go_enter Tryz.func47,Tryz.ntmps47
  go_upto_region 1 with fail
  clear hw1
  go_upto_region 4 with fail
  go_wp2_with fail
  refine HEN.out.mono ?_
  rintro e w2 ⟨v2,rfl,hO2,hB2⟩
  obtain⟨A2,c2,rfl,_,hr2⟩:=own_form hO2
  have hcv:=conv_row (c:=c2) rfl hr2
  have HP:=Lib.hid (Sx.Parse_any (strOfNums t) (by
   have:=HTB.out
   have e:=strOfNums_size t
   omega) w2 (HE1.out.go hB2))
  obtain⟨s,hs⟩:∃ s,strOfNums t=s:=⟨_,rfl⟩
  rw[hs]at hcv HP HV
  obtain⟨v,hv⟩:∃ v,Sx.prs (dl s)=v:=⟨_,rfl⟩
  have HP2:Hid (Calls Tryz.prog 85 #[.string s] w2 (Sx.ParR v w2)):=Lib.hid (by rw[<-hv];exact HP.out)
  rw[hv]at HV
  have HX8:Hid (∀ x,v=some x->x.length=8):=Lib.hid (fun x h=>(Sx.prs_some (hv.trans h)).1)
  obtain⟨k2,hk2⟩:∃ k,t.length=k:=⟨_,rfl⟩
  rw[hk2]at hcv ⊢
  have HB2:=Lib.hid hB2
  clear hs hv HP HEN HTB hO2 hr2 hk2 hB2
  cases v with
  | none =>
   go_upto_region 6 with(first
    | (go_at_call 85;refine HP2.out.mono ?_;rintro e w3 ⟨rfl,hB3⟩)
    | (refine Sx.store8x rfl _ _ rfl _ Sx.z8 Sx.z8 rfl rfl (Sx.Hx.new w3 Sx.z8) rfl rfl ?_;intro w4 hX4 hB4)
    | fail)
   have hB14:=upB HB2.out (upB hB3 ((upA w3 _).trans hB4))
   have hb:=HBL.out w4 hB14
   have e0:w4.cell? ⟨w.heap.size,0,none⟩=some (.int .u8 0):=by simp[World.cell?,hb]
   have f0:w4.frozen? ⟨w.heap.size,0,none⟩=false:=by simp[World.frozen?,hb]
   have e1:w4.cell? ⟨w.heap.size,1,none⟩=some (.string ⟨#[]⟩):=by simp[World.cell?,hb]
   have f1:w4.frozen? ⟨w.heap.size,1,none⟩=false:=by simp[World.frozen?,hb]
   have e2:w4.cell? ⟨w.heap.size,2,none⟩=some (.int .u32 0):=by simp[World.cell?,hb]
   have f2:w4.frozen? ⟨w.heap.size,2,none⟩=false:=by simp[World.frozen?,hb]
   have e3:w4.cell? ⟨w.heap.size,3,none⟩=some (.int .u16 0):=by simp[World.cell?,hb]
   have f3:w4.frozen? ⟨w.heap.size,3,none⟩=false:=by simp[World.frozen?,hb]
   have e4:w4.cell? ⟨w.heap.size,4,none⟩=some (.int .u16 0):=by simp[World.cell?,hb]
   have f4:w4.frozen? ⟨w.heap.size,4,none⟩=false:=by simp[World.frozen?,hb]
   have e5:w4.cell? ⟨w.heap.size,5,none⟩=some (.int .u16 0):=by simp[World.cell?,hb]
   have f5:w4.frozen? ⟨w.heap.size,5,none⟩=false:=by simp[World.frozen?,hb]
   have e6:w4.cell? ⟨w.heap.size,6,none⟩=some (.int .u16 0):=by simp[World.cell?,hb]
   have f6:w4.frozen? ⟨w.heap.size,6,none⟩=false:=by simp[World.frozen?,hb]
   have e7:w4.cell? ⟨w.heap.size,7,none⟩=some (.int .u16 0):=by simp[World.cell?,hb]
   have f7:w4.frozen? ⟨w.heap.size,7,none⟩=false:=by simp[World.frozen?,hb]
   have e8:w4.cell? ⟨w.heap.size,8,none⟩=some (.int .u16 0):=by simp[World.cell?,hb]
   have f8:w4.frozen? ⟨w.heap.size,8,none⟩=false:=by simp[World.frozen?,hb]
   have e9:w4.cell? ⟨w.heap.size,9,none⟩=some (.int .u16 0):=by simp[World.cell?,hb]
   have f9:w4.frozen? ⟨w.heap.size,9,none⟩=false:=by simp[World.frozen?,hb]
   have e10:w4.cell? ⟨w.heap.size,10,none⟩=some (.int .u16 0):=by simp[World.cell?,hb]
   have f10:w4.frozen? ⟨w.heap.size,10,none⟩=false:=by simp[World.frozen?,hb]
   go_wp2_with fail
   refine bodyPost_ret (v:=.tuple #[hV 0 ⟨#[]⟩,.int .i64 31]) (Sx.results_two (u:=3) Tryz.results47 rfl ?_ rfl) rfl ?_
   ·go_simp
    done
   ·have HBX:=upB HB0.out hB14
    exact brR_no HV.out ((((((((((((HBX).setCell (Nat.le_refl _) _).setCell (Nat.le_refl _) _).setCell (Nat.le_refl _) _).setCell (Nat.le_refl _) _).setCell (Nat.le_refl _) _).setCell (Nat.le_refl _) _).setCell (Nat.le_refl _) _).setCell (Nat.le_refl _) _).setCell (Nat.le_refl _) _).setCell (Nat.le_refl _) _).setCell (Nat.le_refl _) _)
  | some x =>
   have hx8:=HX8.out x rfl
   obtain⟨x0,x1,x2,x3,x4,x5,x6,x7,rfl⟩:=Sx.eight hx8
   go_upto_region 7 with(first
    | (go_at_call 85;refine HP2.out.mono ?_;rintro e w3 ⟨rfl,hB3⟩)
    | (refine Sx.store8x rfl _ _ rfl _ Sx.z8 [x0,x1,x2,x3,x4,x5,x6,x7] rfl rfl (Sx.Hx.new w3 Sx.z8) rfl rfl ?_;intro w4 hX4 hB4)
    | fail)
   have hB14:=upB HB2.out (upB hB3 ((upA w3 _).trans hB4))
   have hb:=HBL.out w4 hB14
   have e0:w4.cell? ⟨w.heap.size,0,none⟩=some (.int .u8 0):=by simp[World.cell?,hb]
   have f0:w4.frozen? ⟨w.heap.size,0,none⟩=false:=by simp[World.frozen?,hb]
   have e1:w4.cell? ⟨w.heap.size,1,none⟩=some (.string ⟨#[]⟩):=by simp[World.cell?,hb]
   have f1:w4.frozen? ⟨w.heap.size,1,none⟩=false:=by simp[World.frozen?,hb]
   have e2:w4.cell? ⟨w.heap.size,2,none⟩=some (.int .u32 0):=by simp[World.cell?,hb]
   have f2:w4.frozen? ⟨w.heap.size,2,none⟩=false:=by simp[World.frozen?,hb]
   have e3:w4.cell? ⟨w.heap.size,3,none⟩=some (.int .u16 0):=by simp[World.cell?,hb]
   have f3:w4.frozen? ⟨w.heap.size,3,none⟩=false:=by simp[World.frozen?,hb]
   have e4:w4.cell? ⟨w.heap.size,4,none⟩=some (.int .u16 0):=by simp[World.cell?,hb]
   have f4:w4.frozen? ⟨w.heap.size,4,none⟩=false:=by simp[World.frozen?,hb]
   have e5:w4.cell? ⟨w.heap.size,5,none⟩=some (.int .u16 0):=by simp[World.cell?,hb]
   have f5:w4.frozen? ⟨w.heap.size,5,none⟩=false:=by simp[World.frozen?,hb]
   have e6:w4.cell? ⟨w.heap.size,6,none⟩=some (.int .u16 0):=by simp[World.cell?,hb]
   have f6:w4.frozen? ⟨w.heap.size,6,none⟩=false:=by simp[World.frozen?,hb]
   have e7:w4.cell? ⟨w.heap.size,7,none⟩=some (.int .u16 0):=by simp[World.cell?,hb]
   have f7:w4.frozen? ⟨w.heap.size,7,none⟩=false:=by simp[World.frozen?,hb]
   have e8:w4.cell? ⟨w.heap.size,8,none⟩=some (.int .u16 0):=by simp[World.cell?,hb]
   have f8:w4.frozen? ⟨w.heap.size,8,none⟩=false:=by simp[World.frozen?,hb]
   have e9:w4.cell? ⟨w.heap.size,9,none⟩=some (.int .u16 0):=by simp[World.cell?,hb]
   have f9:w4.frozen? ⟨w.heap.size,9,none⟩=false:=by simp[World.frozen?,hb]
   have e10:w4.cell? ⟨w.heap.size,10,none⟩=some (.int .u16 0):=by simp[World.cell?,hb]
   have f10:w4.frozen? ⟨w.heap.size,10,none⟩=false:=by simp[World.frozen?,hb]
   obtain⟨a0,a1,a2,a3,a4,a5,a6,a7⟩:=hX4.eight
   clear hX4
   go_wp2_with fail
   refine bodyPost_ret (v:=.tuple #[hS [x0,x1,x2,x3,x4,x5,x6,x7],.int .i64 0]) (Sx.results_two (u:=3) Tryz.results47 rfl ?_ rfl) rfl ?_
   ·go_simp
    rfl
   ·have HBX:=upB HB0.out hB14
    exact brR_yes HV.out ((((((((((((HBX).setCell (Nat.le_refl _) _).setCell (Nat.le_refl _) _).setCell (Nat.le_refl _) _).setCell (Nat.le_refl _) _).setCell (Nat.le_refl _) _).setCell (Nat.le_refl _) _).setCell (Nat.le_refl _) _).setCell (Nat.le_refl _) _).setCell (Nat.le_refl _) _).setCell (Nat.le_refl _) _).setCell (Nat.le_refl _) _)
 ·have hyz:(y != 93)=true:=by rw[bne_iff_ne];exact h93
  have HV:Hid (brv l=none):=Lib.hid (by unfold brv;rw[hn,hy,if_neg h93])
  clear hcc hy hr hr1 hE hE1 h0 hn hB0
  obtain⟨k,hk⟩:∃ k,n-1=k:=⟨_,rfl⟩
  rw[hk]at hlast hlt c0
  clear hk
  go_enter Tryz.func47,Tryz.ntmps47
  go_upto_region 1 with fail
  clear hw1
  go_upto_region 3 with fail
  have hb:=HBL.out w1 (Below.refl _ _)
  have e0:w1.cell? ⟨w.heap.size,0,none⟩=some (.int .u8 0):=by simp[World.cell?,hb]
  have f0:w1.frozen? ⟨w.heap.size,0,none⟩=false:=by simp[World.frozen?,hb]
  have e1:w1.cell? ⟨w.heap.size,1,none⟩=some (.string ⟨#[]⟩):=by simp[World.cell?,hb]
  have f1:w1.frozen? ⟨w.heap.size,1,none⟩=false:=by simp[World.frozen?,hb]
  have e2:w1.cell? ⟨w.heap.size,2,none⟩=some (.int .u32 0):=by simp[World.cell?,hb]
  have f2:w1.frozen? ⟨w.heap.size,2,none⟩=false:=by simp[World.frozen?,hb]
  have e3:w1.cell? ⟨w.heap.size,3,none⟩=some (.int .u16 0):=by simp[World.cell?,hb]
  have f3:w1.frozen? ⟨w.heap.size,3,none⟩=false:=by simp[World.frozen?,hb]
  have e4:w1.cell? ⟨w.heap.size,4,none⟩=some (.int .u16 0):=by simp[World.cell?,hb]
  have f4:w1.frozen? ⟨w.heap.size,4,none⟩=false:=by simp[World.frozen?,hb]
  have e5:w1.cell? ⟨w.heap.size,5,none⟩=some (.int .u16 0):=by simp[World.cell?,hb]
  have f5:w1.frozen? ⟨w.heap.size,5,none⟩=false:=by simp[World.frozen?,hb]
  have e6:w1.cell? ⟨w.heap.size,6,none⟩=some (.int .u16 0):=by simp[World.cell?,hb]
  have f6:w1.frozen? ⟨w.heap.size,6,none⟩=false:=by simp[World.frozen?,hb]
  have e7:w1.cell? ⟨w.heap.size,7,none⟩=some (.int .u16 0):=by simp[World.cell?,hb]
  have f7:w1.frozen? ⟨w.heap.size,7,none⟩=false:=by simp[World.frozen?,hb]
  have e8:w1.cell? ⟨w.heap.size,8,none⟩=some (.int .u16 0):=by simp[World.cell?,hb]
  have f8:w1.frozen? ⟨w.heap.size,8,none⟩=false:=by simp[World.frozen?,hb]
  have e9:w1.cell? ⟨w.heap.size,9,none⟩=some (.int .u16 0):=by simp[World.cell?,hb]
  have f9:w1.frozen? ⟨w.heap.size,9,none⟩=false:=by simp[World.frozen?,hb]
  have e10:w1.cell? ⟨w.heap.size,10,none⟩=some (.int .u16 0):=by simp[World.cell?,hb]
  have f10:w1.frozen? ⟨w.heap.size,10,none⟩=false:=by simp[World.frozen?,hb]
  go_wp2_with fail
  refine bodyPost_ret (v:=.tuple #[hV 0 ⟨#[]⟩,.int .i64 31]) (Sx.results_two (u:=3) Tryz.results47 rfl ?_ rfl) rfl ?_
  ·go_simp
   done
  ·have HBX:=HB0.out
   exact brR_no HV.out ((((((((((((HBX).setCell (Nat.le_refl _) _).setCell (Nat.le_refl _) _).setCell (Nat.le_refl _) _).setCell (Nat.le_refl _) _).setCell (Nat.le_refl _) _).setCell (Nat.le_refl _) _).setCell (Nat.le_refl _) _).setCell (Nat.le_refl _) _).setCell (Nat.le_refl _) _).setCell (Nat.le_refl _) _).setCell (Nat.le_refl _) _)
end Go.Proofs.YtkibdkfdffkkfaaGreatDoor.Hst
