import Derived.Test.YtkibdkfdffkkfaaGreatDoorPk42
set_option maxRecDepth 100000
set_option maxHeartbeats 8000000
namespace Go.Proofs.YtkibdkfdffkkfaaGreatDoor.Rul
open Go.RowKit Ucd
def dirC:List Value:=[.int .u32 6,.int .u32 9214,.int .u32 78,.int .u32 1,.int .u32 9145,.int .u32 9]
theorem cells_new(w:World)(xs:Array Value)(t:TypeId)(k:Nat):(w.alloc (.cells xs t)).cell? ⟨w.heap.size,k,none⟩=xs[k]?:=by
 rw[cell_of_row _ _ _ xs t (0,0) (World.alloc_heap_new w _)]
def DirW (w:World) (e:Ending) (w':World):Prop:=e = .returned (.slice (some ⟨w.heap.size,0,none⟩) 2 2)/\w'=w.alloc (.cells dirC.toArray 328)
theorem dirs_any(w:World):Calls Tryz.prog 294 #[] w (DirW w):=by
 go_enter Tryz.func294,Tryz.ntmps294
 go_wp2
 go_ret
 exact⟨rfl,rfl⟩
theorem dir_cell{w W:World}{k:Nat}{v:Value}(hv:dirC[k]? = some v)(hB:Below (w.alloc (.cells dirC.toArray 328)).heap.size (w.alloc (.cells dirC.toArray 328)) W):W.cell? ⟨w.heap.size,k,none⟩=some v:=by
 rw[hB.cell (p:=⟨w.heap.size,k,none⟩) (by simp),cells_new,List.getElem?_toArray,hv]
theorem vio_10{ins lst:Int}{l:List Int}(h:l.all (hb ins)=false):vio ins lst (l.map bc)=10:=by
 rw[all_hb]at h
 unfold vio;rw[if_pos h]
theorem vio_11{ins lst:Int}{l:List Int}(h:l.all (hb ins)=true)(h2:hs lst (lastC (l.map bc))=false):vio ins lst (l.map bc)=11:=by
 rw[all_hb]at h
 unfold vio;rw[if_neg (by rw[h];decide),if_pos h2]
theorem vio_x{ins lst:Int}{l:List Int}(h:l.all (hb ins)=true)(h2:hs lst (lastC (l.map bc))=true):vio ins lst (l.map bc)=if (l.any (hb 8)&&l.any (hb 64))=true then 12 else 0:=by
 rw[all_hb]at h
 unfold vio;rw[if_neg (by rw[h];decide),if_neg (by rw[h2];decide),any_hb,any_hb]
theorem chk_6{l:List Int}(h:fstB 6 l=true):chk l=vio 9214 78 (l.map bc):=by
 cases l with
 | nil=>cases h
 | cons r t=>exact if_pos h
theorem chk_1{l:List Int}(h:fstB 6 l=false)(h1:fstB 1 l=true):chk l=vio 9145 9 (l.map bc):=by
 cases l with
 | nil=>cases h1
 | cons r t =>
  show (if hs 6 (bc r)=true then _ else _)=_
  rw[if_neg (by rw[show hs 6 (bc r)=false from h];decide)]
  exact if_pos h1
theorem chk_9{l:List Int}(h:fstB 6 l=false)(h1:fstB 1 l=false):chk l=9:=by
 cases l with
 | nil=>rfl
 | cons r t =>
  show (if hs 6 (bc r)=true then _ else _)=_
  rw[if_neg (by rw[show hs 6 (bc r)=false from h];decide)]
  exact if_neg (by rw[show hs 1 (bc r)=false from h1];decide)
theorem violated_any(f ins lst:Int)(hi0:0<=ins)(hi1:ins<4294967296)(hl0:0<=lst)(hl1:lst<4294967296)(h8:hs lst 8=false)(l:List Int)(A:Option Addr)(n c:Nat)(w:World)(hn:l.length=n)(hn1:n<=1000000)(hr:Row w w.heap.size A (cl .i32 l)):Calls Tryz.prog 296 #[.agg #[.int .u32 f,.int .u32 ins,.int .u32 lst],.slice A n c] w (Tells (.int .u8 (vio ins lst (l.map bc))) w):=by
 have HA:=Lib.hid (fun W (h:Below w.heap.size w W)=>all_any ins hi0 hi1 l A n c W hn hn1 (upR hr h))
 have HE:=Lib.hid (fun W (h:Below w.heap.size w W)=>ends_any lst hl0 hl1 h8 l A n c W hn hn1 (upR hr h))
 have H3:=Lib.hid (fun W (h:Below w.heap.size w W)=>Contains_has 8 (by decide) (by decide) l A n c W hn hn1 (upR hr h))
 have H6:=Lib.hid (fun W (h:Below w.heap.size w W)=>Contains_has 64 (by decide) (by decide) l A n c W hn hn1 (upR hr h))
 have V0:=Lib.hid (@vio_10 ins lst l)
 have V1:=Lib.hid (@vio_11 ins lst l)
 have V2:=Lib.hid (@vio_x ins lst l)
 generalize vio ins lst (l.map bc)=v at V0 V1 V2 ⊢
 generalize l.all (hb ins)=q1 at HA V0 V1 V2
 generalize hs lst (lastC (l.map bc))=q2 at HE V1 V2
 generalize l.any (hb 8)=q3 at H3 V2
 generalize l.any (hb 64)=q4 at H6 V2
 clear hi0 hi1 hl0 hl1 h8 hn hn1 hr
 have hW:=upA w (.cells #[.int .u32 f,.int .u32 ins,.int .u32 lst] 328)
 have b1:(w.alloc (.cells #[.int .u32 f,.int .u32 ins,.int .u32 lst] 328)).heap[w.heap.size]? = some (.cells #[.int .u32 f,.int .u32 ins,.int .u32 lst] 328 (0,0)):=World.alloc_heap_new w _
 have hz:(w.alloc (.cells #[.int .u32 f,.int .u32 ins,.int .u32 lst] 328)).heap.size=w.heap.size+1:=by simp
 cases q1 with
 | false =>
  obtain rfl:=V0.out rfl
  clear V1 V2
  go_enter Tryz.func296,Tryz.ntmps296
  go_wp2_with(first|(go_at_call 331;refine (HA.out _ hW).mono ?_;rintro e w1 ⟨rfl,hB1⟩;have hW1:=upB hW hB1)|fail)
  go_ret
  exact⟨rfl,hW1⟩
 | true =>
  have V1':=Lib.hid (V1.out rfl)
  have V2':=Lib.hid (V2.out rfl)
  clear V0 V1 V2
  cases q2 with
  | false =>
   obtain rfl:=V1'.out rfl
   clear V2'
   go_enter Tryz.func296,Tryz.ntmps296
   go_upto_region 3 with(first|(go_at_call 331;refine (HA.out _ hW).mono ?_;rintro e w1 ⟨rfl,hB1⟩;have hW1:=upB hW hB1)|fail)
   have b2:=(hB1.block w.heap.size (by rw[hz];omega)).trans b1
   have c2:w1.cell? ⟨w.heap.size,2,none⟩=some (.int .u32 lst):=by simp[World.cell?,b2]
   go_wp2_with(first|(go_at_call 332;refine (HE.out _ hW1).mono ?_;rintro e w2 ⟨rfl,hB2⟩;have hW2:=upB hW1 hB2)|fail)
   go_ret
   exact⟨rfl,hW2⟩
  | true =>
   have V3:=Lib.hid (V2'.out rfl)
   clear V1' V2'
   cases q3 with
   | false =>
    obtain rfl:v=0:=V3.out
    go_enter Tryz.func296,Tryz.ntmps296
    go_upto_region 3 with(first|(go_at_call 331;refine (HA.out _ hW).mono ?_;rintro e w1 ⟨rfl,hB1⟩;have hW1:=upB hW hB1)|fail)
    have b2:=(hB1.block w.heap.size (by rw[hz];omega)).trans b1
    have c2:w1.cell? ⟨w.heap.size,2,none⟩=some (.int .u32 lst):=by simp[World.cell?,b2]
    go_wp2_with(first
     | (go_at_call 332;refine (HE.out _ hW1).mono ?_;rintro e w2 ⟨rfl,hB2⟩;have hW2:=upB hW1 hB2)
     | (go_at_call 90;refine (H3.out _ hW2).mono ?_;rintro e w3 ⟨rfl,hB3⟩;have hW3:=upB hW2 hB3)
     | fail)
    go_ret
    exact⟨rfl,hW3⟩
   | true =>
    cases q4 with
    | false =>
     obtain rfl:v=0:=V3.out
     go_enter Tryz.func296,Tryz.ntmps296
     go_upto_region 3 with(first|(go_at_call 331;refine (HA.out _ hW).mono ?_;rintro e w1 ⟨rfl,hB1⟩;have hW1:=upB hW hB1)|fail)
     have b2:=(hB1.block w.heap.size (by rw[hz];omega)).trans b1
     have c2:w1.cell? ⟨w.heap.size,2,none⟩=some (.int .u32 lst):=by simp[World.cell?,b2]
     go_wp2_with(first
      | (go_at_call 332;refine (HE.out _ hW1).mono ?_;rintro e w2 ⟨rfl,hB2⟩;have hW2:=upB hW1 hB2)
      | (go_at_call 90;refine (H6.out _ hW3).mono ?_;rintro e w4 ⟨rfl,hB4⟩;have hW4:=upB hW3 hB4)
      | (go_at_call 90;refine (H3.out _ hW2).mono ?_;rintro e w3 ⟨rfl,hB3⟩;have hW3:=upB hW2 hB3)
      | fail)
     go_ret
     exact⟨rfl,hW4⟩
    | true =>
     obtain rfl:v=12:=V3.out
     go_enter Tryz.func296,Tryz.ntmps296
     go_upto_region 3 with(first|(go_at_call 331;refine (HA.out _ hW).mono ?_;rintro e w1 ⟨rfl,hB1⟩;have hW1:=upB hW hB1)|fail)
     have b2:=(hB1.block w.heap.size (by rw[hz];omega)).trans b1
     have c2:w1.cell? ⟨w.heap.size,2,none⟩=some (.int .u32 lst):=by simp[World.cell?,b2]
     go_wp2_with(first
      | (go_at_call 332;refine (HE.out _ hW1).mono ?_;rintro e w2 ⟨rfl,hB2⟩;have hW2:=upB hW1 hB2)
      | (go_at_call 90;refine (H6.out _ hW3).mono ?_;rintro e w4 ⟨rfl,hB4⟩;have hW4:=upB hW3 hB4)
      | (go_at_call 90;refine (H3.out _ hW2).mono ?_;rintro e w3 ⟨rfl,hB3⟩;have hW3:=upB hW2 hB3)
      | fail)
     go_ret
     exact⟨rfl,hW4⟩
theorem Bidi_any(l:List Int)(A:Option Addr)(n c:Nat)(w:World)(hn:l.length=n)(hn1:n<=1000000)(hr:Row w w.heap.size A (cl .i32 l)):Calls Tryz.prog 253 #[.slice A n c] w (IsB (bid l) w):=by
 have HI:=Lib.hid (Contains_has 70 (by decide) (by decide) l A n c w hn hn1 hr)
 rw[any_hb]at HI
 unfold bid bidC
 generalize (l.map bc).any (hs 70)=q at HI ⊢
 clear hn hr
 go_enter Tryz.func253,Tryz.ntmps253
 go_wp2_with(first|(go_at_call 90;refine HI.out.mono ?_;rintro e w1 ⟨rfl,hB1⟩)|fail)
 go_ret
 exact⟨rfl,hB1⟩
theorem Check_any(l:List Int)(A:Option Addr)(n c:Nat)(w:World)(hn:l.length=n)(hn1:n<=1000000)(hr:Row w w.heap.size A (cl .i32 l)):Calls Tryz.prog 254 #[.slice A n c] w (Tells (.int .u8 (chk l)) w):=by
 have HT:=Lib.hid (dirs_any w)
 have HG6:=Lib.hid (fun W (h:Below w.heap.size w W)=>begins_any 6 (by decide) (by decide) l A n c W hn (upR hr h))
 have HG1:=Lib.hid (fun W (h:Below w.heap.size w W)=>begins_any 1 (by decide) (by decide) l A n c W hn (upR hr h))
 have HV6:=Lib.hid (fun W (h:Below w.heap.size w W)=>violated_any 6 9214 78 (by decide) (by decide) (by decide) (by decide) (by decide +kernel) l A n c W hn hn1 (upR hr h))
 have HV1:=Lib.hid (fun W (h:Below w.heap.size w W)=>violated_any 1 9145 9 (by decide) (by decide) (by decide) (by decide) (by decide +kernel) l A n c W hn hn1 (upR hr h))
 have K6:=Lib.hid (@chk_6 l)
 have K1:=Lib.hid (@chk_1 l)
 have K9:=Lib.hid (@chk_9 l)
 generalize chk l=v at K6 K1 K9 ⊢
 generalize vio 9214 78 (l.map bc)=v6 at HV6 K6
 generalize vio 9145 9 (l.map bc)=v1 at HV1 K1
 generalize fstB 6 l=q6 at HG6 K6 K1 K9
 generalize fstB 1 l=q1 at HG1 K1 K9
 clear hn hn1 hr
 go_enter Tryz.func254,Tryz.ntmps254
 go_wp2_with(first|(go_at_call 294;refine HT.out.mono ?_;rintro e w1 ⟨rfl,rfl⟩)|fail)
 go_loopg [7] 2 (fun m s7 wr => ∃ k:Nat,s7 = .int .i64 (k:Int)/\m=2-k/\k<=2/\Hid (0<k->q6=false)/\Hid (1<k->q1=false)/\Below (w.alloc (.cells dirC.toArray 328)).heap.size (w.alloc (.cells dirC.toArray 328)) wr)
 case atStart=>exact⟨0,rfl,rfl,Nat.zero_le _,Lib.hid (fun h=>absurd h (by omega)),Lib.hid (fun h=>absurd h (by omega)),Below.refl _ _⟩
 case round =>
  clear HT
  obtain⟨k,rfl,rfl,hk,HN6,HN1,hB⟩:=hrel
  have hk3:k=0∨k=1∨k=2:=by omega
  rcases hk3 with rfl|rfl|rfl
  ·have c0:=dir_cell (k:=0) (v:=.int .u32 6) rfl hB
   have c1:=dir_cell (k:=1) (v:=.int .u32 9214) rfl hB
   have c2:=dir_cell (k:=2) (v:=.int .u32 78) rfl hB
   go_upto_region 4 with fail
   have hX:=World.alloc_heap_new wr (.cells #[.int .u32 6,.int .u32 9214,.int .u32 78] 328)
   have hB1:=hB.alloc hB.size (.cells #[.int .u32 6,.int .u32 9214,.int .u32 78] 328)
   have hXl:wr.heap.size<(wr.alloc (.cells #[.int .u32 6,.int .u32 9214,.int .u32 78] 328)).heap.size:=by simp
   generalize wr.alloc (.cells #[.int .u32 6,.int .u32 9214,.int .u32 78] 328)=W1 at hX hB1 hXl ⊢
   generalize wr.heap.size=X at hX hXl ⊢
   have x0:W1.cell? ⟨X,0,none⟩=some (.int .u32 6):=by simp[World.cell?,hX]
   clear c0 c1 c2 hB
   have hK:Below w.heap.size w W1:=upB (upA w _) hB1
   cases q6 with
   | true =>
    go_upto_region 5 with(first|(go_at_call 295;refine (HG6.out _ hK).mono ?_;rintro e w2 ⟨rfl,hB2⟩)|fail)
    have hX2:=(hB2.block X hXl).trans hX
    have hK2:=upB hK hB2
    have y0:w2.cell? ⟨X,0,none⟩=some (.int .u32 6):=by simp[World.cell?,hX2]
    have y1:w2.cell? ⟨X,1,none⟩=some (.int .u32 9214):=by simp[World.cell?,hX2]
    have y2:w2.cell? ⟨X,2,none⟩=some (.int .u32 78):=by simp[World.cell?,hX2]
    clear x0
    go_wp2_with(first|(go_at_call 296;refine (HV6.out _ hK2).mono ?_;rintro e w3 ⟨rfl,hB3⟩)|fail)
    go_ret
    exact⟨by rw[K6.out (by first|rfl|trivial)];rfl,upB hK2 hB3⟩
   | false =>
    go_wp2_with(first|(go_at_call 295;refine (HG6.out _ hK).mono ?_;rintro e w2 ⟨rfl,hB2⟩)|fail)
    go_roundg (2-(0+1))
    case measure=>omega
    case rel=>exact⟨0+1,by go_num,rfl,by omega,Lib.hid (fun _=>(by first|rfl|trivial)),Lib.hid (fun h=>absurd h (by omega)),upB hB1 hB2⟩
  ·have c0:=dir_cell (k:=3) (v:=.int .u32 1) rfl hB
   have c1:=dir_cell (k:=4) (v:=.int .u32 9145) rfl hB
   have c2:=dir_cell (k:=5) (v:=.int .u32 9) rfl hB
   go_upto_region 4 with fail
   have hX:=World.alloc_heap_new wr (.cells #[.int .u32 1,.int .u32 9145,.int .u32 9] 328)
   have hB1:=hB.alloc hB.size (.cells #[.int .u32 1,.int .u32 9145,.int .u32 9] 328)
   have hXl:wr.heap.size<(wr.alloc (.cells #[.int .u32 1,.int .u32 9145,.int .u32 9] 328)).heap.size:=by simp
   generalize wr.alloc (.cells #[.int .u32 1,.int .u32 9145,.int .u32 9] 328)=W1 at hX hB1 hXl ⊢
   generalize wr.heap.size=X at hX hXl ⊢
   have x0:W1.cell? ⟨X,0,none⟩=some (.int .u32 1):=by simp[World.cell?,hX]
   clear c0 c1 c2 hB
   have hK:Below w.heap.size w W1:=upB (upA w _) hB1
   cases q1 with
   | true =>
    go_upto_region 5 with(first|(go_at_call 295;refine (HG1.out _ hK).mono ?_;rintro e w2 ⟨rfl,hB2⟩)|fail)
    have hX2:=(hB2.block X hXl).trans hX
    have hK2:=upB hK hB2
    have y0:w2.cell? ⟨X,0,none⟩=some (.int .u32 1):=by simp[World.cell?,hX2]
    have y1:w2.cell? ⟨X,1,none⟩=some (.int .u32 9145):=by simp[World.cell?,hX2]
    have y2:w2.cell? ⟨X,2,none⟩=some (.int .u32 9):=by simp[World.cell?,hX2]
    clear x0
    go_wp2_with(first|(go_at_call 296;refine (HV1.out _ hK2).mono ?_;rintro e w3 ⟨rfl,hB3⟩)|fail)
    go_ret
    exact⟨by rw[K1.out (HN6.out (by omega)) (by first|rfl|trivial)];rfl,upB hK2 hB3⟩
   | false =>
    go_wp2_with(first|(go_at_call 295;refine (HG1.out _ hK).mono ?_;rintro e w2 ⟨rfl,hB2⟩)|fail)
    go_roundg (2-(1+1))
    case measure=>omega
    case rel=>exact⟨1+1,by go_num,rfl,by omega,Lib.hid (fun _=>HN6.out (by omega)),Lib.hid (fun h=>(by first|rfl|trivial)),upB hB1 hB2⟩
  ·go_wp2_with fail
   go_ret
   exact⟨by rw[K9.out (HN6.out (by omega)) (HN1.out (by omega))];rfl,upB (upA w _) hB⟩
end Go.Proofs.YtkibdkfdffkkfaaGreatDoor.Rul
