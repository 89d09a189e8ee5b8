import Derived.Test.YtediahdedmkehaaGreatDoorPk35
set_option maxRecDepth 100000
set_option maxHeartbeats 8000000
namespace Go.Proofs.YtediahdedmkehaaGreatDoor.Fou
open Go.RowKit Go.Shelf
theorem upB'{w w1 w2:World}(h:Below w.heap.size w w1)(k:Below w1.heap.size w1 w2):Below w.heap.size w w2:=h.trans (k.mono h.size)
theorem and255(a:Nat)(h:a<4294967296):bits .and .u32 (a:Int) 255=((a%256:Nat):Int):=by
 rw[u32_and _ _ (by omega) (by omega) (by decide) (by decide),show (255:Int).toNat=2 ^ 8-1 from rfl,Int.toNat_natCast,Nat.and_two_pow_sub_one_eq_mod]
theorem and255'(a:Nat)(h:a<4294967296):wrap64 (bits .and .u32 (a:Int) 255)=((a%256:Nat):Int):=by
 rw[and255 a h]
 unfold wrap64
 omega
theorem Itoa_digs(n:Nat)(hn:n<=9223372036854775807)(w:World)(hp:PowIs w):Calls Tryz.prog 56 #[.int .i64 (n:Int)] w (Texts (digs 10 n) w):=by
 rw[<-dec_digs]
 exact Itoa_any n hn w hp
theorem info_s:(Tryz.prog.info? 9).map (fun i=>(i.zero,i.size,i.bytes))=some (some (.string ByteArray.empty),1,16):=by kernel_rfl
theorem make4(w:World):(Instr.makeSlice 83 (.int .i64 4) (.int .i64 4)).run Tryz.prog w = .ok (.slice (some ⟨w.heap.size,0,none⟩) 4 4) (w.alloc (.cells #[.string ⟨#[]⟩,.string ⟨#[]⟩,.string ⟨#[]⟩,.string ⟨#[]⟩] 9)):=by
 cases hi:Tryz.prog.info? 9 with
 | none=>have:=info_s;rw[hi]at this;cases this
 | some i =>
  have h:=info_s
  rw[hi]at h
  simp only[Option.map_some,Option.some.injEq,Prod.mk.injEq]at h
  obtain⟨h1,h2,h3⟩:=h
  have:=run_makeSlice (w:=w) 83 9 i _ Tryz.underlying83 hi h1 .i64 .i64 4 4 (by decide) (by decide) (by rw[h2];decide) (by rw[h3];decide) (by decide)
  have hm:madeCells (Value.string ByteArray.empty).cells (Int.toNat 4*1)=#[.string ⟨#[]⟩,.string ⟨#[]⟩,.string ⟨#[]⟩,.string ⟨#[]⟩]:=by
   apply Array.ext'
   rw[show (Value.string ByteArray.empty).cells=#[.string ByteArray.empty] from rfl,toList_madeCells_one]
   rfl
  rw[this,h2,hm]
  rfl
def Four4 (x k h:Nat) (w:World):Prop:=(∀ j,j<4->w.cell? ⟨h,j,none⟩=some (.string (if j<k then bs (digs 10 (byt x j)) else ⟨#[]⟩))/\w.frozen? ⟨h,j,none⟩=false)/\h<w.heap.size
theorem Four4.go{x k h:Nat}{w w':World}(hf:Four4 x k h w)(hb:Below w.heap.size w w'):Four4 x k h w' :=
 ⟨fun j hj=>⟨(hb.cell (p:=⟨h,j,none⟩) hf.2).trans (hf.1 j hj).1,(hb.frozen (p:=⟨h,j,none⟩) hf.2).trans (hf.1 j hj).2⟩,Nat.lt_of_lt_of_le hf.2 hb.size⟩
theorem Four4.step{x k h:Nat}{w:World}(hf:Four4 x k h w)(hk:k<4):Four4 x (k+1) h (w.setCell ⟨h,k,none⟩ (.string (bs (digs 10 (byt x k))))):=by
 refine⟨fun j hj=>⟨?_,by rw[World.frozen?_setCell];exact (hf.1 j hj).2⟩,by simpa[World.setCell] using hf.2⟩
 by_cases hjk:j=k
 ·subst hjk
  rw[if_pos (Nat.lt_succ_self _)]
  exact World.cell?_setCell_same _ _ _ (hf.1 j hj).1
 ·rw[World.cell?_setCell_other _ _ _ _ (by intro e;injection e;omega),(hf.1 j hj).1]
  by_cases hlt:j<k
  ·rw[if_pos hlt,if_pos (by omega)]
  ·rw[if_neg hlt,if_neg (by omega)]
theorem Four4.new(x:Nat)(w:World):Four4 x 0 w.heap.size (w.alloc (.cells #[.string ⟨#[]⟩,.string ⟨#[]⟩,.string ⟨#[]⟩,.string ⟨#[]⟩] 9)):=by
 refine⟨fun j hj => ?_,by simp⟩
 have hn:=World.alloc_heap_new w (.cells #[.string ⟨#[]⟩,.string ⟨#[]⟩,.string ⟨#[]⟩,.string ⟨#[]⟩] 9)
 rw[if_neg (by omega)]
 have hjs:j=0∨j=1∨j=2∨j=3:=by omega
 rcases hjs with rfl|rfl|rfl|rfl<;>exact⟨by rw[World.cell?,hn];rfl,by rw[World.frozen?,hn];rfl⟩
theorem Join_four(x h:Nat)(w:World)(hf:Four4 x 4 h w):Calls Tryz.prog 57 #[.slice (some ⟨h,0,none⟩) 4 4,.string ⟨#[46]⟩] w (Texts (shw x) w):=by
 have hm:([bs (digs 10 (byt x 0)),bs (digs 10 (byt x 1)),bs (digs 10 (byt x 2)),bs (digs 10 (byt x 3))]).map dl=bts x:=by
  simp only[List.map_cons,List.map_nil,dl,bs_data]
  rfl
 have:=Join_any h 4 [bs (digs 10 (byt x 0)),bs (digs 10 (byt x 1)),bs (digs 10 (byt x 2)),bs (digs 10 (byt x 3))] w (fun j y hy=>by
  have hj:j<4:=by
   have:=(List.getElem?_eq_some_iff.1 hy).1
   simpa using this
  have hc:=(hf.1 j hj).1
  rw[if_pos hj]at hc
  rw[hc]
  have hjs:j=0∨j=1∨j=2∨j=3:=by omega
  rcases hjs with rfl|rfl|rfl|rfl<;>exact congrArg (fun z=>some (Value.string z)) (Option.some.inj hy)) hf.2 (by simp) (Nat.le_refl _) (by rw[hm];exact Nat.le_trans (shw_len x) (by decide))
 rw[hm]at this
 exact this
theorem Show_any(x:Nat)(hx:x<4294967296)(w:World)(hp:PowIs w):Calls Tryz.prog 22 #[.int .u32 (x:Int)] w (Texts (shw x) w):=by
 have HP:=Lib.hid hp
 have hxi:(x:Int)<4294967296:=by omega
 have HV0:Hid (wrap64 (bits .and .u32 ((x:Int)/16777216) 255)=(byt x 0:Int)):=Lib.hid (and255' (x/16777216) (by omega))
 have HV1:Hid (wrap64 (bits .and .u32 ((x:Int)/65536) 255)=(byt x 1:Int)):=Lib.hid (and255' (x/65536) (by omega))
 have HV2:Hid (wrap64 (bits .and .u32 ((x:Int)/256) 255)=(byt x 2:Int)):=Lib.hid (and255' (x/256) (by omega))
 have HV3:Hid (wrap64 (bits .and .u32 (x:Int) 255)=(byt x 3:Int)):=Lib.hid ((and255' x hx).trans (by unfold byt;simp))
 have HM:=Lib.hid make4
 clear hp hx
 go_enter Tryz.func22,Tryz.ntmps22
 have hm:=HM.out w
 go_wp2_with fail
 clear hm
 go_loopg [9] 4 (fun m s9 wr => ∃ k:Nat,s9 = .int .i64 (k:Int)/\m=4-k/\k<=4/\Four4 x k w.heap.size wr/\Below w.heap.size w wr)
 case atStart=>exact⟨0,rfl,rfl,by decide,Four4.new x w,(Below.refl _ w).alloc (Nat.le_refl _) _⟩
 case round =>
  obtain⟨k,rfl,rfl,hk,hF,hB⟩:=hrel
  have hks:k=4∨k=0∨k=1∨k=2∨k=3:=by omega
  rcases hks with rfl|rfl|rfl|rfl|rfl
  ·have HF:=Lib.hid hF
   clear hF
   go_wp2_with fail
   refine (Join_four x _ _ HF.out).mono ?_
   rintro e w1 ⟨rfl,hB1⟩
   go_wp2_with fail
   go_ret
   exact⟨rfl,upB' hB hB1⟩
  ·obtain⟨hc,hf⟩:=hF.1 0 (by decide)
   have HF:=Lib.hid hF
   clear hF hc hf
   go_wp2_with fail
   rw[HV0.out]
   refine (Itoa_digs (byt x 0) (by have:=byt_lt x 0;omega) _ (HP.out.go hB)).mono ?_
   rintro e w1 ⟨rfl,hB1⟩
   have hF1:=HF.out.go hB1
   obtain⟨hc,hf⟩:=hF1.1 0 (by decide)
   have HF1:=Lib.hid hF1
   clear hF1
   go_wp2_with fail
   go_roundg 3
   case measure=>omega
   case rel=>exact⟨0+1,by go_num,rfl,by decide,HF1.out.step (by decide),(upB' hB hB1).setCell (p:=⟨w.heap.size,0,none⟩) (Nat.le_refl _) _⟩
  ·obtain⟨hc,hf⟩:=hF.1 1 (by decide)
   have HF:=Lib.hid hF
   clear hF hc hf
   go_wp2_with fail
   rw[HV1.out]
   refine (Itoa_digs (byt x 1) (by have:=byt_lt x 1;omega) _ (HP.out.go hB)).mono ?_
   rintro e w1 ⟨rfl,hB1⟩
   have hF1:=HF.out.go hB1
   obtain⟨hc,hf⟩:=hF1.1 1 (by decide)
   have HF1:=Lib.hid hF1
   clear hF1
   go_wp2_with fail
   go_roundg 2
   case measure=>omega
   case rel=>exact⟨1+1,by go_num,rfl,by decide,HF1.out.step (by decide),(upB' hB hB1).setCell (p:=⟨w.heap.size,1,none⟩) (Nat.le_refl _) _⟩
  ·obtain⟨hc,hf⟩:=hF.1 2 (by decide)
   have HF:=Lib.hid hF
   clear hF hc hf
   go_wp2_with fail
   rw[HV2.out]
   refine (Itoa_digs (byt x 2) (by have:=byt_lt x 2;omega) _ (HP.out.go hB)).mono ?_
   rintro e w1 ⟨rfl,hB1⟩
   have hF1:=HF.out.go hB1
   obtain⟨hc,hf⟩:=hF1.1 2 (by decide)
   have HF1:=Lib.hid hF1
   clear hF1
   go_wp2_with fail
   go_roundg 1
   case measure=>omega
   case rel=>exact⟨2+1,by go_num,rfl,by decide,HF1.out.step (by decide),(upB' hB hB1).setCell (p:=⟨w.heap.size,2,none⟩) (Nat.le_refl _) _⟩
  ·obtain⟨hc,hf⟩:=hF.1 3 (by decide)
   have HF:=Lib.hid hF
   clear hF hc hf
   go_wp2_with fail
   rw[HV3.out]
   refine (Itoa_digs (byt x 3) (by have:=byt_lt x 3;omega) _ (HP.out.go hB)).mono ?_
   rintro e w1 ⟨rfl,hB1⟩
   have hF1:=HF.out.go hB1
   obtain⟨hc,hf⟩:=hF1.1 3 (by decide)
   have HF1:=Lib.hid hF1
   clear hF1
   go_wp2_with fail
   go_roundg 0
   case measure=>omega
   case rel=>exact⟨3+1,by go_num,rfl,by decide,HF1.out.step (by decide),(upB' hB hB1).setCell (p:=⟨w.heap.size,3,none⟩) (Nat.le_refl _) _⟩
end Go.Proofs.YtediahdedmkehaaGreatDoor.Fou
