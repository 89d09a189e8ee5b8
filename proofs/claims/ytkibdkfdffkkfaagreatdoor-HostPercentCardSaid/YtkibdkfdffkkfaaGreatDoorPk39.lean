import Derived.Test.YtkibdkfdffkkfaaGreatDoorPk02
import Derived.Deep.LoopGhost
set_option maxRecDepth 100000
set_option maxHeartbeats 8000000
namespace Go.Proofs.YtkibdkfdffkkfaaGreatDoor.Fou
open Go.RowKit
theorem conv_bytes(s:ByteArray)(w:World):∃ (W':World) (c:Nat),(convert 9 40 (.string s)).run Tryz.prog w = .ok (.slice (some ⟨w.heap.size,0,none⟩) s.size c) W'/\Below w.heap.size w W' /\
  ∀ k (h:k<s.data.toList.length),W'.cell? ⟨w.heap.size,k,none⟩=some (.int .u8 ((s.data.toList[k].toNat:Nat):Int)):=by
 refine⟨_,_,run_bytes_of_string w 9 40 5 s Tryz.underlying9 Tryz.underlying40 Tryz.underlying5, ?_,fun k h => ?_⟩
 ·exact ((Below.refl w.heap.size w).drew).alloc (Nat.le_refl _) _
 ·have hb:(w.drew.alloc (.cells (bytesRow s (grownCap w s.size 0 5)) 5 ((bytesRow s (grownCap w s.size 0 5)).size,(bytesRow s (grownCap w s.size 0 5)).size+1))).heap[w.heap.size]? = some (.cells (bytesRow s (grownCap w s.size 0 5)) 5 ((bytesRow s (grownCap w s.size 0 5)).size,(bytesRow s (grownCap w s.size 0 5)).size+1)):=by
   show (w.heap.push _)[w.heap.size]? = _
   simp
  simp only[World.cell?,hb]
  have hk:k<s.data.size:=by simpa using h
  have hk2:k<s.size:=hk
  simp[bytesRow,Array.getElem?_append,hk2]
def NumR (o:Option Nat) (w:World) (e:Ending) (w':World):Prop:=(e=match o with|some n => .returned (.tuple #[.int .u64 (n:Int),.bool true])|none => .returned (.tuple #[.int .u64 0,.bool false]))/\Below w.heap.size w w'
theorem take_snoc{α:Type}{l:List α}{k:Nat}(h:k<l.length):l.take (k+1)=l.take k++[l[k]]:=List.take_succ_eq_append_getElem h
theorem numR_some{o:Option Nat}{n:Nat}{w w':World}(h:o=some n)(hB:Below w.heap.size w w'):NumR o w (.returned (.tuple #[.int .u64 (n:Int),.bool true])) w':=⟨by rw[h],hB⟩
theorem numR_none{o:Option Nat}{w w':World}(h:o=none)(hB:Below w.heap.size w w'):NumR o w (.returned (.tuple #[.int .u64 0,.bool false])) w':=⟨by rw[h],hB⟩
theorem vgo_none_take{b:Nat}{l:List UInt8}{k m:Nat}(hk:k<l.length)(h:vgo b 0 (l.take k)=some m)(hd:¬ dv l[k]<b):val b l=none:=by
 have e:l=l.take k++(l[k]::l.drop (k+1)):=by rw[<-List.drop_eq_getElem_cons hk,List.take_append_drop]
 unfold val
 rw[e,vgo_app,h]
 show vgo b m (l[k]::_)=none
 rw[vgo,if_neg hd]
theorem vgo_some_take{b:Nat}{l:List UInt8}{k m:Nat}(hk:k<l.length)(h:vgo b 0 (l.take k)=some m)(hd:dv l[k]<b):vgo b 0 (l.take (k+1))=some (cap (m*b+dv l[k])):=by
 rw[take_snoc hk,vgo_snoc,h]
 show (if dv l[k]<b then some _ else none)=_
 rw[if_pos hd]
theorem value_any(s:ByteArray)(b:Nat)(w:World)(hs:s.size<=1000000)(hb:1<=b/\b<=16) :
  Calls Tryz.prog 60 #[.string s,.int .u64 (b:Int)] w (NumR (val b (dl s)) w):=by
 obtain⟨hb1,hb2⟩:=hb
 have hz:(dl s).length=s.size:=by simp[dl]
 have HZ:=Lib.hid hz
 clear hz
 go_enter Tryz.func60,Tryz.ntmps60
 go_wp2_with fail
 refine (digitOf_any b w).mono ?_
 rintro e w1 ⟨rfl,hw1⟩
 have hB1:Below w.heap.size w w1:=by rw[hw1];exact (Below.refl _ w).alloc (Nat.le_refl _) _
 have hlt:w.heap.size<w1.heap.size:=by rw[hw1];simp
 have hc1:w1.cell? ⟨w.heap.size,0,none⟩=some (.int .u64 (b:Int)):=by
  rw[hw1,cell_of_row _ _ _ _ _ (0,0) (World.alloc_heap_new w _)]
  rfl
 clear hw1
 obtain⟨W',c,hrun,hB2,hcells⟩:=conv_bytes s w1
 have hB3:=hB1.trans (hB2.mono hB1.size)
 have hc2:W'.cell? ⟨w.heap.size,0,none⟩=some (.int .u64 (b:Int)):=(hB2.cell (p:=⟨w.heap.size,0,none⟩) hlt).trans hc1
 have hlt2:=Nat.lt_of_lt_of_le hlt hB2.size
 have hlt1:w1.heap.size<W'.heap.size∨s.size=0:=by
  by_cases h0:s.size=0
  ·exact .inr h0
  ·left
   have:=hcells 0 (by rw[<-Lib.size_eq];omega)
   refine Nat.lt_of_not_le fun h => ?_
   rw[World.cell?,Array.getElem?_eq_none (by simpa using h)]at this
   cases this
 have HC:=Lib.hid hcells
 clear hcells hc1 hB1 hB2 hlt
 go_wp2
 go_loopg [6,17] s.size (fun m s6 s17 wr => ∃ k n:Nat,s17 = .int .i64 (k:Int)/\s6 = .int .u64 (n:Int)/\m=s.size-k/\k<=s.size/\n<=4294967296/\Hid (vgo b 0 ((dl s).take k)=some n)/\Below W'.heap.size W' wr)
 case atStart=>exact⟨0,0,rfl,rfl,rfl,Nat.zero_le _,by decide,Lib.hid rfl,Below.refl _ _⟩
 case round =>
  obtain⟨k,n,rfl,rfl,rfl,hk,hn,HV,hBr⟩:=hrel
  by_cases hlt:k<s.size
  ·have hkl:k<(dl s).length:=by rw[HZ.out];exact hlt
   have c0:=HC.out k hkl
   have hb':w1.heap.size<W'.heap.size:=by rcases hlt1 with h|h;exact h;omega
   have c1:wr.cell? ⟨w1.heap.size,k,none⟩=_:=(hBr.cell (p:=⟨w1.heap.size,k,none⟩) hb').trans c0
   have c2:wr.cell? ⟨w.heap.size,0,none⟩=_:=(hBr.cell (p:=⟨w.heap.size,0,none⟩) hlt2).trans hc2
   have hno:=vgo_none_take hkl HV.out
   have hso:=vgo_some_take hkl HV.out
   clear c0
   change wr.cell? ⟨w1.heap.size,k,none⟩=some (.int .u8 (((dl s)[k].toNat:Nat):Int)) at c1
   generalize (dl s)[k]=x at c1 hno hso
   have HD:=Lib.hid (digit_any b hb2 x w.heap.size wr c2)
   have HN:=Lib.hid hno
   have HS:=Lib.hid hso
   clear hno hso c2 hrun
   have hltz:(k:Int)<(s.size:Int):=by omega
   by_cases hd:dv x<b
   ·have hnb:n*b<=4294967296*16:=Nat.mul_le_mul hn hb2
    have hm:((n:Int)*(b:Int))=((n*b:Nat):Int):=by simp
    obtain⟨p,hp⟩:∃ p,n*b=p:=⟨_,rfl⟩
    have HS1:=Lib.hid (HS.out hd)
    rw[hp]at hnb hm HS1
    have HDT:=Lib.hid hd
    clear hp hd
    go_wp2_with fail
    refine HD.out.mono ?_
    rintro e w3 ⟨⟨d,hd,rfl,hdv⟩,hB4⟩
    rw[decide_eq_true HDT.out]
    obtain rfl:=hdv HDT.out
    clear hdv
    go_wp2
    all_goals
     go_roundg (s.size-(k+1))
     case measure=>omega
     case rel =>
      refine⟨k+1,cap (p+dv x),by go_num, ?_,rfl,by omega,cap_le _,HS1,hBr.trans (hB4.mono hBr.size)⟩
      first
      | (rw[show cap (p+dv x)=p+dv x from Nat.min_eq_left (by omega)];go_num)
      | (rw[show cap (p+dv x)=4294967296 from Nat.min_eq_right (by omega)];rfl)
   ·have HDF:=Lib.hid hd
    clear hd
    go_wp2_with fail
    refine HD.out.mono ?_
    rintro e w3 ⟨⟨d,hd,rfl,hdv⟩,hB4⟩
    rw[decide_eq_false HDF.out]
    clear hdv
    go_wp2
    go_ret2
    exact numR_none (HN.out HDF.out) (hB3.trans ((hBr.mono (Nat.le_of_lt (Nat.lt_of_lt_of_le (Nat.lt_succ_self _) hlt2))).trans (hB4.mono (Nat.le_trans (Nat.le_of_lt hlt2) hBr.size))))
  ·obtain rfl:k=s.size:=by omega
   have hltz:¬ ((s.size:Int)<(s.size:Int)):=by omega
   have HV2:Hid (val b (dl s)=some n):=Lib.hid (by
    have:=HV.out
    rwa [List.take_of_length_le (by rw[HZ.out];exact Nat.le_refl _)]at this)
   go_wp2
   go_ret2
   exact numR_some HV2.out (hB3.trans (hBr.mono (Nat.le_of_lt hlt2)))
theorem Number_any(s:ByteArray)(w:World)(hs:s.size<=1000000):Calls Tryz.prog 61 #[.string s] w (NumR (num (dl s)) w):=by
 by_cases h0:dl s=[]
 ·have h1:s.toList=[]:=by rw[ByteArray.toList_eq];exact h0
  have h2:s.toList.isEmpty=true:=by rw[h1];rfl
  have hn:num (dl s)=none:=if_pos h0
  have HN:=Lib.hid hn
  clear hn h0
  go_enter Tryz.func61,Tryz.ntmps61
  go_wp2_with fail
  go_ret2
  exact numR_none HN.out (Below.refl _ _)
 ·have h1:s.toList≠[]:=by rw[ByteArray.toList_eq];exact h0
  have h2:s.toList.isEmpty=false:=by rw[List.isEmpty_eq_false_iff];exact h1
  have hn:num (dl s)=val (dgs (dl s)).2 (dgs (dl s)).1:=if_neg h0
  rw[hn]
  have HS:=Lib.hid (split_any s w hs h0)
  have hbd:=dgs_bd (dl s)
  have hsz:(dl s).length<=1000000:=by rw[<-Lib.size_eq];exact hs
  unfold SplitIs at HS
  generalize dgs (dl s)=q at HS hbd ⊢
  obtain⟨l,b⟩:=q
  dsimp only at HS hbd ⊢
  clear hn h0 h1
  go_enter Tryz.func61,Tryz.ntmps61
  go_wp2_with fail
  refine HS.out.mono ?_
  rintro e w1 ⟨t,rfl,ht,htz,rfl⟩
  have HV:=Lib.hid (value_any t b w (by omega) (by omega))
  rw[ht]at HV
  obtain⟨o,ho⟩:∃ o,val b l=o:=⟨_,rfl⟩
  rw[ho]at HV
  have HO:=Lib.hid ho
  clear ht HS ho
  cases o with
  | none =>
   go_wp2_with fail
   refine HV.out.mono ?_
   rintro e w2 ⟨rfl,hB⟩
   go_wp2
   go_ret2
   exact numR_none HO.out hB
  | some n =>
   go_wp2_with fail
   refine HV.out.mono ?_
   rintro e w2 ⟨rfl,hB⟩
   go_wp2
   go_ret2
   exact numR_some HO.out hB
end Go.Proofs.YtkibdkfdffkkfaaGreatDoor.Fou
