import Derived.Test.YtkibdkfdffkkfaaGreatDoorPk25
set_option maxRecDepth 100000
set_option maxHeartbeats 8000000
namespace Go.Proofs.YtkibdkfdffkkfaaGreatDoor.Pn
open Go.RowKit Puny Go.Shelf
def oth (l:List Nat) (k:Nat):List Nat:=(l.take k).filter (128<=·)
theorem oth_yes{l:List Nat}{k:Nat}(hk:k<l.length)(h:128<=l[k]):oth l (k+1)=oth l k++[l[k]]:=by
 unfold oth;rw[List.take_succ_eq_append_getElem hk,List.filter_append];simp[h]
theorem oth_no{l:List Nat}{k:Nat}(hk:k<l.length)(h:¬ 128<=l[k]):oth l (k+1)=oth l k:=by
 unfold oth;rw[List.take_succ_eq_append_getElem hk,List.filter_append,List.filter_cons,if_neg (by simpa using h)];simp
theorem oth_len(l:List Nat)(k:Nat):(oth l k).length<=l.length:=Nat.le_trans (List.length_filter_le _ _) (by rw[List.length_take];omega)
theorem oth_all(l:List Nat):ms l=once ((oth l l.length).mergeSort (fun a b=>decide (a<=b))):=by unfold ms oth;rw[List.take_length]
theorem cn_get(l:List Nat)(i:Nat)(h:i<l.length):(cn l)[i]? = some (.int .i32 (l[i]:Int)):=by simp[h]
theorem one_cn(l:List Nat):∀ u∈cn l,u.oneCell'=true:=by
 intro u hu
 obtain⟨x,_,rfl⟩:=List.mem_map.1 hu
 simp[Value.oneCell']
def Othered (l:List Nat) (w:World) (e:Ending) (w':World):Prop :=
 ∃ v,e = .returned v/\w'.ownsRow w.heap.size 21 1 v (ms l).length (cn (ms l))/\Below w.heap.size w w'
theorem others_any(N:Nat)(hS:SortOk N)(hN:N<=100000)(l:List Nat)(A:Option Addr)(n c:Nat)(w:World)(hn:l.length=n)(ho:(oth l n).length<=N)(hm:n<=100000)(hr:Row w w.heap.size A (cn l)) :
  Calls Tryz.prog 360 #[.slice A n c] w (Othered l w):=by
 obtain⟨i0,hi,hz0,hz1,hz2⟩:=info_parts info_i32
 have HN:=Lib.hid hn
 have HSO:=Lib.hid hS
 clear hn hS
 go_enter Tryz.func360,Tryz.ntmps360
 go_wp2
 go_loopw [3,8] (fun o i wr => ∃ k:Nat,k<=n/\i = .int .i64 k/\wr.ownsRow w.heap.size 21 1 o (oth l k).length (cn (oth l k))/\Below w.heap.size w wr) (fun _ i _=>n-(intOf i).toNat)
 case atStart=>exact⟨0,Nat.zero_le _,rfl,by simpa[oth] using World.ownsRow_nil _ _ _ _,Below.refl _ _⟩
 case round =>
  obtain⟨k,hk,rfl,hown,hB⟩:=hrel
  have hsz:=hB.size
  by_cases hlt:k<n
  ·have hkl:k<l.length:=by rw[HN.out];exact hlt
   obtain⟨b,off,rfl,hb,hc⟩:=(hr.below hB).at_ (by simp;omega)
   have hcell:=hc k (by simp;omega)
   rw[cn_get _ _ hkl]at hcell
   have hol:=oth_len l k
   rw[HN.out]at hol
   have HC:=Lib.hid hc
   have HR:=Lib.hid hr
   clear hc hr
   obtain⟨x,hx⟩:∃ x,l[k]=x:=⟨_,rfl⟩
   rw[hx]at hcell
   have HX:=Lib.hid hx
   clear hx
   by_cases hbig:128<=x
   ·go_wp2_with(first
     | (at_builtin;refine wpList_append_own_at _ rfl _ _ 22 rfl w.heap.size 21 i0 (.int .i32 0) 1 4 Tryz.underlying22 hi hz0 hz1 hz2 rfl (by decide) _ _ _ rfl (hown.alloc _) ⟨wr.heap.size,0,none⟩ 1 1 _ rfl (by rfl) (news_new _ _ _ _ rfl) (by simp[Value.oneCell']) (by unfold maxLen;omega) (by omega) (by simp;omega) ?_;intro v' w2 hown2 hgrow2 _ _)
     | fail)
    go_roundw
    case rel =>
     refine⟨k+1,by omega,by go_num, ?_,(hB.alloc hsz _).grown hgrow2 (by simp;omega) (fun j e=>(hown.lt j e).1)⟩
     rw[oth_yes hkl (by rw[HX.out];exact hbig),HX.out,List.length_append]
     simpa using hown2
    case measure=>simp[intOf];omega
   ·go_wp2
    go_roundw
    case rel=>exact⟨k+1,by omega,by go_num,by rw[oth_no hkl (by rw[HX.out];exact hbig)];exact hown,hB⟩
    case measure=>simp[intOf];omega
  ·obtain rfl:k=n:=by omega
   have HO:=Lib.hid (oth_all l)
   rw[HN.out]at HO
   obtain⟨f,hf⟩:∃ f,oth l k=f:=⟨_,rfl⟩
   rw[hf]at hown ho HO
   have hol:=oth_len l k
   rw[hf,HN.out]at hol
   clear hf
   rcases hown.2 with ⟨rfl,h0⟩|⟨g,cap,cur,rfl,_⟩
   ·have hf0:f=[]:=List.eq_nil_of_length_eq_zero h0
    subst hf0
    go_wp2_with(first
     | (go_at_call 382;refine (Sort_none _).mono ?_;rintro e w' ⟨rfl,rfl⟩)
     | (go_at_call 383;refine (Compact_none _).mono ?_;rintro e w' ⟨rfl,rfl⟩)
     | fail)
    go_ret
    exact⟨_,rfl,by rw[HO.out];simpa[once] using World.ownsRow_nil _ _ _ _,hB⟩
   ·have hsl:(f.mergeSort fun a b=>decide (a<=b)).length=f.length:=List.length_mergeSort _
    have hsp:(f.mergeSort fun a b=>decide (a<=b)).Pairwise (·<=·):=by
     have:=List.pairwise_mergeSort (le:=fun a b:Nat=>decide (a<=b)) (by intro a b c;simp;omega) (by intro a b;simp;omega) f
     exact this.imp fun h=>by simpa using h
    obtain⟨s,hs⟩:∃ s,(f.mergeSort fun a b=>decide (a<=b))=s:=⟨_,rfl⟩
    have c1:=HSO.out w.heap.size g cap f wr ho hown
    rw[hs]at c1 hsl hsp HO
    rw[<-hsl]at c1
    have C1:=Lib.hid c1
    have HL:=Lib.hid hsl
    have HP:=Lib.hid hsp
    have hlt0:=hown.lt g rfl
    rw[<-hsl]
    clear c1 hs hsl hsp
    go_wp2_with(first
     | (go_at_call 382;refine C1.out.mono ?_;rintro e w1 ⟨rfl,hown1,hg1⟩)
     | (go_at_call 383;refine (Compact_any w.heap.size g cap s _ HP.out (by rw[HL.out];omega) hown1).mono ?_;rintro e w2 ⟨v2,rfl,hown2,hg2⟩)
     | fail)
    go_ret
    exact⟨_,rfl,by rw[HO.out];exact hown2,(hB.grown hg1 hsz (fun j e=>by cases e;exact hlt0.1)).grown hg2 (by have:=hg1.size;omega) (fun j e=>by cases e;exact hlt0.1)⟩
end Go.Proofs.YtkibdkfdffkkfaaGreatDoor.Pn
namespace Puny
def hat (l:List Nat) (a:Nat):Nat:=(l.filter (fun x=>decide (x ∉ (ms l).drop a))).length
def eat (l:List Nat) (a:Nat):List (Nat × Nat):=((ms l).take a).flatMap fun m=>scan m l 0
def pat (l:List Nat) (m b:Nat):Nat:=((l.take b).filter (·<=m)).length
def qat (l:List Nat) (m b:Nat):Nat:=((l.drop b).filter (· < m)).length
theorem drop_cons{α:Type}{l:List α}{a:Nat}(h:a<l.length):l.drop a=l[a]::l.drop (a+1):=List.drop_eq_getElem_cons h
theorem split_rem(l:List Nat)(a:Nat):∀ x∈l,x∈(ms l).drop a∨∀ y∈(ms l).drop a,x<y:=by
 intro x hx
 have hp:=ms_rise l
 by_cases h:128<=x
 ·have hm:=(ms_mem l x).2 ⟨hx,h⟩
  rw[<-List.take_append_drop a (ms l)]at hm hp
  rw[List.pairwise_append]at hp
  rcases List.mem_append.1 hm with h1|h1
  ·exact .inr fun y hy=>hp.2.2 x h1 y hy
  ·exact .inl h1
 ·exact .inr fun y hy=>by have:=((ms_mem l y).1 (List.mem_of_mem_drop hy)).2;omega
theorem hat_aux{l rem:List Nat}{m:Nat}(hp:(m::rem).Pairwise (· < ·))(hs:∀ x∈l,x∈m::rem∨∀ y∈m::rem,x<y) :
  l.filter (fun x=>decide (x ∉ m::rem))=l.filter (· < m)/\l.filter (fun x=>decide (x ∉ rem))=l.filter (·<=m):=by
 rw[List.pairwise_cons]at hp
 refine⟨List.filter_congr fun x hx => ?_,List.filter_congr fun x hx => ?_⟩
 ·rcases hs x hx with h|h
  ·rcases List.mem_cons.1 h with h1|h1
   ·simp[h1]
   ·have:=hp.1 x h1
    simp[h1];omega
  ·have h1:=h m (by simp)
   have h2:x ∉ m::rem:=fun hh=>by have:=h x hh;omega
   rw[decide_eq_true h2]
   simpa using h1
 ·rcases hs x hx with h|h
  ·rcases List.mem_cons.1 h with h1|h1
   ·have h2:x ∉ rem:=fun hh=>by have:=hp.1 x hh;omega
    rw[decide_eq_true h2]
    simp[h1]
   ·have:=hp.1 x h1
    simp[h1];omega
  ·have h1:=h m (by simp)
   have h2:x ∉ rem:=fun hh=>by have:=h x (List.mem_cons_of_mem _ hh);omega
   rw[decide_eq_true h2]
   simp;omega
theorem hat_below(l:List Nat){a:Nat}(ha:a<(ms l).length):hat l a=(l.filter (· < (ms l)[a])).length:=by
 have hp:=(ms_rise l).drop (i:=a)
 have hs:=split_rem l a
 unfold hat
 rw[drop_cons ha]at hp hs ⊢
 rw[(hat_aux hp hs).1]
theorem hat_upto(l:List Nat){a:Nat}(ha:a<(ms l).length):hat l (a+1)=(l.filter (·<=(ms l)[a])).length:=by
 have hp:=(ms_rise l).drop (i:=a)
 have hs:=split_rem l a
 unfold hat
 rw[drop_cons ha]at hp hs
 rw[(hat_aux hp hs).2]
theorem hat_zero(l:List Nat):hat l 0=(basics l).length:=by
 unfold hat basics
 congr 1
 refine List.filter_congr fun x hx => ?_
 rw[decide_eq_decide,List.drop_zero,ms_mem]
 constructor
 ·intro h1
  rcases Nat.lt_or_ge x 128 with h2|h2
  ·exact h2
  ·exact absurd ⟨hx,h2⟩ h1
 ·intro h1 h2;omega
theorem hat_start(l:List Nat){a:Nat}(ha:a<(ms l).length):hat l a=pat l (ms l)[a] 0+qat l (ms l)[a] 0:=by
 rw[hat_below l ha];simp[pat,qat]
theorem hat_done(l:List Nat){a:Nat}(ha:a<(ms l).length):hat l (a+1)=pat l (ms l)[a] l.length+qat l (ms l)[a] l.length:=by
 rw[hat_upto l ha];simp[pat,qat]
theorem take_snoc'{α:Type}{l:List α}{b:Nat}(h:b<l.length):l.take (b+1)=l.take b++[l[b]]:=List.take_succ_eq_append_getElem h
theorem pq_le(l:List Nat)(m b:Nat)(hb:b<=l.length):pat l m b+qat l m b<=l.length:=by
 unfold pat qat
 have h1:=List.length_filter_le (fun x=>decide (x<=m)) (l.take b)
 have h2:=List.length_filter_le (fun x=>decide (x<m)) (l.drop b)
 rw[List.length_take]at h1
 rw[List.length_drop]at h2
 omega
section
variable {l:List Nat} {m b:Nat}
theorem pat_le_step(h:b<l.length)(hx:l[b]<=m):pat l m (b+1)=pat l m b+1:=by
 unfold pat;rw[take_snoc' h,List.filter_append];simp[hx]
theorem pat_gt_step(h:b<l.length)(hx:¬ l[b]<=m):pat l m (b+1)=pat l m b:=by
 unfold pat;rw[take_snoc' h,List.filter_append,List.filter_cons,if_neg (by simpa using hx)];simp
theorem qat_lt_step(h:b<l.length)(hx:l[b]<m):qat l m b=qat l m (b+1)+1:=by
 unfold qat;rw[drop_cons h,List.filter_cons,if_pos (by simpa using hx)];rfl
theorem qat_ge_step(h:b<l.length)(hx:¬ l[b]<m):qat l m b=qat l m (b+1):=by
 unfold qat;rw[drop_cons h,List.filter_cons,if_neg (by simpa using hx)]
theorem scan_take(h:b<l.length):scan m (l.take (b+1)) 0=scan m (l.take b) 0++(if l[b]=m then [(m,pat l m b)] else []):=by
 rw[take_snoc' h,scan_append,Nat.zero_add]
 congr 1
 rw[scan]
 by_cases h1:l[b]=m
 ·rw[if_pos h1,if_pos h1];rfl
 ·rw[if_neg h1,if_neg h1];split<;>rfl
end
theorem eat_step(l:List Nat){a:Nat}(ha:a<(ms l).length):eat l (a+1)=eat l a++scan (ms l)[a] l 0:=by
 unfold eat;rw[take_snoc' ha,List.flatMap_append];simp
theorem eat_all(l:List Nat):eat l (ms l).length=evs l:=by unfold eat evs;rw[List.take_length]
theorem dels_len:∀ (es:List (Nat × Nat)) (h n i:Nat),(dels es h n i).length=es.length
 | [],_,_,_=>rfl
 | (a,b)::es,h,n,i=>by rw[dels,List.length_cons,dels_len,List.length_cons]
theorem once_len(l:List Nat):(once l).length<=l.length:=by
 fun_induction once l with
 | case1=>exact Nat.le_refl _
 | case2=>exact Nat.le_refl _
 | case3 x l ih=>exact Nat.le_trans ih (by simp)
 | case4 x y l h ih=>simpa using ih
theorem ms_len(l:List Nat):(ms l).length<=l.length:=by
 unfold ms
 refine Nat.le_trans (once_len _) ?_
 rw[List.length_mergeSort]
 exact List.length_filter_le _ _
end Puny
