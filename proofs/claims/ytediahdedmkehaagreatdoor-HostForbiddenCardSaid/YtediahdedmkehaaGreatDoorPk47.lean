import Derived.Test.YtediahdedmkehaaGreatDoorPk45
import Derived.Test.YtediahdedmkehaaGreatDoorPk46
import Derived.Laws.StructEq
import Derived.Test.YtediahdedmkehaaGreatDoorPk37
import Derived.Test.YtediahdedmkehaaGreatDoorPk34
import Derived.Deep.RegionLaw
import Derived.Deep.RegionHeld3
import Derived.Test.YtediahdedmkehaaGreatDoorPk18
import Derived.Deep.MidRow
import Derived.Test.YtediahdedmkehaaGreatDoorPk33
namespace Go.Proofs.YtediahdedmkehaaGreatDoor.Hst
set_option maxRecDepth 100000
open Go.RowKit Utf Remap Norm Pn Puny
structure Ho where
 k:Nat
 s:List UInt8
 f:Nat
 x:List Nat
 deriving DecidableEq
def hcl (k:Nat) (s:ByteArray) (f:Nat) (x:List Nat):List Value:=.int .u8 (k:Int) :: .string s :: .int .u32 (f:Int)::Sx.cu x
abbrev Ho.cs (h:Ho):List Value:=hcl h.k (Fou.bs h.s) h.f h.x
abbrev Ho.v (h:Ho):Value:=.agg h.cs.toArray
theorem cs_len (h:Ho):h.cs.length=h.x.length+3:=by simp [Ho.cs,hcl,Sx.cu]
theorem cs_one (h:Ho):∀ v∈h.cs,v.oneCell'=true:=by
 intro v hv
 simp only [Ho.cs,hcl,List.mem_cons]at hv
 rcases hv with rfl|rfl|rfl|hv
 · rfl
 · rfl
 · rfl
 · exact Sx.one_cu _ v hv
def HBk (w:World) (B:Nat) (T:TypeId) (h:Ho):Prop:=w.heap[B]? = some (.cells h.cs.toArray T (0,0))
theorem HBk.new (w:World) (T:TypeId) (h:Ho):HBk (w.alloc (.cells h.cs.toArray T)) w.heap.size T h:=World.alloc_heap_new w _
theorem HBk.lt {w:World} {B:Nat} {T:TypeId} {h:Ho} (hb:HBk w B T h):B<w.heap.size:=(Array.getElem?_eq_some_iff.1 hb).1
theorem HBk.go {a b:World} {B:Nat} {T:TypeId} {h:Ho} (hb:HBk a B T h) (hB:Below a.heap.size a b):HBk b B T h:=(hB.block _ hb.lt).trans hb
theorem HBk.gom {a b:World} {B m:Nat} {T:TypeId} {h:Ho} (hb:HBk a B T h) (hm:B<m) (hB:Below m a b):HBk b B T h:=(hB.block _ hm).trans hb
theorem HBk.cell {w:World} {B:Nat} {T:TypeId} {h:Ho} (hb:HBk w B T h) {k:Nat} {v:Value} (hv:h.cs[k]? = some v):w.cell? ⟨B,k,none⟩=some v:=by
 rw [cell_of_row w B k _ _ _ hb,List.getElem?_toArray,hv]
theorem HBk.frozen {w:World} {B:Nat} {T:TypeId} {h:Ho} (hb:HBk w B T h) (k:Nat):w.frozen? ⟨B,k,none⟩=false:=by
 unfold HBk at hb
 simp [World.frozen?,hb]
theorem HBk.range {w:World} {B:Nat} {T:TypeId} {h:Ho} (hb:HBk w B T h):w.rangeAt B 0 h.cs:=fun j v hv=>by
 rw [Nat.zero_add]
 exact hb.cell hv
theorem HBk.there {w:World} {B:Nat} {T:TypeId} {h g:Ho} (hb:HBk w B T h) (hl:g.x.length=h.x.length):w.there B 0 g.cs.toArray.size:=fun j hj=>by
 rw [List.size_toArray,cs_len,hl,←cs_len h]at hj
 rw [Nat.zero_add]
 exact ⟨by rw [hb.cell (List.getElem?_eq_getElem hj)];rfl,hb.frozen j⟩
theorem set_cells (b:Nat) (T:TypeId):∀ (vs:List Value) (pre:List Value) (w:World) (rest:List Value),w.heap[b]? = some (.cells (pre++rest).toArray T (0,0))→rest.length=vs.length→(w.setCells b pre.length vs).heap[b]? = some (.cells (pre++vs).toArray T (0,0)):=by
 intro vs
 induction vs with
 | nil =>
   intro pre w rest h hl
   obtain rfl:rest=[]:=List.eq_nil_of_length_eq_zero hl
   exact h
 | cons u vs ih =>
   intro pre w rest h hl
   obtain ⟨r,rest,rfl⟩:∃ r t,rest=r::t:=by
     cases rest with
     | nil=>simp at hl
     | cons r t=>exact ⟨r,t,rfl⟩
   rw [World.setCells]
   have h2:(w.setCell ⟨b,pre.length,none⟩ u).heap[b]? = some (.cells ((pre++[u])++rest).toArray T (0,0)):=by
     simp only [World.setCell,Array.getElem?_modify,if_true,h,Option.map_some]
     congr 2
     simp
   have:=ih (pre++[u]) _ rest h2 (by simpa using hl)
   rw [List.length_append,List.length_singleton,List.append_assoc]at this
   exact this
theorem HBk.set {w:World} {B:Nat} {T:TypeId} {h:Ho} (hb:HBk w B T h) (g:Ho) (hl:g.x.length=h.x.length):HBk (w.setCells B 0 g.cs) B T g :=
 set_cells B T g.cs [] w h.cs hb (by rw [cs_len,cs_len,hl])
theorem infoH:(Tryz.prog.info? 27).map (·.size)=some 11:=by kernel_rfl
theorem storeH {ops:Array Oper} {rest:List Oper} {op:Oper} {a:Act} {w:World} {Q:Exit→Act→World→Prop} (hgd:op.guard=none) (x y:Operand) (ho:op.op = .store 27 x y)
   (b:Nat) (T:TypeId) (z v:Ho) (hx:a.eval x = .pointer (some ⟨b,0,none⟩)) (hy:a.eval y=v.v) (hz:HBk w b T z) (hz8:z.x.length=8) (hv8:v.x.length=8)
   (h:∀ w',HBk w' b T v→Below b w w'→wpList Tryz.prog ops Q rest (a.put op.dst undef) w'):wpList Tryz.prog ops Q (op::rest) a w:=by
 refine wpList_store_mid hgd 27 x y ho b 0 v.cs.toArray hx hy (hz.there (by omega)) ?_ (all_oneCell_toArray (cs_one v)) ?_
 · rw [List.size_toArray,cs_len,hv8]
   exact infoH
 · exact h _ (hz.set v (by omega)) (Sx.below_setCells (Nat.le_refl _) _ _ _ (Below.refl _ _))
theorem loadH {ops:Array Oper} {rest:List Oper} {op:Oper} {a:Act} {w:World} {Q:Exit→Act→World→Prop} (p:Operand) (ho:op.op = .load 27 p)
   (b:Nat) (T:TypeId) (hx:a.eval p = .pointer (some ⟨b,0,none⟩)) (v:Ho) (hc:HBk w b T v) (hL:v.x.length=8) (hgd:Region.wanted op (yielded ops a.tmps)=true)
   (h:wpList Tryz.prog ops Q rest (a.put op.dst v.v) w):wpList Tryz.prog ops Q (op::rest) a w :=
 Sx.wpList_load_g 27 p ho b 0 hx v.cs _ hc.range Tryz.underlying27 rfl (by rw [cs_len,hL];exact infoH) hgd h
theorem load_var {w:World} {B:Nat} {T:TypeId} {v:Ho} (hb:HBk w B T v) (h8:v.x.length=8):(loadVar 27 ⟨B,0,none⟩).run Tryz.prog w = .ok v.v w :=
 run_loadVar_mid _ B 0 27 v.cs _ hb.range Tryz.underlying27 rfl (by rw [cs_len,h8];exact infoH)
theorem equal8d (x y:List Nat) (hL:x.length=8) (hM:y.length=8) (w:World):(Op.equalIn 9999 25 (Sx.av x) (Sx.av y)).run Tryz.prog w = .ok (decide (x=y)) w:=by
 obtain ⟨i,hi⟩:∃ i,Tryz.prog.info? 24=some i:=Option.isSome_iff_exists.1 (by kernel_rfl)
 have e:=run_equalIn_array w 9998 (Sx.cu x).toArray (Sx.cu y).toArray Tryz.underlying25 hi
 rw [show Tryz.prog.cellsOf 24=1 by kernel_rfl,Sx.items_eq x y w 9997 (List.range 8) (fun i hi=>by have:=List.mem_range.1 hi;omega)]at e
 have h:=Sx.all_range x y (by omega)
 rw [hL]at h
 rw [h]at e
 exact e
theorem equalH (a b:Ho) (ha:a.x.length=8) (hb:b.x.length=8) (w:World):(Op.equalIn 10000 27 a.v b.v).run Tryz.prog w = .ok (decide (a=b)) w:=by
 obtain ⟨k,s,f,x⟩:=a
 obtain ⟨k',s',f',y⟩:=b
 dsimp only at ha hb
 have h8:=equal8d x y ha hb w
 obtain ⟨x0,x1,x2,x3,x4,x5,x6,x7,rfl⟩:=Sx.eight ha
 obtain ⟨y0,y1,y2,y3,y4,y5,y6,y7,rfl⟩:=Sx.eight hb
 have hp:∀ (k:Nat) (s:ByteArray) (f x0 x1 x2 x3 x4 x5 x6 x7:Nat),(part 5 (hcl k s f [x0,x1,x2,x3,x4,x5,x6,x7]).toArray 0).run Tryz.prog w = .ok (.int .u8 (k:Int)) w ∧
     (part 9 (hcl k s f [x0,x1,x2,x3,x4,x5,x6,x7]).toArray 1).run Tryz.prog w = .ok (.string s) w ∧
     (part 23 (hcl k s f [x0,x1,x2,x3,x4,x5,x6,x7]).toArray 2).run Tryz.prog w = .ok (.int .u32 (f:Int)) w ∧
     (part 25 (hcl k s f [x0,x1,x2,x3,x4,x5,x6,x7]).toArray 3).run Tryz.prog w = .ok (Sx.av [x0,x1,x2,x3,x4,x5,x6,x7]) w:=fun k s f x0 x1 x2 x3 x4 x5 x6 x7=>⟨by kernel_rfl,by kernel_rfl,by kernel_rfl,by kernel_rfl⟩
 obtain ⟨p0,p1,p2,p3⟩:=hp k (Fou.bs s) f x0 x1 x2 x3 x4 x5 x6 x7
 obtain ⟨q0,q1,q2,q3⟩:=hp k' (Fou.bs s') f' y0 y1 y2 y3 y4 y5 y6 y7
 rw [run_equalIn_struct w 9999 27 _ _ (by simp [Program.fieldsOf,Tryz.underlying27]) (by kernel_rfl)]
 simp only [Program.fieldsOf,Tryz.underlying27]
 have hs:((Fou.bs s).toList == (Fou.bs s').toList)=decide (s=s'):=by
   rw [ByteArray.toList_eq,ByteArray.toList_eq]
   simp [Fou.bs]
   by_cases e:s=s' <;> simp [e]
 have i0:(Op.equalIn 9999 5 (.int .u8 (k:Int)) (.int .u8 (k':Int))).run Tryz.prog w = .ok (decide (k=k')) w:=by
   rw [run_equalIn_int w 9998 5 .u8 .u8 _ _ Tryz.underlying5]
   congr 1
   by_cases e:k=k' <;> simp [e]
   omega
 have i1:(Op.equalIn 9999 9 (.string (Fou.bs s)) (.string (Fou.bs s'))).run Tryz.prog w = .ok (decide (s=s')) w:=by
   rw [run_equalIn_string w 9998 9 _ _ Tryz.underlying9,hs]
 have i2:(Op.equalIn 9999 23 (.int .u32 (f:Int)) (.int .u32 (f':Int))).run Tryz.prog w = .ok (decide (f=f')) w:=by
   rw [run_equalIn_int w 9998 23 .u32 .u32 _ _ Tryz.underlying23]
   congr 1
   by_cases e:f=f' <;> simp [e]
   omega
 dsimp only [Ho.cs]
 generalize hcl k (Fou.bs s) f [x0,x1,x2,x3,x4,x5,x6,x7]=X at p0 p1 p2 p3 ⊢
 generalize hcl k' (Fou.bs s') f' [y0,y1,y2,y3,y4,y5,y6,y7]=Y at q0 q1 q2 q3 ⊢
 generalize [x0,x1,x2,x3,x4,x5,x6,x7]=x at h8 p3 ⊢
 generalize [y0,y1,y2,y3,y4,y5,y6,y7]=y at h8 q3 ⊢
 simp [Op.eqFields,Sem.run_bind,p0,q0,p1,q1,p2,q2,p3,q3,i0,i1,i2,h8]
 by_cases e0:k=k'
 · by_cases e1:s=s'
   · by_cases e2:f=f'
     · by_cases e3:x=y <;> simp [e0,e1,e2,e3]
     · simp [e0,e1,e2]
   · simp [e0,e1]
 · simp [e0]
end Go.Proofs.YtediahdedmkehaaGreatDoor.Hst
namespace Go.Proofs.YtediahdedmkehaaGreatDoor.Hst
set_option maxRecDepth 100000
open Go.RowKit Utf Remap Norm Pn Puny
def hN:Ho:=⟨0,[],0,Sx.z8⟩
def brH:Option (List Nat)→Int ⊕ Ho
 | none => .inl 31
 | some x => .inr ⟨4,[],0,x⟩
def nmH:Int ⊕ (List UInt8 ⊕ Nat)→Int ⊕ Ho
 | .inl e => .inl e
 | .inr (.inl t) => .inr ⟨2,t,0,Sx.z8⟩
 | .inr (.inr x) => .inr ⟨3,[],x,Sx.z8⟩
def opH (l:List Int):Int ⊕ Ho:=if l.any forb=true then .inl 32 else .inr ⟨5,dl (strOfNums (penc l)),0,Sx.z8⟩
def hP (l:List Int) (sp:Bool):Int ⊕ Ho :=
 if l≠[]∧l[0]! = 91 then brH (brv l) else if sp=true then nmH (nmd l) else if l=[] then .inr ⟨1,[],0,Sx.z8⟩ else opH l
def HoV:Int ⊕ Ho→Value
 | .inl x => .tuple #[hN.v,.int .i64 x]
 | .inr h => .tuple #[h.v,.int .i64 0]
def HoR (v:Int ⊕ Ho) (w:World) (e:Ending) (w':World):Prop:=e = .returned (HoV v)∧Below w.heap.size w w'
theorem brv_len {l:List Int} {x:List Nat} (h:brv l=some x):x.length=8:=by
 unfold brv at h
 split at h
 · exact (Sx.prs_some h).1
 · cases h
theorem brH_len {l:List Int} {h:Ho} (e:brH (brv l) = .inr h):h.x.length=8:=by
 cases hb:brv l with
 | none=>rw [hb]at e;cases e
 | some x=>rw [hb]at e;cases e;exact brv_len hb
theorem nmH_len {v:Int ⊕ (List UInt8 ⊕ Nat)} {h:Ho} (e:nmH v = .inr h):h.x.length=8:=by
 rcases v with v|v|v <;> cases e <;> rfl
theorem opH_len {l:List Int} {h:Ho} (e:opH l = .inr h):h.x.length=8:=by
 unfold opH at e
 split at e
 · cases e
 · cases e;rfl
theorem hP_len {l:List Int} {sp:Bool} {h:Ho} (e:hP l sp = .inr h):h.x.length=8:=by
 unfold hP at e
 split at e
 · exact brH_len e
 · split at e
   · exact nmH_len e
   · split at e
     · cases e;rfl
     · exact opH_len e
theorem brack_ho (l:List Int) (A:Option Addr) (n c:Nat) (w:World) (hn:l.length=n) (h0:l[0]! = 91) (h1:1≤n) (hl:n≤1000) (hc:n≤c) (hr:Row w w.heap.size A (cl .i32 l)) (hE:Sx.Env w):Calls Tryz.prog 27 #[.slice A n c] w (HoR (brH (brv l)) w) :=
 (bracketed_any l A n c w hn h0 h1 hl hc hr hE).mono fun e w' h=>by
   unfold BrR at h
   cases hb:brv l with
   | none=>rw [hb]at h;exact ⟨h.1,h.2⟩
   | some x =>
     obtain ⟨x0,x1,x2,x3,x4,x5,x6,x7,rfl⟩:=Sx.eight (brv_len hb)
     rw [hb]at h
     exact ⟨h.1,h.2⟩
theorem named_ho (l:List Int) (A:Option Addr) (n c:Nat) (w:World) (hn:l.length=n) (hl:n≤5000) (hd2:(dcd l).length≤2000) (hF:Fits (dcd l)) (hr:Row w w.heap.size A (cl .i32 l)):Calls Tryz.prog 28 #[.slice A n c] w (HoR (nmH (nmd l)) w) :=
 (named_any l A n c w hn hl hd2 hF hr).mono fun e w' h=>by
   unfold NmR at h
   rcases hv:nmd l with x|t|x
   · rw [hv]at h;exact ⟨h.1,h.2⟩
   · rw [hv]at h;exact ⟨h.1,h.2⟩
   · rw [hv]at h;exact ⟨h.1,h.2⟩
theorem opaque_ho (l:List Int) (A:Option Addr) (n c:Nat) (w:World) (hn:l.length=n) (hl:n≤1000) (hr:Row w w.heap.size A (cl .i32 l)):Calls Tryz.prog 29 #[.slice A n c] w (HoR (opH l) w) :=
 (opaque_any l A n c w hn hl hr).mono fun e w' h=>by
   unfold OpR at h
   unfold opH
   by_cases hf:l.any forb=true
   · rw [if_pos hf]at h ⊢;exact ⟨h.1,h.2⟩
   · rw [if_neg hf]at h ⊢
     refine ⟨h.1.trans ?_,h.2⟩
     show _=Ending.returned (.tuple #[(⟨5,dl (strOfNums (penc l)),0,Sx.z8⟩:Ho).v,.int .i64 0])
     have e:Fou.bs (dl (strOfNums (penc l)))=strOfNums (penc l):=(Fou.bs_eq rfl).symm
     unfold Ho.v Ho.cs
     dsimp only
     rw [e]
     rfl
theorem hoR_mk {v v':Int ⊕ Ho} {w w':World} (h:v=v') (hB:Below w.heap.size w w'):HoR v w (.returned (HoV v')) w':=by subst h;exact ⟨rfl,hB⟩
theorem hoV_split (v:Int ⊕ Ho) (hl:∀ h,v = .inr h→h.x.length=8):∃ (h:Ho) (x:Int),HoV v = .tuple #[h.v,.int .i64 x]∧h.x.length=8:=by
 cases v with
 | inl x=>exact ⟨hN,x,rfl,rfl⟩
 | inr h=>exact ⟨h,0,rfl,hl h rfl⟩
set_option maxHeartbeats 4000000 in
theorem HParse_any (l:List Int) (sp:Bool) (A:Option Addr) (n c:Nat) (w:World) (hn:l.length=n) (hl:n≤5000) (hc:n≤c) (hbr:l[0]! = 91→n≤1000) (hnp:sp=false→n≤1000) (hF:sp=true→(dcd l).length≤2000∧Fits (dcd l)) (hE:Sx.Env w) (hr:Row w w.heap.size A (cl .i32 l)):Calls Tryz.prog 9 #[.slice A n c,.bool sp] w (HoR (hP l sp) w):=by
 have hB0:=upA w (.cells hN.cs.toArray 27)
 have hr1:=(hr.below hB0).mono hB0.size
 have hE1:=hE.go hB0
 have hX:=HBk.new w 27 hN
 obtain ⟨w1,hw1⟩:∃ w1,w.alloc (.cells hN.cs.toArray 27)=w1:=⟨_,rfl⟩
 rw [hw1]at hB0 hr1 hE1 hX
 have hw2:w.alloc (.cells #[.int .u8 0,.string ⟨#[]⟩,.int .u32 0,.int .u16 0,.int .u16 0,.int .u16 0,.int .u16 0,.int .u16 0,.int .u16 0,.int .u16 0,.int .u16 0] 27)=w1:=hw1
 have HB0:=Lib.hid hB0
 have HX:=Lib.hid hX
 have hlt:w.heap.size<w1.heap.size:=hX.lt
 clear hw1 hX
 by_cases hb:l≠[]∧l[0]! = 91
 · have h1:1≤n:=by
     rcases Nat.eq_zero_or_pos n with h|h
     · exact absurd (List.eq_nil_of_length_eq_zero (by omega)) hb.1
     · exact h
   have HV:Hid (hP l sp=brH (brv l)):=Lib.hid (by unfold hP;rw [if_pos hb])
   have HC:=Lib.hid (brack_ho l A n c w1 hn hb.2 h1 (hbr hb.2) hc hr1 hE1)
   obtain ⟨b,o,rfl,hbb,hcc⟩:=hr1.at_ (by simp [hn];omega)
   have c0:=cell_at hcc (k:=0) (by omega)
   rw [hb.2,Nat.add_zero]at c0
   have h1z:(0:Int)<(n:Int):=by omega
   have h1d:decide ((0:Int)<(n:Int))=true:=decide_eq_true h1z
   obtain ⟨v,hv⟩:∃ v,brH (brv l)=v:=⟨_,rfl⟩
   obtain ⟨h,x,hvv,h8⟩:=hoV_split v (fun h e=>brH_len (hv.trans e))
   rw [hv]at HC HV
   unfold HoR at HC
   rw [hvv]at HC
   have HVV:=Lib.hid hvv
   have H8:=Lib.hid h8
   clear hcc hr hr1 hn hb hE hE1 hv hvv h8 hB0 hF hbr hnp
   go_enter Tryz.func9,Tryz.ntmps9
   go_upto_region 1 with fail
   clear hw2
   go_upto_region 2 with fail
   go_wp2_with (first|(go_at_call 27;refine HC.out.mono ?_;rintro e w2 ⟨rfl,hB2⟩)|(refine storeH rfl _ _ rfl _ 27 hN h rfl rfl (HX.out.gom hlt hB2) rfl H8.out ?_;intro w3 hX3 hB3)|fail)
   refine bodyPost_ret (v:=.tuple #[h.v,.int .i64 x]) (Sx.results_two (u:=5) Tryz.results9 rfl (load_var hX3 H8.out) rfl) rfl ?_
   rw [←HVV.out]
   exact hoR_mk HV.out ((HB0.out.trans (hB2.mono HB0.out.size)).trans hB3)
 · have HNO:Hid (hP l sp=if sp=true then nmH (nmd l) else if l=[] then .inr ⟨1,[],0,Sx.z8⟩ else opH l):=Lib.hid (by unfold hP;rw [if_neg hb])
   by_cases h0:n=0
   · obtain rfl:l=[]:=List.eq_nil_of_length_eq_zero (by omega)
     subst h0
     cases sp with
     | true =>
       have HV:Hid (hP [] true=nmH (nmd [])):=Lib.hid (by rw [HNO.out,if_pos rfl])
       have HC:=Lib.hid (named_ho [] A 0 c w1 rfl (by omega) (hF rfl).1 (hF rfl).2 hr1)
       obtain ⟨v,hv⟩:∃ v,nmH (nmd [])=v:=⟨_,rfl⟩
       obtain ⟨h,x,hvv,h8⟩:=hoV_split v (fun h e=>nmH_len (hv.trans e))
       rw [hv]at HC HV
       unfold HoR at HC
       rw [hvv]at HC
       have HVV:=Lib.hid hvv
       have H8:=Lib.hid h8
       clear hv hvv h8
       clear hr hr1 hn hb hE hE1 hB0 hF hbr hnp
       go_enter Tryz.func9,Tryz.ntmps9
       go_upto_region 1 with fail
       clear hw2
       go_upto_region 4 with fail
       go_wp2_with (first|(go_at_call 28;refine HC.out.mono ?_;rintro e w2 ⟨rfl,hB2⟩)|(refine storeH rfl _ _ rfl _ 27 hN h rfl rfl (HX.out.gom hlt hB2) rfl H8.out ?_;intro w3 hX3 hB3)|fail)
       refine bodyPost_ret (v:=.tuple #[h.v,.int .i64 x]) (Sx.results_two (u:=5) Tryz.results9 rfl (load_var hX3 H8.out) rfl) rfl ?_
       rw [←HVV.out]
       exact hoR_mk HV.out ((HB0.out.trans (hB2.mono HB0.out.size)).trans hB3)
     | false =>
       have HV:Hid (hP [] false = .inr ⟨1,[],0,Sx.z8⟩):=Lib.hid (by rw [HNO.out,if_neg (by decide),if_pos rfl])
       clear hr hr1 hn hb hE hE1 hB0 hF hbr hnp
       go_enter Tryz.func9,Tryz.ntmps9
       go_upto_region 1 with fail
       clear hw2
       go_upto_region 6 with fail
       go_wp2_with (first|(refine storeH rfl _ _ rfl _ 27 hN ⟨1,[],0,Sx.z8⟩ rfl rfl HX.out rfl rfl ?_;intro w3 hX3 hB3)|fail)
       refine bodyPost_ret (v:=.tuple #[(⟨1,[],0,Sx.z8⟩:Ho).v,.int .i64 0]) (Sx.results_two (u:=5) Tryz.results9 rfl (load_var hX3 rfl) rfl) rfl ?_
       exact hoR_mk (v':=.inr ⟨1,[],0,Sx.z8⟩) HV.out (HB0.out.trans hB3)
   · have hne:l≠[]:=fun e=>h0 (by rw [←hn,e];rfl)
     have hny:l[0]!≠91:=fun e=>hb ⟨hne,e⟩
     have h1z:(0:Int)<(n:Int):=by omega
     have h1d:decide ((0:Int)<(n:Int))=true:=decide_eq_true h1z
     have hnz:¬ (n:Int)=0:=by omega
     have hnb:((n:Int) == 0)=false:=by simpa using hnz
     have HOP:Hid (sp=false→Calls Tryz.prog 29 #[.slice A n c] w1 (HoR (opH l) w1)):=Lib.hid (fun e=>opaque_ho l A n c w1 hn (hnp e) hr1)
     have HNM:Hid (sp=true→Calls Tryz.prog 28 #[.slice A n c] w1 (HoR (nmH (nmd l)) w1)):=Lib.hid (fun e=>named_ho l A n c w1 hn hl (hF e).1 (hF e).2 hr1)
     obtain ⟨b,o,rfl,hbb,hcc⟩:=hr1.at_ (by simp [hn];omega)
     have c0:=cell_at hcc (k:=0) (by omega)
     rw [Nat.add_zero]at c0
     obtain ⟨y,hy⟩:∃ y,l[0]! = y:=⟨_,rfl⟩
     rw [hy]at c0 hny
     have hyb:(y == 91)=false:=by simpa using hny
     cases sp with
     | true =>
       have HV:Hid (hP l true=nmH (nmd l)):=Lib.hid (by rw [HNO.out,if_pos rfl])
       have HC:=Lib.hid (HNM.out rfl)
       obtain ⟨v,hv⟩:∃ v,nmH (nmd l)=v:=⟨_,rfl⟩
       obtain ⟨h,x,hvv,h8⟩:=hoV_split v (fun h e=>nmH_len (hv.trans e))
       rw [hv]at HC HV
       unfold HoR at HC
       rw [hvv]at HC
       have HVV:=Lib.hid hvv
       have H8:=Lib.hid h8
       clear hv hvv h8
       clear hcc hr hr1 hn hb hE hE1 hB0 hF hbr hnp hy hne HOP HNM
       go_enter Tryz.func9,Tryz.ntmps9
       go_upto_region 1 with fail
       clear hw2
       go_upto_region 4 with fail
       go_wp2_with (first|(go_at_call 28;refine HC.out.mono ?_;rintro e w2 ⟨rfl,hB2⟩)|(refine storeH rfl _ _ rfl _ 27 hN h rfl rfl (HX.out.gom hlt hB2) rfl H8.out ?_;intro w3 hX3 hB3)|fail)
       refine bodyPost_ret (v:=.tuple #[h.v,.int .i64 x]) (Sx.results_two (u:=5) Tryz.results9 rfl (load_var hX3 H8.out) rfl) rfl ?_
       rw [←HVV.out]
       exact hoR_mk HV.out ((HB0.out.trans (hB2.mono HB0.out.size)).trans hB3)
     | false =>
       have HV:Hid (hP l false=opH l):=Lib.hid (by rw [HNO.out,if_neg (by decide),if_neg hne])
       have HC:=Lib.hid (HOP.out rfl)
       obtain ⟨v,hv⟩:∃ v,opH l=v:=⟨_,rfl⟩
       obtain ⟨h,x,hvv,h8⟩:=hoV_split v (fun h e=>opH_len (hv.trans e))
       rw [hv]at HC HV
       unfold HoR at HC
       rw [hvv]at HC
       have HVV:=Lib.hid hvv
       have H8:=Lib.hid h8
       clear hv hvv h8
       clear hcc hr hr1 hn hb hE hE1 hB0 hF hbr hnp hy hne HOP HNM
       go_enter Tryz.func9,Tryz.ntmps9
       go_upto_region 1 with fail
       clear hw2
       go_upto_region 7 with fail
       go_wp2_with (first|(go_at_call 29;refine HC.out.mono ?_;rintro e w2 ⟨rfl,hB2⟩)|(refine storeH rfl _ _ rfl _ 27 hN h rfl rfl (HX.out.gom hlt hB2) rfl H8.out ?_;intro w3 hX3 hB3)|fail)
       refine bodyPost_ret (v:=.tuple #[h.v,.int .i64 x]) (Sx.results_two (u:=5) Tryz.results9 rfl (load_var hX3 H8.out) rfl) rfl ?_
       rw [←HVV.out]
       exact hoR_mk HV.out ((HB0.out.trans (hB2.mono HB0.out.size)).trans hB3)
end Go.Proofs.YtediahdedmkehaaGreatDoor.Hst
namespace Go.Proofs.YtediahdedmkehaaGreatDoor.Hst
set_option maxRecDepth 100000
open Go.RowKit Utf Remap Norm Pn Puny
end Go.Proofs.YtediahdedmkehaaGreatDoor.Hst
namespace Go.Proofs.YtediahdedmkehaaGreatDoor.Hst
set_option maxRecDepth 100000
open Go.RowKit Utf Remap Norm Pn Puny
end Go.Proofs.YtediahdedmkehaaGreatDoor.Hst
namespace Go.Proofs.YtediahdedmkehaaGreatDoor.Hst
set_option maxRecDepth 100000
open Go.RowKit Utf Ut Remap Norm Pn Puny
theorem hP_err {l:List Int} {sp:Bool} {x:Int} (h:hP l sp = .inl x):x≠0:=by
 have hb:∀ o,brH o = .inl x→x≠0:=fun o e=>by
   cases o <;> cases e
   decide
 have hn:nmH (nmd l) = .inl x→x≠0:=fun e=>by
   have hp:∀ o y,pfo o = .inl y→y≠0:=fun o y e=>by cases o <;> cases e;decide
   have h2:∀ o y,nm2 o = .inl y→y≠0:=fun o y e=>by
     cases o with
     | none=>cases e;decide
     | some t =>
       have e':(if t.any fdB=true then (.inl 32:Int ⊕ (List UInt8 ⊕ Nat)) else if Fou.ends t=false then .inr (.inl t) else pfo (Fou.ans t)) = .inl y:=e
       by_cases h1:t.any fdB=true
       · rw [if_pos h1]at e';cases e';decide
       · rw [if_neg h1]at e'
         by_cases h2:Fou.ends t=false
         · rw [if_pos h2]at e';cases e'
         · rw [if_neg h2]at e';exact hp _ _ e'
   rcases hv:nmd l with y|t|y
   · rw [hv]at e
     cases e
     exact h2 _ _ hv
   · rw [hv]at e;cases e
   · rw [hv]at e;cases e
 unfold hP at h
 split at h
 · exact hb _ h
 · split at h
   · exact hn h
   · split at h
     · cases h
     · unfold opH at h
       split at h
       · cases h;decide
       · cases h
end Go.Proofs.YtediahdedmkehaaGreatDoor.Hst
namespace Go.Proofs.YtediahdedmkehaaGreatDoor.Hst
set_option maxRecDepth 100000
open Go.RowKit Utf Remap Norm Pn Puny
theorem fullN_pair:tabP.all (fun t=>decide ((fullN 3 t.2.1).length≤2))=true:=by decide +kernel
theorem full_3le (r:Int):(full r).length≤3:=by
 by_cases hs:44032≤r∧r<55204
 · rw [full_len_eq hs.1 hs.2]
   split <;> omega
 · have hsy:syl r=false:=by
     cases h:syl r with
     | false=>rfl
     | true =>
       have:44032≤r∧r≤55203:=by simpa [syl] using h
       omega
   unfold full
   rw [fullN]
   split
   · decide +kernel
   · split
     · decide +kernel
     · split
       · rename_i p hp
         unfold spl at hp
         rw [if_neg (by rw [hsy];decide)]at hp
         obtain ⟨t,ht,rfl⟩:=Option.map_eq_some_iff.1 hp
         have h2:=of_decide_eq_true (List.all_eq_true.1 fullN_pair t (List.mem_of_find?_eq_some ht))
         rw [List.length_append,List.length_singleton]
         omega
       · simp
theorem dec_3len:∀ l:List Int,(dec l).length≤l.length*3
 | []=>by simp [dec]
 | x :: t => by
   have ih:=dec_3len t
   rw [dec_eq]at ih ⊢
   rw [List.flatMap_cons,List.length_append,List.length_cons]
   have:(dec1 x).length≤3:=by unfold dec1;rw [List.length_map];exact full_3le x
   omega
theorem m1_dec (r:Int):(dec (m1 r)).length≤3:=by
 rcases m1_cases r with h|h|h|⟨s,_,_,h⟩
 · rw [h];exact dec_3len [r]
 · rw [h];simp [dec]
 · rw [h];decide +kernel
 · rw [h];exact dec_3len [_]
theorem mapL_dec:∀ l:List Int,(dec (mapL l)).length≤l.length*3
 | []=>by simp [mapL,dec]
 | x :: t => by
   have ih:=mapL_dec t
   have e:mapL (x::t)=m1 x++mapL t:=rfl
   have e2:dec (m1 x++mapL t)=dec (m1 x)++dec (mapL t):=by unfold dec;rw [List.flatMap_append]
   rw [e,e2,List.length_append,List.length_cons]
   have:=m1_dec x
   omega
theorem nfc_3len {l:List Int} (h:∀ x∈mapL l,Utf.sca x=true):(nfc (mapL l)).length≤l.length*3:=by
 have hc:C32 (mapL l):=fun x hx=>by have:=sca_pos (h x hx);omega
 have h1:=nfc_le hc
 rw [nfd_len]at h1
 have:=mapL_dec l
 omega
theorem fits_300 {l:List Int} (h:l.length≤300):Fits l:=fun hg=>by
 have hm:=mapL_len l
 have hn:=nfc_3len (mapL_sca hg)
 have ht:(toN (nfc (mapL l))).length=(nfc (mapL l)).length:=by unfold toN;rw [List.length_map]
 have hl:=lab_len (toN (nfc (mapL l)))
 exact ⟨by omega,by omega,fun p hp=>by have:=(lab_mem hp).2;omega⟩
theorem enc_low {l:List Int} (h:∀ x∈l,0≤x∧x<128):enc l=l:=by
 induction l with
 | nil=>rfl
 | cons x t ih =>
   have hx:=h x (List.mem_cons_self ..)
   rw [enc_cons,ih fun y hy=>h y (List.mem_cons_of_mem _ hy)]
   have:encOne x=[x]:=by
     unfold encOne
     rw [fix_of_sca (decide_eq_true (by omega)),Utf.b1_1 (by omega)]
   rw [this]
   rfl
theorem pgo_plain:∀ {l:List UInt8},(37:UInt8) ∉ l→pgo 0 l=bi l
 | [],_=>rfl
 | c :: t, h => by
   have hc:c≠37:=fun e=>h (by simp [e])
   have e:cod (c::t)=(c.toNat,false):=if_neg hc
   rw [pgo,e]
   show (c.toNat:Int)::pgo (if false=true then 2 else 0) t=_
   rw [if_neg (by decide),pgo_plain fun e=>h (List.mem_cons_of_mem _ e)]
   rfl
theorem nums_bi (l:List Int) (h:∀ x∈l,0≤x∧x<256):bi (dl (strOfNums l))=l:=by
 show bi (l.map fun n=>UInt8.ofNat n.toNat).toArray.toList=l
 unfold bi
 rw [List.map_map]
 refine (List.map_congr_left fun x hx => ?_).trans (List.map_id l)
 have:=h x hx
 show (((UInt8.ofNat x.toNat).toNat:Nat):Int)=x
 have e:(UInt8.ofNat x.toNat).toNat=x.toNat:=by
   simp
   omega
 rw [e]
 omega
theorem nums_mem {l:List Int} {b:UInt8} (h:b∈dl (strOfNums l)):∃ x∈l,b=UInt8.ofNat x.toNat:=by
 obtain ⟨x,hx,e⟩:=List.mem_map.1 (show b∈l.map fun n=>UInt8.ofNat n.toNat from h)
 exact ⟨x,hx,e.symm⟩
theorem dcd_plain {l:List Int} (h:∀ x∈l,0≤x∧x<128) (h37:(37:Int) ∉ l):dcd l=l:=by
 have e1:=enc_low h
 have e2:pby l=l:=by
   unfold pby
   rw [e1]
   unfold pdec
   rw [pgo_plain,nums_bi l fun x hx=>by have:=h x hx;omega]
   intro hm
   obtain ⟨x,hx,e⟩:=nums_mem hm
   have hx':=h x hx
   have:x.toNat=37:=by
     have:=congrArg UInt8.toNat e
     simp at this
     omega
   exact h37 (by rwa [show (37:Int)=x by omega])
 unfold dcd
 rw [e2]
 have:=Utf.dec_enc l
 rw [e1]at this
 rw [this]
 refine (List.map_congr_left fun x hx => ?_).trans (List.map_id l)
 have:=h x hx
 exact fix_of_sca (decide_eq_true (by omega))
theorem dcd_asc_len {l:List Int} (h:∀ x∈l,0≤x∧x<128):(dcd l).length≤l.length:=by
 have h1:=pdec_le (dl (strOfNums (enc l))) 0
 have h2:(dl (strOfNums (enc l))).length=(enc l).length:=by simp [dl,strOfNums]
 have h3:=codes_len (pby l)
 rw [enc_low h]at h1 h2
 have h4:(pby l).length≤l.length:=by unfold pby pdec;rw [enc_low h];omega
 unfold dcd Utf.dec
 rw [List.length_map]
 omega
theorem conv_asc (s:ByteArray) (w:World) (h:∀ x∈dl s,x.toNat<128) (hs:s.size≤1000000) :
   ∃ W' c,(convert 9 22 (.string s)).run Tryz.prog w = .ok (.slice (some ⟨w.heap.size,0,none⟩) s.size c) W'∧s.size≤c∧Row W' W'.heap.size (some ⟨w.heap.size,0,none⟩) (cl .i32 (bi (dl s)))∧Below w.heap.size w W':=by
 obtain ⟨c,hrun,hc,_⟩:=Pn.conv_runes s w h hs
 have hl:(Pn.nat8 s.data.toList).length=s.size:=by simp [Pn.nat8]
 rw [hl]at hrun hc
 refine ⟨_,c,hrun,hc, ?_,(Below.refl _ w).drew.alloc (Nat.le_refl _) _⟩
 have e:cn (Pn.nat8 s.data.toList)=cl .i32 (bi (dl s)):=by
   rw [cn_ofN]
   unfold bi ofN Pn.nat8
   rw [List.map_map]
   rfl
 rw [e]
 refine .inr ⟨w.heap.size,0,rfl,by rw [World.size_alloc];exact Nat.lt_succ_self _,fun k hk => ?_⟩
 have hn:=World.alloc_heap_new w.drew (.cells ((cl .i32 (bi (dl s))).toArray++Array.replicate (c - s.size) (.int .i32 0)) 21)
 rw [Nat.zero_add]
 show World.cell? _ ⟨w.drew.heap.size,k,none⟩=_
 rw [cell_of_row _ _ k _ _ _ hn]
 have hk2:k<(bi (dl s)).length:=by simpa [cl] using hk
 simp [Array.getElem?_append]
 intro h2
 omega
end Go.Proofs.YtediahdedmkehaaGreatDoor.Hst
namespace Go.Proofs.YtediahdedmkehaaGreatDoor.Hst
set_option maxRecDepth 100000
open Go.RowKit Utf Remap Norm Pn Puny
def rdE:Int ⊕ Ho→Ho
 | .inl _=>⟨99,[101,114,114,111,114],0,Sx.z8⟩
 | .inr h=>h
def erE:Int ⊕ Ho→Int
 | .inl x=>x
 | .inr _=>0
theorem bi_asc {t:List UInt8} (h:∀ b∈t,b.toNat<128):∀ x∈bi t,0≤x∧x<128:=by
 intro x hx
 obtain ⟨b,hb,rfl⟩:=List.mem_map.1 hx
 have:=h b hb
 omega
theorem Parse_asc (s:ByteArray) (ha:∀ b∈dl s,b.toNat<128) (hs:s.size≤300) (sp:Bool) (c:Nat) (hc:s.size≤c) (A:Option Addr) (w:World) (hE:Sx.Env w) (hr:Row w w.heap.size A (cl .i32 (bi (dl s)))) :
   Calls Tryz.prog 9 #[.slice A s.size c,.bool sp] w (HoR (hP (bi (dl s)) sp) w):=by
 have hn:(bi (dl s)).length=s.size:=by simp [bi,dl]
 have hd:=dcd_asc_len (bi_asc ha)
 exact HParse_any (bi (dl s)) sp A s.size c w hn (by omega) hc (fun _=>by omega) (fun _=>by omega) (fun _=>⟨by omega,fits_300 (by omega)⟩) hE hr
set_option maxHeartbeats 4000000 in
theorem reads_any (s:ByteArray) (ha:∀ b∈dl s,b.toNat<128) (hs:s.size≤300) (sp:Bool) (w:World) (hE:Sx.Env w):Calls Tryz.prog 24 #[.string s,.bool sp] w (fun e w'=>e = .returned (rdE (hP (bi (dl s)) sp)).v∧Below w.heap.size w w'):=by
 have hB0:=upA w (.cells hN.cs.toArray 27)
 have hX:=HBk.new w 27 hN
 obtain ⟨w1,hw1⟩:∃ w1,w.alloc (.cells hN.cs.toArray 27)=w1:=⟨_,rfl⟩
 rw [hw1]at hB0 hX
 have hw2:w.alloc (.cells #[.int .u8 0,.string ⟨#[]⟩,.int .u32 0,.int .u16 0,.int .u16 0,.int .u16 0,.int .u16 0,.int .u16 0,.int .u16 0,.int .u16 0,.int .u16 0] 27)=w1:=hw1
 clear hw1
 obtain ⟨W2,c,hcv,hc,hr,hB2⟩:=conv_asc s w1 ha (by omega)
 have HP:=Lib.hid (Parse_asc s ha hs sp c hc _ W2 (hE.go (upB hB0 hB2)) hr)
 have HE:=Lib.hid (fun x (h:hP (bi (dl s)) sp = .inl x)=>hP_err h)
 have HL:=Lib.hid (fun h (e:hP (bi (dl s)) sp = .inr h)=>hP_len e)
 obtain ⟨v,hv⟩:∃ v,hP (bi (dl s)) sp=v:=⟨_,rfl⟩
 rw [hv]at HP HE HL ⊢
 unfold HoR at HP
 have HB0:=Lib.hid hB0
 have HX:=Lib.hid hX
 have hlt:=hX.lt
 have HB2:=Lib.hid hB2
 clear hv hB0 hX hB2 hr hE ha hc
 cases v with
 | inl x =>
   have hx:(x != 0)=true:=by simpa using HE.out x rfl
   unfold HoV at HP
   go_enter Tryz.func24,Tryz.ntmps24
   go_upto_region 1 with fail
   clear hw2
   go_wp2_with (first
     | (go_at_call 9;refine HP.out.mono ?_;rintro e w3 ⟨rfl,hB3⟩)
     | (refine storeH rfl _ _ rfl _ 27 hN hN rfl rfl (HBk.new w3 27 hN) rfl rfl ?_;intro w4 hX4 hB4;have hB4':=(upA w3 (.cells hN.cs.toArray 27)).trans hB4;have hX0:=((HX.out.go HB2.out).go hB3).go hB4')
     | (refine storeH rfl _ _ rfl _ 27 hN ⟨99,[101,114,114,111,114],0,Sx.z8⟩ rfl rfl hX0 rfl rfl ?_;intro w5 hX5 hB5)
     | fail)
   refine bodyPost_ret (Sx.results_cell Tryz.results24 rfl (load_var hX5 rfl)) rfl ⟨rfl, ?_⟩
   exact (upB (upB (upB HB0.out HB2.out) hB3) hB4').trans hB5
 | inr h =>
   have H8:=Lib.hid (HL.out h rfl)
   unfold HoV at HP
   go_enter Tryz.func24,Tryz.ntmps24
   go_upto_region 1 with fail
   clear hw2
   go_wp2_with (first
     | (go_at_call 9;refine HP.out.mono ?_;rintro e w3 ⟨rfl,hB3⟩)
     | (refine storeH rfl _ _ rfl _ 27 hN h rfl rfl (HBk.new w3 27 hN) rfl H8.out ?_;intro w4 hX4 hB4;have hB4':=(upA w3 (.cells hN.cs.toArray 27)).trans hB4;have hX0:=((HX.out.go HB2.out).go hB3).go hB4')
     | (refine loadH _ rfl _ 27 rfl h hX4 H8.out rfl ?_)
     | (refine storeH rfl _ _ rfl _ 27 hN h rfl rfl hX0 rfl H8.out ?_;intro w5 hX5 hB5)
     | fail)
   refine bodyPost_ret (Sx.results_cell Tryz.results24 rfl (load_var hX5 H8.out)) rfl ⟨rfl, ?_⟩
   exact (upB (upB (upB HB0.out HB2.out) hB3) hB4').trans hB5
set_option maxHeartbeats 4000000 in
theorem fails_any (s:ByteArray) (ha:∀ b∈dl s,b.toNat<128) (hs:s.size≤300) (sp:Bool) (w:World) (hE:Sx.Env w):Calls Tryz.prog 25 #[.string s,.bool sp] w (fun e w'=>e = .returned (.int .i64 (erE (hP (bi (dl s)) sp)))∧Below w.heap.size w w'):=by
 obtain ⟨W2,c,hcv,hc,hr,hB2⟩:=conv_asc s w ha (by omega)
 have HP:=Lib.hid (Parse_asc s ha hs sp c hc _ W2 (hE.go hB2) hr)
 have HL:=Lib.hid (fun h (e:hP (bi (dl s)) sp = .inr h)=>hP_len e)
 obtain ⟨v,hv⟩:∃ v,hP (bi (dl s)) sp=v:=⟨_,rfl⟩
 rw [hv]at HP HL ⊢
 unfold HoR at HP
 obtain ⟨h,x,hvv,h8⟩:=hoV_split v (fun h e=>HL.out h e)
 have he:erE v=x:=by
   cases v with
   | inl y=>injection hvv with e;injection e with e;simp at e;exact e.2
   | inr y=>injection hvv with e;injection e with e;simp at e;exact e.2
 rw [hvv]at HP
 rw [he]
 have HB2:=Lib.hid hB2
 clear hv hB2 hr hE ha hc he hvv HL
 go_enter Tryz.func25,Tryz.ntmps25
 go_wp2_with (first
   | (go_at_call 9;refine HP.out.mono ?_;rintro e w3 ⟨rfl,hB3⟩)
   | (refine storeH rfl _ _ rfl _ 27 hN h rfl rfl (HBk.new w3 27 hN) rfl h8 ?_;intro w4 hX4 hB4;have hB4':=(upA w3 (.cells hN.cs.toArray 27)).trans hB4)
   | fail)
 go_ret
 exact ⟨rfl,upB (upB HB2.out hB3) hB4'⟩
end Go.Proofs.YtediahdedmkehaaGreatDoor.Hst
namespace Go.Proofs.YtediahdedmkehaaGreatDoor.Hst
set_option maxRecDepth 100000
open Go.RowKit Utf Remap Norm Pn Puny
theorem ex1:hP (bi [69,88,65,77,80,76,69,46,99,111,109]) true = .inr ⟨2,[101,120,97,109,112,108,101,46,99,111,109],0,Sx.z8⟩:=by decide +kernel
theorem ex2:hP (bi [37,52,49]) true = .inr ⟨2,[97],0,Sx.z8⟩:=by decide +kernel
theorem ex3:hP (bi [48,120,55,102,46,49]) true = .inr ⟨3,[],2130706433,Sx.z8⟩:=by decide +kernel
theorem ex4:hP (bi [48,120,55,102,46,49]) false = .inr ⟨5,[48,120,55,102,46,49],0,Sx.z8⟩:=by decide +kernel
theorem ex5:hP (bi [91,58,58,49,93]) true = .inr ⟨4,[],0,[0,0,0,0,0,0,0,1]⟩:=by decide +kernel
theorem ex6:hP (bi [91,58,58,49,93]) false = .inr ⟨4,[],0,[0,0,0,0,0,0,0,1]⟩:=by decide +kernel
theorem ex7:hP (bi [97,32,98]) true = .inl 32:=by decide +kernel
theorem ex8:hP (bi [97,32,98]) false = .inl 32:=by decide +kernel
theorem ex9:hP (bi [97,37,98]) true = .inl 32:=by decide +kernel
theorem ex10:hP (bi [97,37,98]) false = .inr ⟨5,[97,37,98],0,Sx.z8⟩:=by decide +kernel
theorem ex11:hP (bi []) true = .inl 32:=by decide +kernel
theorem ex12:hP (bi [91,58,58,49]) true = .inl 31:=by decide +kernel
theorem ex13:hP (bi [49,46,50,53,54,46,49]) true = .inl 30:=by decide +kernel
end Go.Proofs.YtediahdedmkehaaGreatDoor.Hst
namespace Go.Proofs.YtediahdedmkehaaGreatDoor.Hst
set_option maxRecDepth 100000
open Go.RowKit Utf Remap Norm Pn Puny
theorem reads_lit (s:ByteArray) (sp:Bool) (h:Ho) (v:Value) (hp:hP (bi (dl s)) sp = .inr h) (hv:h.v=v) (ha:(dl s).all (fun b=>decide (b.toNat<128))=true) (hs:s.size≤300) (w:World) (hE:Sx.Env w):Calls Tryz.prog 24 #[.string s,.bool sp] w (fun e w'=>e = .returned v∧Below w.heap.size w w'):=by
 have:=reads_any s (fun b hb=>of_decide_eq_true (List.all_eq_true.1 ha b hb)) hs sp w hE
 rw [hp]at this
 subst hv
 exact this
theorem fails_lit (s:ByteArray) (sp:Bool) (x:Int) (hp:hP (bi (dl s)) sp = .inl x) (ha:(dl s).all (fun b=>decide (b.toNat<128))=true) (hs:s.size≤300) (w:World) (hE:Sx.Env w):Calls Tryz.prog 25 #[.string s,.bool sp] w (fun e w'=>e = .returned (.int .i64 x)∧Below w.heap.size w w'):=by
 have:=fails_any s (fun b hb=>of_decide_eq_true (List.all_eq_true.1 ha b hb)) hs sp w hE
 rw [hp]at this
 exact this
theorem same_lit (h:Ho) (v:Value) (hv:h.v=v) (h8:h.x.length=8) (w:World):(Op.equalIn 10000 27 v v).run Tryz.prog w = .ok true w:=by
 subst hv
 have:=equalH h h h8 h8 w
 rw [decide_eq_true rfl]at this
 exact this
set_option maxHeartbeats 8000000 in
theorem awake14_any (w:World) (hE:Sx.Env w):Calls Tryz.prog 8 #[] w (Says true w):=by
 have HC0:Hid (∀ W,Below w.heap.size w W→Calls Tryz.prog 24 #[.string ⟨#[69,88,65,77,80,76,69,46,99,111,109]⟩,.bool true] W (fun e w'=>e = .returned (.agg #[.int .u8 2,.string ⟨#[101,120,97,109,112,108,101,46,99,111,109]⟩,.int .u32 0,.int .u16 0,.int .u16 0,.int .u16 0,.int .u16 0,.int .u16 0,.int .u16 0,.int .u16 0,.int .u16 0])∧Below W.heap.size W w')):=Lib.hid (fun W h=>reads_lit ⟨#[69,88,65,77,80,76,69,46,99,111,109]⟩ true ⟨2,[101,120,97,109,112,108,101,46,99,111,109],0,Sx.z8⟩ _ ex1 rfl (by decide) (by decide) W (hE.go h))
 have HC1:Hid (∀ W,Below w.heap.size w W→Calls Tryz.prog 24 #[.string ⟨#[37,52,49]⟩,.bool true] W (fun e w'=>e = .returned (.agg #[.int .u8 2,.string ⟨#[97]⟩,.int .u32 0,.int .u16 0,.int .u16 0,.int .u16 0,.int .u16 0,.int .u16 0,.int .u16 0,.int .u16 0,.int .u16 0])∧Below W.heap.size W w')):=Lib.hid (fun W h=>reads_lit ⟨#[37,52,49]⟩ true ⟨2,[97],0,Sx.z8⟩ _ ex2 rfl (by decide) (by decide) W (hE.go h))
 have HC2:Hid (∀ W,Below w.heap.size w W→Calls Tryz.prog 24 #[.string ⟨#[48,120,55,102,46,49]⟩,.bool true] W (fun e w'=>e = .returned (.agg #[.int .u8 3,.string ⟨#[]⟩,.int .u32 2130706433,.int .u16 0,.int .u16 0,.int .u16 0,.int .u16 0,.int .u16 0,.int .u16 0,.int .u16 0,.int .u16 0])∧Below W.heap.size W w')):=Lib.hid (fun W h=>reads_lit ⟨#[48,120,55,102,46,49]⟩ true ⟨3,[],2130706433,Sx.z8⟩ _ ex3 rfl (by decide) (by decide) W (hE.go h))
 have HC3:Hid (∀ W,Below w.heap.size w W→Calls Tryz.prog 24 #[.string ⟨#[48,120,55,102,46,49]⟩,.bool false] W (fun e w'=>e = .returned (.agg #[.int .u8 5,.string ⟨#[48,120,55,102,46,49]⟩,.int .u32 0,.int .u16 0,.int .u16 0,.int .u16 0,.int .u16 0,.int .u16 0,.int .u16 0,.int .u16 0,.int .u16 0])∧Below W.heap.size W w')):=Lib.hid (fun W h=>reads_lit ⟨#[48,120,55,102,46,49]⟩ false ⟨5,[48,120,55,102,46,49],0,Sx.z8⟩ _ ex4 rfl (by decide) (by decide) W (hE.go h))
 have HC4:Hid (∀ W,Below w.heap.size w W→Calls Tryz.prog 24 #[.string ⟨#[91,58,58,49,93]⟩,.bool true] W (fun e w'=>e = .returned (.agg #[.int .u8 4,.string ⟨#[]⟩,.int .u32 0,.int .u16 0,.int .u16 0,.int .u16 0,.int .u16 0,.int .u16 0,.int .u16 0,.int .u16 0,.int .u16 1])∧Below W.heap.size W w')):=Lib.hid (fun W h=>reads_lit ⟨#[91,58,58,49,93]⟩ true ⟨4,[],0,[0,0,0,0,0,0,0,1]⟩ _ ex5 rfl (by decide) (by decide) W (hE.go h))
 have HC5:Hid (∀ W,Below w.heap.size w W→Calls Tryz.prog 24 #[.string ⟨#[91,58,58,49,93]⟩,.bool false] W (fun e w'=>e = .returned (.agg #[.int .u8 4,.string ⟨#[]⟩,.int .u32 0,.int .u16 0,.int .u16 0,.int .u16 0,.int .u16 0,.int .u16 0,.int .u16 0,.int .u16 0,.int .u16 1])∧Below W.heap.size W w')):=Lib.hid (fun W h=>reads_lit ⟨#[91,58,58,49,93]⟩ false ⟨4,[],0,[0,0,0,0,0,0,0,1]⟩ _ ex6 rfl (by decide) (by decide) W (hE.go h))
 have HC6:Hid (∀ W,Below w.heap.size w W→Calls Tryz.prog 25 #[.string ⟨#[97,32,98]⟩,.bool true] W (fun e w'=>e = .returned (.int .i64 32)∧Below W.heap.size W w')):=Lib.hid (fun W h=>fails_lit ⟨#[97,32,98]⟩ true 32 ex7 (by decide) (by decide) W (hE.go h))
 have HC7:Hid (∀ W,Below w.heap.size w W→Calls Tryz.prog 25 #[.string ⟨#[97,32,98]⟩,.bool false] W (fun e w'=>e = .returned (.int .i64 32)∧Below W.heap.size W w')):=Lib.hid (fun W h=>fails_lit ⟨#[97,32,98]⟩ false 32 ex8 (by decide) (by decide) W (hE.go h))
 have HC8:Hid (∀ W,Below w.heap.size w W→Calls Tryz.prog 25 #[.string ⟨#[97,37,98]⟩,.bool true] W (fun e w'=>e = .returned (.int .i64 32)∧Below W.heap.size W w')):=Lib.hid (fun W h=>fails_lit ⟨#[97,37,98]⟩ true 32 ex9 (by decide) (by decide) W (hE.go h))
 have HC9:Hid (∀ W,Below w.heap.size w W→Calls Tryz.prog 24 #[.string ⟨#[97,37,98]⟩,.bool false] W (fun e w'=>e = .returned (.agg #[.int .u8 5,.string ⟨#[97,37,98]⟩,.int .u32 0,.int .u16 0,.int .u16 0,.int .u16 0,.int .u16 0,.int .u16 0,.int .u16 0,.int .u16 0,.int .u16 0])∧Below W.heap.size W w')):=Lib.hid (fun W h=>reads_lit ⟨#[97,37,98]⟩ false ⟨5,[97,37,98],0,Sx.z8⟩ _ ex10 rfl (by decide) (by decide) W (hE.go h))
 have HC10:Hid (∀ W,Below w.heap.size w W→Calls Tryz.prog 25 #[.string ⟨#[]⟩,.bool true] W (fun e w'=>e = .returned (.int .i64 32)∧Below W.heap.size W w')):=Lib.hid (fun W h=>fails_lit ⟨#[]⟩ true 32 ex11 (by decide) (by decide) W (hE.go h))
 have HC11:Hid (∀ W,Below w.heap.size w W→Calls Tryz.prog 25 #[.string ⟨#[91,58,58,49]⟩,.bool true] W (fun e w'=>e = .returned (.int .i64 31)∧Below W.heap.size W w')):=Lib.hid (fun W h=>fails_lit ⟨#[91,58,58,49]⟩ true 31 ex12 (by decide) (by decide) W (hE.go h))
 have HC12:Hid (∀ W,Below w.heap.size w W→Calls Tryz.prog 25 #[.string ⟨#[49,46,50,53,54,46,49]⟩,.bool true] W (fun e w'=>e = .returned (.int .i64 30)∧Below W.heap.size W w')):=Lib.hid (fun W h=>fails_lit ⟨#[49,46,50,53,54,46,49]⟩ true 30 ex13 (by decide) (by decide) W (hE.go h))
 have he0:∀ W:World,(Op.equalIn 10000 27 (.agg #[.int .u8 2,.string ⟨#[101,120,97,109,112,108,101,46,99,111,109]⟩,.int .u32 0,.int .u16 0,.int .u16 0,.int .u16 0,.int .u16 0,.int .u16 0,.int .u16 0,.int .u16 0,.int .u16 0]) (.agg #[.int .u8 2,.string ⟨#[101,120,97,109,112,108,101,46,99,111,109]⟩,.int .u32 0,.int .u16 0,.int .u16 0,.int .u16 0,.int .u16 0,.int .u16 0,.int .u16 0,.int .u16 0,.int .u16 0])).run Tryz.prog W = .ok true W:=fun W=>same_lit ⟨2,[101,120,97,109,112,108,101,46,99,111,109],0,Sx.z8⟩ _ rfl rfl W
 have he1:∀ W:World,(Op.equalIn 10000 27 (.agg #[.int .u8 2,.string ⟨#[97]⟩,.int .u32 0,.int .u16 0,.int .u16 0,.int .u16 0,.int .u16 0,.int .u16 0,.int .u16 0,.int .u16 0,.int .u16 0]) (.agg #[.int .u8 2,.string ⟨#[97]⟩,.int .u32 0,.int .u16 0,.int .u16 0,.int .u16 0,.int .u16 0,.int .u16 0,.int .u16 0,.int .u16 0,.int .u16 0])).run Tryz.prog W = .ok true W:=fun W=>same_lit ⟨2,[97],0,Sx.z8⟩ _ rfl rfl W
 have he2:∀ W:World,(Op.equalIn 10000 27 (.agg #[.int .u8 3,.string ⟨#[]⟩,.int .u32 2130706433,.int .u16 0,.int .u16 0,.int .u16 0,.int .u16 0,.int .u16 0,.int .u16 0,.int .u16 0,.int .u16 0]) (.agg #[.int .u8 3,.string ⟨#[]⟩,.int .u32 2130706433,.int .u16 0,.int .u16 0,.int .u16 0,.int .u16 0,.int .u16 0,.int .u16 0,.int .u16 0,.int .u16 0])).run Tryz.prog W = .ok true W:=fun W=>same_lit ⟨3,[],2130706433,Sx.z8⟩ _ rfl rfl W
 have he3:∀ W:World,(Op.equalIn 10000 27 (.agg #[.int .u8 5,.string ⟨#[48,120,55,102,46,49]⟩,.int .u32 0,.int .u16 0,.int .u16 0,.int .u16 0,.int .u16 0,.int .u16 0,.int .u16 0,.int .u16 0,.int .u16 0]) (.agg #[.int .u8 5,.string ⟨#[48,120,55,102,46,49]⟩,.int .u32 0,.int .u16 0,.int .u16 0,.int .u16 0,.int .u16 0,.int .u16 0,.int .u16 0,.int .u16 0,.int .u16 0])).run Tryz.prog W = .ok true W:=fun W=>same_lit ⟨5,[48,120,55,102,46,49],0,Sx.z8⟩ _ rfl rfl W
 have he4:∀ W:World,(Op.equalIn 10000 27 (.agg #[.int .u8 4,.string ⟨#[]⟩,.int .u32 0,.int .u16 0,.int .u16 0,.int .u16 0,.int .u16 0,.int .u16 0,.int .u16 0,.int .u16 0,.int .u16 1]) (.agg #[.int .u8 4,.string ⟨#[]⟩,.int .u32 0,.int .u16 0,.int .u16 0,.int .u16 0,.int .u16 0,.int .u16 0,.int .u16 0,.int .u16 0,.int .u16 1])).run Tryz.prog W = .ok true W:=fun W=>same_lit ⟨4,[],0,[0,0,0,0,0,0,0,1]⟩ _ rfl rfl W
 have he5:∀ W:World,(Op.equalIn 10000 27 (.agg #[.int .u8 5,.string ⟨#[97,37,98]⟩,.int .u32 0,.int .u16 0,.int .u16 0,.int .u16 0,.int .u16 0,.int .u16 0,.int .u16 0,.int .u16 0,.int .u16 0]) (.agg #[.int .u8 5,.string ⟨#[97,37,98]⟩,.int .u32 0,.int .u16 0,.int .u16 0,.int .u16 0,.int .u16 0,.int .u16 0,.int .u16 0,.int .u16 0,.int .u16 0])).run Tryz.prog W = .ok true W:=fun W=>same_lit ⟨5,[97,37,98],0,Sx.z8⟩ _ rfl rfl W
 have hB0:=upA w (.cells #[.int .u8 4,.string ⟨#[]⟩,.int .u32 0,.int .u16 0,.int .u16 0,.int .u16 0,.int .u16 0,.int .u16 0,.int .u16 0,.int .u16 0,.int .u16 1] 27)
 have hX0:=HBk.new w 27 ⟨4,[],0,[0,0,0,0,0,0,0,1]⟩
 have HE:=Lib.hid hE
 clear hE
 go_enter Tryz.func8,Tryz.ntmps8
 go_upto_region 2 with fail
 obtain ⟨w0,hw0⟩:∃ w0,w.alloc (.cells #[.int .u8 4,.string ⟨#[]⟩,.int .u32 0,.int .u16 0,.int .u16 0,.int .u16 0,.int .u16 0,.int .u16 0,.int .u16 0,.int .u16 0,.int .u16 1] 27)=w0:=⟨_,rfl⟩
 have hX00:HBk w0 w.heap.size 27 ⟨4,[],0,[0,0,0,0,0,0,0,1]⟩:=by rw [←hw0];exact hX0
 rw [hw0]at hB0 ⊢
 clear hw0 hX0
 go_upto_region 3 with (first
   | (go_at_call 24;((with_reducible refine (HC0.out _ hB0).mono ?_);rintro e w1 ⟨rfl,hb1⟩;have hB1:=hB0.trans (hb1.mono hB0.size)))
   | (go_at_call 24;((with_reducible refine (HC1.out _ hB1).mono ?_);rintro e w2 ⟨rfl,hb2⟩;have hB2:=hB1.trans (hb2.mono hB1.size)))
   | (go_at_call 24;((with_reducible refine (HC2.out _ hB2).mono ?_);rintro e w3 ⟨rfl,hb3⟩;have hB3:=hB2.trans (hb3.mono hB2.size)))
   | (go_at_call 24;((with_reducible refine (HC3.out _ hB3).mono ?_);rintro e w4 ⟨rfl,hb4⟩;have hB4:=hB3.trans (hb4.mono hB3.size)))
   | fail)
 have hY4:HBk w4 w.heap.size 27 ⟨4,[],0,[0,0,0,0,0,0,0,1]⟩:=(((hX00.go hb1).go hb2).go hb3).go hb4
 have hR4:w4.cell? ⟨w.heap.size,0,none⟩=some (.int .u8 4)∧w4.cell? ⟨w.heap.size,1,none⟩=some (.string ⟨#[]⟩)∧w4.cell? ⟨w.heap.size,2,none⟩=some (.int .u32 0)∧w4.cell? ⟨w.heap.size,3,none⟩=some (.int .u16 0)∧w4.cell? ⟨w.heap.size,4,none⟩=some (.int .u16 0)∧w4.cell? ⟨w.heap.size,5,none⟩=some (.int .u16 0)∧w4.cell? ⟨w.heap.size,6,none⟩=some (.int .u16 0)∧w4.cell? ⟨w.heap.size,7,none⟩=some (.int .u16 0)∧w4.cell? ⟨w.heap.size,8,none⟩=some (.int .u16 0)∧w4.cell? ⟨w.heap.size,9,none⟩=some (.int .u16 0)∧w4.cell? ⟨w.heap.size,10,none⟩=some (.int .u16 1):=⟨HBk.cell (k:=0) hY4 rfl,HBk.cell (k:=1) hY4 rfl,HBk.cell (k:=2) hY4 rfl,HBk.cell (k:=3) hY4 rfl,HBk.cell (k:=4) hY4 rfl,HBk.cell (k:=5) hY4 rfl,HBk.cell (k:=6) hY4 rfl,HBk.cell (k:=7) hY4 rfl,HBk.cell (k:=8) hY4 rfl,HBk.cell (k:=9) hY4 rfl,HBk.cell (k:=10) hY4 rfl⟩
 have hR4d:w4.drew.cell? ⟨w.heap.size,0,none⟩=some (.int .u8 4)∧w4.drew.cell? ⟨w.heap.size,1,none⟩=some (.string ⟨#[]⟩)∧w4.drew.cell? ⟨w.heap.size,2,none⟩=some (.int .u32 0)∧w4.drew.cell? ⟨w.heap.size,3,none⟩=some (.int .u16 0)∧w4.drew.cell? ⟨w.heap.size,4,none⟩=some (.int .u16 0)∧w4.drew.cell? ⟨w.heap.size,5,none⟩=some (.int .u16 0)∧w4.drew.cell? ⟨w.heap.size,6,none⟩=some (.int .u16 0)∧w4.drew.cell? ⟨w.heap.size,7,none⟩=some (.int .u16 0)∧w4.drew.cell? ⟨w.heap.size,8,none⟩=some (.int .u16 0)∧w4.drew.cell? ⟨w.heap.size,9,none⟩=some (.int .u16 0)∧w4.drew.cell? ⟨w.heap.size,10,none⟩=some (.int .u16 1):=hR4
 clear hX00 hb1 hb2 hb3 hb4 hB0 hB1 hB2 hB3
 go_region_held3 (fun w'=>w'.cell? ⟨w.heap.size,0,none⟩=some (.int .u8 4)∧w'.cell? ⟨w.heap.size,1,none⟩=some (.string ⟨#[]⟩)∧w'.cell? ⟨w.heap.size,2,none⟩=some (.int .u32 0)∧w'.cell? ⟨w.heap.size,3,none⟩=some (.int .u16 0)∧w'.cell? ⟨w.heap.size,4,none⟩=some (.int .u16 0)∧w'.cell? ⟨w.heap.size,5,none⟩=some (.int .u16 0)∧w'.cell? ⟨w.heap.size,6,none⟩=some (.int .u16 0)∧w'.cell? ⟨w.heap.size,7,none⟩=some (.int .u16 0)∧w'.cell? ⟨w.heap.size,8,none⟩=some (.int .u16 0)∧w'.cell? ⟨w.heap.size,9,none⟩=some (.int .u16 0)∧w'.cell? ⟨w.heap.size,10,none⟩=some (.int .u16 1)) (first|with_reducible exact hR4d|with_reducible exact hR4|with_reducible exact hR5|with_reducible exact hR6|with_reducible exact hR7|with_reducible exact hR8|with_reducible exact hR9|with_reducible exact hR10) (first
   | (go_at_call 24;((with_reducible refine (HC4.out _ hB4.drew).mono ?_);rintro e w5 ⟨rfl,hb5⟩;have hY5:HBk w5 w.heap.size 27 ⟨4,[],0,[0,0,0,0,0,0,0,1]⟩:=HBk.go (a:=w4.drew) hY4 hb5;have hR5:w5.cell? ⟨w.heap.size,0,none⟩=some (.int .u8 4)∧w5.cell? ⟨w.heap.size,1,none⟩=some (.string ⟨#[]⟩)∧w5.cell? ⟨w.heap.size,2,none⟩=some (.int .u32 0)∧w5.cell? ⟨w.heap.size,3,none⟩=some (.int .u16 0)∧w5.cell? ⟨w.heap.size,4,none⟩=some (.int .u16 0)∧w5.cell? ⟨w.heap.size,5,none⟩=some (.int .u16 0)∧w5.cell? ⟨w.heap.size,6,none⟩=some (.int .u16 0)∧w5.cell? ⟨w.heap.size,7,none⟩=some (.int .u16 0)∧w5.cell? ⟨w.heap.size,8,none⟩=some (.int .u16 0)∧w5.cell? ⟨w.heap.size,9,none⟩=some (.int .u16 0)∧w5.cell? ⟨w.heap.size,10,none⟩=some (.int .u16 1):=⟨HBk.cell (k:=0) hY5 rfl,HBk.cell (k:=1) hY5 rfl,HBk.cell (k:=2) hY5 rfl,HBk.cell (k:=3) hY5 rfl,HBk.cell (k:=4) hY5 rfl,HBk.cell (k:=5) hY5 rfl,HBk.cell (k:=6) hY5 rfl,HBk.cell (k:=7) hY5 rfl,HBk.cell (k:=8) hY5 rfl,HBk.cell (k:=9) hY5 rfl,HBk.cell (k:=10) hY5 rfl⟩;have hB5:=hB4.drew.trans (hb5.mono hB4.drew.size)))
   | (go_at_call 24;((with_reducible refine (HC5.out _ hB5).mono ?_);rintro e w6 ⟨rfl,hb6⟩;have hY6:HBk w6 w.heap.size 27 ⟨4,[],0,[0,0,0,0,0,0,0,1]⟩:=HBk.go (a:=w5) hY5 hb6;have hR6:w6.cell? ⟨w.heap.size,0,none⟩=some (.int .u8 4)∧w6.cell? ⟨w.heap.size,1,none⟩=some (.string ⟨#[]⟩)∧w6.cell? ⟨w.heap.size,2,none⟩=some (.int .u32 0)∧w6.cell? ⟨w.heap.size,3,none⟩=some (.int .u16 0)∧w6.cell? ⟨w.heap.size,4,none⟩=some (.int .u16 0)∧w6.cell? ⟨w.heap.size,5,none⟩=some (.int .u16 0)∧w6.cell? ⟨w.heap.size,6,none⟩=some (.int .u16 0)∧w6.cell? ⟨w.heap.size,7,none⟩=some (.int .u16 0)∧w6.cell? ⟨w.heap.size,8,none⟩=some (.int .u16 0)∧w6.cell? ⟨w.heap.size,9,none⟩=some (.int .u16 0)∧w6.cell? ⟨w.heap.size,10,none⟩=some (.int .u16 1):=⟨HBk.cell (k:=0) hY6 rfl,HBk.cell (k:=1) hY6 rfl,HBk.cell (k:=2) hY6 rfl,HBk.cell (k:=3) hY6 rfl,HBk.cell (k:=4) hY6 rfl,HBk.cell (k:=5) hY6 rfl,HBk.cell (k:=6) hY6 rfl,HBk.cell (k:=7) hY6 rfl,HBk.cell (k:=8) hY6 rfl,HBk.cell (k:=9) hY6 rfl,HBk.cell (k:=10) hY6 rfl⟩;have hB6:=hB5.trans (hb6.mono hB5.size)))
   | (go_at_call 25;((with_reducible refine (HC6.out _ hB6).mono ?_);rintro e w7 ⟨rfl,hb7⟩;have hY7:HBk w7 w.heap.size 27 ⟨4,[],0,[0,0,0,0,0,0,0,1]⟩:=HBk.go (a:=w6) hY6 hb7;have hR7:w7.cell? ⟨w.heap.size,0,none⟩=some (.int .u8 4)∧w7.cell? ⟨w.heap.size,1,none⟩=some (.string ⟨#[]⟩)∧w7.cell? ⟨w.heap.size,2,none⟩=some (.int .u32 0)∧w7.cell? ⟨w.heap.size,3,none⟩=some (.int .u16 0)∧w7.cell? ⟨w.heap.size,4,none⟩=some (.int .u16 0)∧w7.cell? ⟨w.heap.size,5,none⟩=some (.int .u16 0)∧w7.cell? ⟨w.heap.size,6,none⟩=some (.int .u16 0)∧w7.cell? ⟨w.heap.size,7,none⟩=some (.int .u16 0)∧w7.cell? ⟨w.heap.size,8,none⟩=some (.int .u16 0)∧w7.cell? ⟨w.heap.size,9,none⟩=some (.int .u16 0)∧w7.cell? ⟨w.heap.size,10,none⟩=some (.int .u16 1):=⟨HBk.cell (k:=0) hY7 rfl,HBk.cell (k:=1) hY7 rfl,HBk.cell (k:=2) hY7 rfl,HBk.cell (k:=3) hY7 rfl,HBk.cell (k:=4) hY7 rfl,HBk.cell (k:=5) hY7 rfl,HBk.cell (k:=6) hY7 rfl,HBk.cell (k:=7) hY7 rfl,HBk.cell (k:=8) hY7 rfl,HBk.cell (k:=9) hY7 rfl,HBk.cell (k:=10) hY7 rfl⟩;have hB7:=hB6.trans (hb7.mono hB6.size)))
   | (go_at_call 25;((with_reducible refine (HC7.out _ hB7).mono ?_);rintro e w8 ⟨rfl,hb8⟩;have hY8:HBk w8 w.heap.size 27 ⟨4,[],0,[0,0,0,0,0,0,0,1]⟩:=HBk.go (a:=w7) hY7 hb8;have hR8:w8.cell? ⟨w.heap.size,0,none⟩=some (.int .u8 4)∧w8.cell? ⟨w.heap.size,1,none⟩=some (.string ⟨#[]⟩)∧w8.cell? ⟨w.heap.size,2,none⟩=some (.int .u32 0)∧w8.cell? ⟨w.heap.size,3,none⟩=some (.int .u16 0)∧w8.cell? ⟨w.heap.size,4,none⟩=some (.int .u16 0)∧w8.cell? ⟨w.heap.size,5,none⟩=some (.int .u16 0)∧w8.cell? ⟨w.heap.size,6,none⟩=some (.int .u16 0)∧w8.cell? ⟨w.heap.size,7,none⟩=some (.int .u16 0)∧w8.cell? ⟨w.heap.size,8,none⟩=some (.int .u16 0)∧w8.cell? ⟨w.heap.size,9,none⟩=some (.int .u16 0)∧w8.cell? ⟨w.heap.size,10,none⟩=some (.int .u16 1):=⟨HBk.cell (k:=0) hY8 rfl,HBk.cell (k:=1) hY8 rfl,HBk.cell (k:=2) hY8 rfl,HBk.cell (k:=3) hY8 rfl,HBk.cell (k:=4) hY8 rfl,HBk.cell (k:=5) hY8 rfl,HBk.cell (k:=6) hY8 rfl,HBk.cell (k:=7) hY8 rfl,HBk.cell (k:=8) hY8 rfl,HBk.cell (k:=9) hY8 rfl,HBk.cell (k:=10) hY8 rfl⟩;have hB8:=hB7.trans (hb8.mono hB7.size)))
   | (go_at_call 25;((with_reducible refine (HC8.out _ hB8).mono ?_);rintro e w9 ⟨rfl,hb9⟩;have hY9:HBk w9 w.heap.size 27 ⟨4,[],0,[0,0,0,0,0,0,0,1]⟩:=HBk.go (a:=w8) hY8 hb9;have hR9:w9.cell? ⟨w.heap.size,0,none⟩=some (.int .u8 4)∧w9.cell? ⟨w.heap.size,1,none⟩=some (.string ⟨#[]⟩)∧w9.cell? ⟨w.heap.size,2,none⟩=some (.int .u32 0)∧w9.cell? ⟨w.heap.size,3,none⟩=some (.int .u16 0)∧w9.cell? ⟨w.heap.size,4,none⟩=some (.int .u16 0)∧w9.cell? ⟨w.heap.size,5,none⟩=some (.int .u16 0)∧w9.cell? ⟨w.heap.size,6,none⟩=some (.int .u16 0)∧w9.cell? ⟨w.heap.size,7,none⟩=some (.int .u16 0)∧w9.cell? ⟨w.heap.size,8,none⟩=some (.int .u16 0)∧w9.cell? ⟨w.heap.size,9,none⟩=some (.int .u16 0)∧w9.cell? ⟨w.heap.size,10,none⟩=some (.int .u16 1):=⟨HBk.cell (k:=0) hY9 rfl,HBk.cell (k:=1) hY9 rfl,HBk.cell (k:=2) hY9 rfl,HBk.cell (k:=3) hY9 rfl,HBk.cell (k:=4) hY9 rfl,HBk.cell (k:=5) hY9 rfl,HBk.cell (k:=6) hY9 rfl,HBk.cell (k:=7) hY9 rfl,HBk.cell (k:=8) hY9 rfl,HBk.cell (k:=9) hY9 rfl,HBk.cell (k:=10) hY9 rfl⟩;have hB9:=hB8.trans (hb9.mono hB8.size)))
   | (go_at_call 24;((with_reducible refine (HC9.out _ hB9).mono ?_);rintro e w10 ⟨rfl,hb10⟩;have hY10:HBk w10 w.heap.size 27 ⟨4,[],0,[0,0,0,0,0,0,0,1]⟩:=HBk.go (a:=w9) hY9 hb10;have hR10:w10.cell? ⟨w.heap.size,0,none⟩=some (.int .u8 4)∧w10.cell? ⟨w.heap.size,1,none⟩=some (.string ⟨#[]⟩)∧w10.cell? ⟨w.heap.size,2,none⟩=some (.int .u32 0)∧w10.cell? ⟨w.heap.size,3,none⟩=some (.int .u16 0)∧w10.cell? ⟨w.heap.size,4,none⟩=some (.int .u16 0)∧w10.cell? ⟨w.heap.size,5,none⟩=some (.int .u16 0)∧w10.cell? ⟨w.heap.size,6,none⟩=some (.int .u16 0)∧w10.cell? ⟨w.heap.size,7,none⟩=some (.int .u16 0)∧w10.cell? ⟨w.heap.size,8,none⟩=some (.int .u16 0)∧w10.cell? ⟨w.heap.size,9,none⟩=some (.int .u16 0)∧w10.cell? ⟨w.heap.size,10,none⟩=some (.int .u16 1):=⟨HBk.cell (k:=0) hY10 rfl,HBk.cell (k:=1) hY10 rfl,HBk.cell (k:=2) hY10 rfl,HBk.cell (k:=3) hY10 rfl,HBk.cell (k:=4) hY10 rfl,HBk.cell (k:=5) hY10 rfl,HBk.cell (k:=6) hY10 rfl,HBk.cell (k:=7) hY10 rfl,HBk.cell (k:=8) hY10 rfl,HBk.cell (k:=9) hY10 rfl,HBk.cell (k:=10) hY10 rfl⟩;have hB10:=hB9.trans (hb10.mono hB9.size)))
   | fail)
 clear hY4 hY5 hY6 hY7 hY8 hY9 hY10 hR4 hR4d hR5 hR6 hR7 hR8 hR9 hR10 hb5 hb6 hb7 hb8 hb9 hb10 hB4 hB5 hB6 hB7 hB8 hB9
 go_upto_region 4 with fail
 go_wp2_with (first
   | (go_at_call 25;((with_reducible refine (HC10.out _ hB10).mono ?_);rintro e w11 ⟨rfl,hb11⟩;have hB11:=hB10.trans (hb11.mono hB10.size)))
   | (go_at_call 25;((with_reducible refine (HC11.out _ hB11).mono ?_);rintro e w12 ⟨rfl,hb12⟩;have hB12:=hB11.trans (hb12.mono hB11.size)))
   | (go_at_call 25;((with_reducible refine (HC12.out _ hB12).mono ?_);rintro e w13 ⟨rfl,hb13⟩;have hB13:=hB12.trans (hb13.mono hB12.size)))
   | fail)
 go_ret
 exact ⟨rfl,hB13⟩
end Go.Proofs.YtediahdedmkehaaGreatDoor.Hst
namespace Go.Proofs.YtediahdedmkehaaGreatDoor.Hst
set_option maxRecDepth 100000
open Go.RowKit Utf Remap Norm Pn Puny
def fb (r:Int) (a b:Nat):List Int:=List.replicate a 97++r::List.replicate b 98
theorem fb_len (r:Int) (a b:Nat):(fb r a b).length=a+1+b:=by simp [fb];omega
theorem fb_mem {r:Int} {a b:Nat}:∀ x∈fb r a b,x=97∨x=r∨x=98:=by
 intro x hx
 simp only [fb,List.mem_append,List.mem_cons,List.mem_replicate]at hx
 rcases hx with h|h|h
 · exact .inl h.2
 · exact .inr (.inl h)
 · exact .inr (.inr h.2)
theorem fb_r (r:Int) (a b:Nat):r∈fb r a b:=by simp [fb]
theorem fb_ne (r:Int) (a b:Nat):fb r a b≠[]:=fun h=>by have:=fb_r r a b;rw [h]at this;cases this
theorem fb_head {r:Int} {a b:Nat} (h:¬ (r=91∧a=0)):(fb r a b)[0]!≠91:=by
 cases a with
 | zero=>exact fun e=>h ⟨e,rfl⟩
 | succ a=>exact (by decide:(97:Int)≠91)
theorem fb_any (r:Int) (a b:Nat):(fb r a b).any forb=forb r:=by
 rw [Bool.eq_iff_iff,List.any_eq_true]
 constructor
 · rintro ⟨x,hx,hf⟩
   rcases fb_mem x hx with rfl|rfl|rfl
   · exact absurd hf (by decide)
   · exact hf
   · exact absurd hf (by decide)
 · exact fun h=>⟨r,fb_r r a b,h⟩
theorem fb_np {r:Int} {a b:Nat} (h:¬ (r=91∧a=0)):hP (fb r a b) false=opH (fb r a b):=by
 unfold hP
 rw [if_neg (fun e=>fb_head h e.2),if_neg (by decide),if_neg (fb_ne r a b)]
theorem fb_op {r:Int} {a b:Nat} (h:¬ (r=91∧a=0)):∃ (g:Ho) (x:Int),HoV (hP (fb r a b) false) = .tuple #[g.v,.int .i64 x]∧g.x.length=8∧(x == 32)=forb r:=by
 rw [fb_np h]
 unfold opH
 rw [fb_any]
 cases forb r with
 | true=>exact ⟨hN,32,rfl,rfl,rfl⟩
 | false=>exact ⟨_,0,rfl,rfl,rfl⟩
theorem forbD_low {r:Int} (h:forbD r=true):low r=true∧r≠46:=by
 have h2:0≤r∧r<128:=by
   by_cases hr:r<0∨127<r
   · simp only [forbD,forb_far hr,Bool.false_or,Bool.or_eq_true,decide_eq_true_eq,beq_iff_eq]at h
     omega
   · omega
 obtain ⟨k,rfl⟩:∃ k:Nat,r=(k:Int):=⟨r.toNat,by omega⟩
 have hk:k<128:=by omega
 have H:∀ k:Fin 128,forbD (k.1:Int)=true→low (k.1:Int)=true∧(k.1:Int)≠46:=by decide +kernel
 exact H ⟨k,hk⟩ h
theorem forb_D {r:Int} (h:forb r=true):forbD r=true:=by unfold forbD;rw [h];rfl
theorem fb_37:∀ a b:Fin 21,(65533:Int)∈dcd (fb 37 a.1 b.1)∨dcd (fb 37 a.1 b.1)=fb 37 a.1 b.1:=by decide +kernel
theorem one_fffd:(one 65533).2=3:=by decide +kernel
theorem tA_fffd {l:List Int} (h:(65533:Int)∈l):tA l=none:=by
 unfold tA
 rw [if_pos]
 rw [←Bool.not_eq_true]
 intro hg
 have:=List.all_eq_true.1 hg 65533 h
 simp [one_fffd]at this
theorem fb_low {r:Int} {a b:Nat} (hl:low r=true):∀ x∈fb r a b,low x=true:=by
 intro x hx
 rcases fb_mem x hx with rfl|rfl|rfl
 · decide
 · exact hl
 · decide
theorem fb_aL {r:Int} {a b:Nat} (h:low r=true) (hr:r≠120):aL (fb r a b)=false:=by
 have hb:∀ x∈fb r a b,0≤x∧x<128:=fun x hx=>by
   have:=fb_low h x hx
   simp only [low,decide_eq_true_eq]at this
   omega
 have e:=toN_ofN fun x hx=>(hb x hx).1
 have hd:=runes_asc (l:=toN (fb r a b)) (fun x hx=>by
   obtain ⟨y,hy,rfl⟩:=List.mem_map.1 hx
   have:=hb y hy
   omega)
 rw [e]at hd
 unfold aL
 rw [hd]
 suffices hs:pfx ((toN (fb r a b)).map UInt8.ofNat) [120,110,45,45]=false by rw [hs,Bool.and_false]
 unfold pfx
 rw [decide_eq_false_iff_not]
 cases a with
 | zero =>
   obtain ⟨k,rfl⟩:∃ k:Nat,r=(k:Int):=⟨r.toNat,by have:=hb r (fb_r r 0 b);omega⟩
   have hk:=hb (k:Int) (fb_r k 0 b)
   intro e2
   have e3:UInt8.ofNat k=120:=(List.cons.inj e2).1
   have e4:=congrArg UInt8.toNat e3
   rw [UInt8.toNat_ofNat']at e4
   have e5:(120:UInt8).toNat=120:=rfl
   omega
 | succ a =>
   intro e2
   have e3:UInt8.ofNat (97:Int).toNat=120:=(List.cons.inj e2).1
   exact absurd e3 (by decide)
theorem fb_tA {r:Int} {a b:Nat} (h:forbD r=true):∃ t,tA (fb r a b)=some t∧t.any fdB=true:=by
 obtain ⟨hl,h46⟩:=forbD_low h
 have hp:∀ x∈fb r a b,0≤x:=fun x hx=>by
   have:=fb_low hl x hx
   simp only [low,decide_eq_true_eq]at this
   omega
 have e:=toN_ofN hp
 have h46':46 ∉ toN (fb r a b):=fun h=>by
   obtain ⟨x,hx,h2⟩:=List.mem_map.1 h
   have:=hp x hx
   rcases fb_mem x hx with rfl|rfl|rfl
   · exact absurd h2 (by decide)
   · omega
   · exact absurd h2 (by decide)
 have ht:=low_tA (l:=toN (fb r a b)) (fun x hx=>by
     obtain ⟨y,hy,rfl⟩:=List.mem_map.1 hx
     rw [Int.toNat_of_nonneg (hp y hy)]
     exact fb_low hl y hy) (fun h0=>fb_ne r a b (List.map_eq_nil_iff.1 h0)) (fun p hpp=>by
     rw [lab_none h46']at hpp
     cases List.mem_singleton.1 hpp
     rw [e]
     exact fb_aL hl (fun h=>by subst h;exact absurd h (by decide)))
 rw [e]at ht
 refine ⟨_,ht,List.any_eq_true.2 ⟨UInt8.ofNat r.toNat, ?_, ?_⟩⟩
 · exact List.mem_map.2 ⟨r.toNat,List.mem_map.2 ⟨r,fb_r r a b,rfl⟩,rfl⟩
 · have hlow:=hl
   simp only [low,decide_eq_true_eq]at hlow
   unfold fdB
   rw [show ((UInt8.ofNat r.toNat).toNat:Int)=r by simp;omega]
   exact h
theorem fb_dom {r:Int} {a b:Nat} (h:¬ (r=91∧a=0)) (hD:forbD r=true) (ha:a<21) (hb:b<21):hP (fb r a b) true = .inl 32:=by
 obtain ⟨hl,h46⟩:=forbD_low hD
 have key:(∃ t,dcd (fb r a b)=fb r a b∧tA (fb r a b)=some t∧t.any fdB=true)∨tA (dcd (fb r a b))=none:=by
   by_cases h37:r=37
   · subst h37
     rcases fb_37 ⟨a,ha⟩ ⟨b,hb⟩ with h1|h1
     · exact .inr (tA_fffd h1)
     · obtain ⟨t,h2,h3⟩:=fb_tA (a:=a) (b:=b) hD
       exact .inl ⟨t,h1,h2,h3⟩
   · obtain ⟨t,h2,h3⟩:=fb_tA (a:=a) (b:=b) hD
     refine .inl ⟨t,dcd_plain (fun x hx => ?_) (fun hx => ?_),h2,h3⟩
     · have:=fb_low hl x hx
       simp only [low,decide_eq_true_eq]at this
       omega
     · rcases fb_mem 37 hx with h|h|h
       · exact absurd h (by decide)
       · exact h37 h.symm
       · exact absurd h (by decide)
 unfold hP nmd
 rw [if_neg (fun e=>fb_head h e.2),if_pos rfl]
 rcases key with ⟨t,h1,h2,h3⟩|h1
 · rw [h1,h2]
   show nmH (if t.any fdB=true then .inl 32 else if Fou.ends t=false then .inr (.inl t) else pfo (Fou.ans t))=_
   rw [if_pos h3]
   rfl
 · rw [h1];rfl
theorem many_17:((List.range 128).filter fun (i:Nat)=>forb (i:Int)).length=17:=by decide +kernel
end Go.Proofs.YtediahdedmkehaaGreatDoor.Hst
namespace Go.Proofs.YtediahdedmkehaaGreatDoor.Hst
set_option maxRecDepth 100000
open Go.RowKit Utf Remap Norm Pn Puny
theorem rep_one (x:UInt8):∀ k,Lib.repeatL [x] k=List.replicate k x
 | 0=>rfl
 | k+1=>by rw [Lib.repeatL,rep_one x k];rfl
theorem Rep_any (x:UInt8) (k:Nat) (hk:k≤1000) (w:World):Calls Tryz.prog 26 #[.string ⟨#[x]⟩,.int .i64 (k:Int)] w (fun e w'=>e = .returned (.string (Fou.bs (List.replicate k x)))∧Below w.heap.size w w') :=
 (Repeat_any ⟨#[x]⟩ k w (by omega) (by rw [show (⟨#[x]⟩:ByteArray).size=1 from rfl];omega)).mono fun _ _ ⟨h1,h2⟩=>⟨by rw [h1,show (⟨#[x]⟩:ByteArray).data.toList=[x] from rfl,rep_one];rfl,h2⟩
theorem step_runes {ops:Array Oper} {rest:List Oper} {o:Oper} {a:Act} {w:World} {Q:Exit→Act→World→Prop} (hgd:o.guard=none) (x:Operand) (ho:o.op = .convert 9 22 x) (s:ByteArray) (hx:a.eval x = .string s)
   (h1:∀ b∈dl s,b.toNat<128) (hs:s.size≤1000000)
   (h:∀ c w',w'.ownsRow w.heap.size 21 1 (.slice (some ⟨w.heap.size,0,none⟩) s.size c) s.size (cl .i32 (bi (dl s)))→s.size≤c→Below w.heap.size w w'→wpList Tryz.prog ops Q rest (a.put o.dst (.slice (some ⟨w.heap.size,0,none⟩) s.size c)) w'):wpList Tryz.prog ops Q (o::rest) a w:=by
 refine wpList_plain hgd fun K hK => ?_
 obtain ⟨c,hrun,hc,hm⟩:=Pn.conv_runes s w h1 hs
 have hl:(Pn.nat8 s.data.toList).length=s.size:=by simp [Pn.nat8]
 rw [hl]at hrun hc
 have e:cn (Pn.nat8 s.data.toList)=cl .i32 (bi (dl s)):=by
   rw [cn_ofN]
   unfold bi ofN Pn.nat8
   rw [List.map_map]
   rfl
 rw [e]at hrun
 unfold Oper.wp execOp
 simp only [ho,hx]
 rw [Sem.run_bind,hrun]
 simp only [Result.andThen_ok,Sem.run_pure]
 have hk:(cl .i32 (bi (dl s))).length=s.size:=by simp [cl,bi,dl]
 refine hK _ _ (h c _ ⟨by rw [hk,Nat.mul_one],.inr ⟨w.heap.size,c,_,rfl,Nat.le_refl _,World.alloc_heap_new w.drew _,hc,hm, ?_, ?_⟩⟩ hc ((Below.refl _ w).drew.alloc (Nat.le_refl _) _))
 · simp [hk]
   omega
 · rw [Nat.mul_one,←hk]
   simp
def cnt (i:Nat):Nat:=((List.range i).filter fun (k:Nat)=>forb (k:Int)).length
theorem cnt_succ (i:Nat):cnt (i+1)=cnt i+if forb (i:Int)=true then 1 else 0:=by
 unfold cnt
 rw [List.range_succ,List.filter_append,List.length_append]
 congr 1
 by_cases h:forb (i:Int)=true
 · rw [if_pos h];simp [h]
 · rw [if_neg h];simp [h]
theorem cnt_le (i:Nat):cnt i≤i:=by
 unfold cnt
 have:=List.length_filter_le (fun (k:Nat)=>forb (k:Int)) (List.range i)
 rwa [List.length_range]at this
end Go.Proofs.YtediahdedmkehaaGreatDoor.Hst
namespace Go.Proofs.YtediahdedmkehaaGreatDoor.Hst
set_option maxRecDepth 100000
open Go.RowKit Utf Remap Norm Pn Puny
set_option maxHeartbeats 8000000 in
theorem forbidden_any (r a1 a2:Int) (w:World) (hr1:-2147483648≤r) (hr2:r≤2147483647) (g1:0≤a1) (_g1':a1≤255) (g2:0≤a2) (_g2':a2≤255) (hE:Sx.Env w) :
   Calls Tryz.prog 7 #[.int .i32 r,.int .u8 a1,.int .u8 a2] w (Says true w):=by
 obtain ⟨i0,hi,hz0,hz1,hz2⟩:=info_split info_int32
 have HE:=Lib.hid (fun W (h:Below w.heap.size w W)=>hE.go h)
 have HAW:=Lib.hid (fun W h=>awake14_any W (HE.out W h))
 obtain ⟨a,ha⟩:∃ a:Nat,a1 % 21=(a:Int):=⟨(a1 % 21).toNat,by omega⟩
 obtain ⟨b,hb⟩:∃ b:Nat,a2 % 21=(b:Int):=⟨(a2 % 21).toNat,by omega⟩
 have ha':a1.tmod 21=(a:Int):=by rw [Int.tmod_eq_emod_of_nonneg g1];exact ha
 have hb':a2.tmod 21=(b:Int):=by rw [Int.tmod_eq_emod_of_nonneg g2];exact hb
 have haL:a<21:=by omega
 have hbL:b<21:=by omega
 have haw:IntKind.i64.wrap (a:Int)=(a:Int):=IntWalk.i64_in _ (by omega)
 have hbw:IntKind.i64.wrap (b:Int)=(b:Int):=IntWalk.i64_in _ (by omega)
 have HRA:=Lib.hid (fun W=>Rep_any 97 a (by omega) W)
 have HRB:=Lib.hid (fun W=>Rep_any 98 b (by omega) W)
 obtain ⟨sa,hsa⟩:∃ s,Fou.bs (List.replicate a 97)=s:=⟨_,rfl⟩
 obtain ⟨sb,hsb⟩:∃ s,Fou.bs (List.replicate b 98)=s:=⟨_,rfl⟩
 rw [hsa]at HRA
 rw [hsb]at HRB
 have HSA:Hid (dl sa=List.replicate a 97∧sa.size=a∧(∀ x∈dl sa,x.toNat<128)):=Lib.hid (by
   subst hsa
   refine ⟨by simp [dl,Fou.bs],by simp [Fou.bs,ByteArray.size],fun x hx => ?_⟩
   have:x∈List.replicate a 97:=by simpa [dl,Fou.bs] using hx
   rw [(List.mem_replicate.1 this).2];decide)
 have HSB:Hid (dl sb=List.replicate b 98∧sb.size=b∧(∀ x∈dl sb,x.toNat<128)):=Lib.hid (by
   subst hsb
   refine ⟨by simp [dl,Fou.bs],by simp [Fou.bs,ByteArray.size],fun x hx => ?_⟩
   have:x∈List.replicate b 98:=by simpa [dl,Fou.bs] using hx
   rw [(List.mem_replicate.1 this).2];decide)
 have H0:=Lib.hid (Below.refl w.heap.size w)
 clear ha hb hsa hsb hE g1 g2
 go_enter Tryz.func7,Tryz.ntmps7
 go_upto_region 2 with (first
   | (go_at_call 26;(with_reducible refine (HRA.out _).mono ?_);rintro e w1 ⟨rfl,hB1⟩)
   | (go_at_call 26;(with_reducible refine (HRB.out _).mono ?_);rintro e w2 ⟨rfl,hB2⟩)
   | fail)
 have hB0:=upB hB1 hB2
 clear hB1 hB2
 obtain ⟨da,na,la⟩:=HSA.out
 obtain ⟨db,nb,lb⟩:=HSB.out
 have HLA:=Lib.hid la
 have HLB:=Lib.hid lb
 have HDA:=Lib.hid da
 have HDB:=Lib.hid db
 have HNA:=Lib.hid na
 have HNB:=Lib.hid nb
 clear da na la db nb lb
 go_upto_region 3 with (first
   | (refine step_runes rfl _ rfl sa rfl HLA.out (by rw [HNA.out];omega) ?_;intro c3 w3 hO3 hc3 hb3;have hB3:=upB hB0 hb3)
   | (at_builtin;refine wpList_append_row _ rfl _ _ 22 rfl w2.heap.size 21 i0 (.int .i32 0) 1 4 Tryz.underlying22 hi hz0 hz1 hz2 rfl (by decide) _ _ _ rfl (hO3.alloc _) _ _ 1 1 [.int .i32 r] rfl rfl (row_new' _ _ _ _ rfl) (by simp [Value.oneCell']) (by unfold maxLen;rw [HNA.out];omega) (by rw [HNA.out];omega) (by rw [World.size_alloc];have:=hb3.size;omega) ?_;intro v4 w4 hO4 hg4;obtain ⟨A4,c4,hv4,_,_⟩:=own_form hO4;subst hv4;have hB4:=(hB3.alloc hB3.size _).grown hg4 (hB3.alloc hB3.size _).size (fun k hk=>by cases hk;exact hB0.size))
   | (refine step_runes rfl _ rfl sb rfl HLB.out (by rw [HNB.out];omega) ?_;intro c5 w5 hO5 hc5 hb5)
   | (at_builtin;refine wpList_append_row _ rfl _ _ 22 rfl w2.heap.size 21 i0 (.int .i32 0) 1 4 Tryz.underlying22 hi hz0 hz1 hz2 rfl (by decide) _ _ _ rfl (own_below hO4 hb5) w5.heap.size _ _ _ _ rfl (by rw [hO5.1,Nat.mul_one]) (RT.row (RT.of_own hO5)) (one_cl _ _) (by unfold maxLen;rw [HNA.out,HNB.out];omega) (by rw [HNA.out,HNB.out];omega) (by have h1:=hg4.size;rw [World.size_alloc]at h1;have:=hb3.size;have:=hb5.size;omega) ?_;intro v6 w6 hO6 hg6;obtain ⟨A6,c6,hv6,hc6,hr6⟩:=own_form hO6;subst hv6;have hB6:=(upB hB4 hb5).grown hg6 (upB hB4 hb5).size (fun k hk=>Nat.le_trans hB0.size (hO4.lt k hk).1))
   | fail)
 have hfb:cl .i32 (bi (dl sa))++[.int .i32 r]++cl .i32 (bi (dl sb))=cl .i32 (fb r a b):=by
   rw [HDA.out,HDB.out]
   simp [fb,cl,bi]
 rw [hfb]at hr6
 obtain ⟨n,hn⟩:∃ n,sa.size+1+sb.size=n:=⟨_,rfl⟩
 have hn2:n=a+1+b:=by rw [←hn,HNA.out,HNB.out]
 rw [hn]at hc6 ⊢
 have HPF:Hid (¬ (r=91∧a=0)→∀ W,Below w6.heap.size w6 W→Calls Tryz.prog 9 #[.slice A6 n c6,.bool false] W (HoR (hP (fb r a b) false) W)):=Lib.hid (fun h W hB=>HParse_any (fb r a b) false A6 n c6 W (by rw [fb_len];omega) (by omega) hc6 (fun _=>by omega) (fun _=>by omega) (fun h=>by cases h) (HE.out _ (upB hB6 hB)) ((hr6.below hB).mono hB.size))
 have HPT:Hid (¬ (r=91∧a=0)→forbD r=true→∀ W,Below w6.heap.size w6 W→Calls Tryz.prog 9 #[.slice A6 n c6,.bool true] W (HoR (.inl 32) W)):=Lib.hid (fun h hD W hB=>by
   have hd:=dcd_len (fb r a b)
   rw [fb_len]at hd
   have:=HParse_any (fb r a b) true A6 n c6 W (by rw [fb_len];omega) (by omega) hc6 (fun _=>by omega) (fun _=>by omega) (fun _=>⟨by omega,fits_300 (by omega)⟩) (HE.out _ (upB hB6 hB)) ((hr6.below hB).mono hB.size)
   rw [fb_dom h hD haL hbL]at this
   exact this)
 have HB6:=Lib.hid hB6
 have HFF:Hid (∀ W,Calls Tryz.prog 11 #[.int .i32 r,.bool false] W (Says (forb r) W)):=Lib.hid (fun W=>Forb_any r false W)
 have HFT:Hid (∀ W,Calls Tryz.prog 11 #[.int .i32 r,.bool true] W (Says (forbD r) W)):=Lib.hid (fun W=>Forb_any r true W)
 clear hO3 hO4 hO5 hO6 hB0 hB3 hB4 hB6 hb3 hb5 hg4 hg6 hc3 hc5 hr6 hfb hn hc6 hn2 ha' hb' haL hbL haw hbw hi hz0 hz1 hz2
 go_cut [50] from 32 to 50 (fun s50 wx=>s50 = .bool false∧Below w6.heap.size w6 wx)
 case first =>
   clear HPF HPT HAW HE
   have hR:=Below.refl w6.heap.size w6
   have hfar:forbD r=true→(decide (127<r)=false∧decide (r<0)=false):=fun hD=>by
     have hlo:=(forbD_low hD).1
     simp only [low,decide_eq_true_eq]at hlo
     exact ⟨decide_eq_false (by omega),decide_eq_false (by omega)⟩
   cases hf:forb r with
   | true =>
     have hD:=forb_D hf
     obtain ⟨h1,h2⟩:=hfar hD
     rw [hf]at HFF
     rw [hD]at HFT
     clear hf hD hr1 hr2 hfar
     go_wp2_with (first
     | (go_at_call 11;((with_reducible refine (HFF.out _).mono ?_);rintro e wF ⟨rfl,hb⟩;replace hR:=upB hR hb;clear hb))
     | (go_at_call 11;((with_reducible refine (HFT.out _).mono ?_);rintro e wF ⟨rfl,hb⟩;replace hR:=upB hR hb;clear hb))
     | fail)
     go_meet
     exact ⟨rfl,hR⟩
   | false =>
     rw [hf]at HFF
     cases hD:forbD r with
     | true =>
       obtain ⟨h1,h2⟩:=hfar hD
       rw [hD]at HFT
       clear hf hD hr1 hr2 hfar
       go_wp2_with (first
     | (go_at_call 11;((with_reducible refine (HFF.out _).mono ?_);rintro e wF ⟨rfl,hb⟩;replace hR:=upB hR hb;clear hb))
     | (go_at_call 11;((with_reducible refine (HFT.out _).mono ?_);rintro e wF ⟨rfl,hb⟩;replace hR:=upB hR hb;clear hb))
     | fail)
       go_meet
       exact ⟨rfl,hR⟩
     | false =>
       rw [hD]at HFT
       clear hf hD hfar
       cases h1:decide (127<r) with
       | true =>
         clear hr1 hr2
         go_wp2_with (first
     | (go_at_call 11;((with_reducible refine (HFF.out _).mono ?_);rintro e wF ⟨rfl,hb⟩;replace hR:=upB hR hb;clear hb))
     | (go_at_call 11;((with_reducible refine (HFT.out _).mono ?_);rintro e wF ⟨rfl,hb⟩;replace hR:=upB hR hb;clear hb))
     | fail)
         go_meet
         exact ⟨rfl,hR⟩
       | false =>
         cases h2:decide (r<0) with
         | true =>
           clear hr1 hr2
           go_wp2_with (first
     | (go_at_call 11;((with_reducible refine (HFF.out _).mono ?_);rintro e wF ⟨rfl,hb⟩;replace hR:=upB hR hb;clear hb))
     | (go_at_call 11;((with_reducible refine (HFT.out _).mono ?_);rintro e wF ⟨rfl,hb⟩;replace hR:=upB hR hb;clear hb))
     | fail)
           go_meet
           exact ⟨rfl,hR⟩
         | false =>
           clear hr1 hr2
           go_wp2_with (first
     | (go_at_call 11;((with_reducible refine (HFF.out _).mono ?_);rintro e wF ⟨rfl,hb⟩;replace hR:=upB hR hb;clear hb))
     | (go_at_call 11;((with_reducible refine (HFT.out _).mono ?_);rintro e wF ⟨rfl,hb⟩;replace hR:=upB hR hb;clear hb))
     | fail)
           go_meet
           exact ⟨rfl,hR⟩
 case rest =>
   obtain ⟨rfl,hR⟩:=hcut
   go_upto_region 5 with fail
   go_cut [56] from 51 to 56 (fun s56 wx=>s56 = .bool (decide (r=91∧a=0))∧Below w6.heap.size w6 wx)
   case first =>
     clear HPF HPT HFF HFT
     by_cases h91:r=91
     · subst h91
       by_cases h0:a=0
       · have hs0:sa=⟨#[]⟩:=by
           have h:=HDA.out
           rw [h0]at h
           have h2:sa.data.toList=[]:=h
           cases sa with
           | mk d=>simp at h2;rw [h2]
         subst hs0
         have H0:Hid (decide ((91:Int)=91∧a=0)=true):=Lib.hid (decide_eq_true ⟨rfl,h0⟩)
         clear h0
         go_wp2_with fail
         go_meet
         exact ⟨by rw [H0.out],hR⟩
       · have hs0:sa.toList.isEmpty=false:=by
           rw [ByteArray.toList_eq]
           have h:=HDA.out
           cases a with
           | zero=>exact absurd rfl h0
           | succ a =>
             rw [show sa.data.toList=97::List.replicate a 97 from h]
             rfl
         have H0:Hid (decide ((91:Int)=91∧a=0)=false):=Lib.hid (decide_eq_false (fun h=>h0 h.2))
         clear h0
         go_wp2_with fail
         go_meet
         exact ⟨by rw [H0.out],hR⟩
     · have H0:Hid (decide (r=91∧a=0)=false):=Lib.hid (decide_eq_false (fun h=>h91 h.1))
       have h91':(r == 91)=false:=by simpa using h91
       clear h91 hr1 hr2
       go_wp2_with fail
       go_meet
       exact ⟨by rw [H0.out],hR⟩
   case rest =>
     clear hR
     obtain ⟨h56,hR⟩:=hcut
     by_cases h0:r=91∧a=0
     · rw [decide_eq_true h0]at h56
       subst h56
       clear h0 HPF HPT HFF HFT
       go_wp2_with (first
           | (go_at_call 8;((with_reducible refine (HAW.out _ (upB HB6.out hR)).mono ?_);rintro e wA ⟨rfl,hb⟩;replace hR:=upB hR hb;clear hb))
           | fail)
       go_ret
       exact ⟨rfl,upB HB6.out hR⟩
     rw [decide_eq_false h0]at h56
     subst h56
     obtain ⟨g,x,hv,hg8,hx⟩:=fb_op (b:=b) h0
     have HP2:=Lib.hid (HPF.out h0)
     have HP3:=Lib.hid (HPT.out h0)
     unfold HoR at HP2 HP3
     rw [hv]at HP2
     have H8:=Lib.hid hg8
     have HX:=Lib.hid hx
     have H0:=Lib.hid h0
     clear HPF HPT hv hg8 hx h0
     go_upto_region 8 with (first
     | (go_at_call 9;((with_reducible refine (HP2.out _ hR).mono ?_);rintro e wP ⟨rfl,hb⟩;replace hR:=upB hR hb;clear hb))
     | (refine storeH rfl _ _ rfl _ 27 hN g rfl rfl (HBk.new _ 27 hN) rfl H8.out ?_;intro wS hXS hb;replace hR:=upB hR ((upA _ (.cells hN.cs.toArray 27)).trans hb);clear hb)
     | fail)
     clear hXS
     go_cut [67] from 63 to 67 (fun s67 wx=>s67 = .bool false∧Below w6.heap.size w6 wx)
     case first =>
       have hx:=HX.out
       cases hf:forb r with
       | true =>
         rw [hf]at HFF hx
         clear hf
         go_wp2_with (first
     | (go_at_call 11;((with_reducible refine (HFF.out _).mono ?_);rintro e wF ⟨rfl,hb⟩;replace hR:=upB hR hb;clear hb))
     | (go_at_call 11;((with_reducible refine (HFT.out _).mono ?_);rintro e wF ⟨rfl,hb⟩;replace hR:=upB hR hb;clear hb))
     | fail)
         go_meet
         exact ⟨rfl,hR⟩
       | false =>
         rw [hf]at HFF hx
         clear hf
         go_wp2_with (first
     | (go_at_call 11;((with_reducible refine (HFF.out _).mono ?_);rintro e wF ⟨rfl,hb⟩;replace hR:=upB hR hb;clear hb))
     | (go_at_call 11;((with_reducible refine (HFT.out _).mono ?_);rintro e wF ⟨rfl,hb⟩;replace hR:=upB hR hb;clear hb))
     | fail)
         go_meet
         exact ⟨rfl,hR⟩
     case rest =>
       clear hR
       obtain ⟨rfl,hR⟩:=hcut
       go_upto_region 10 with fail
       obtain ⟨q,hq⟩:∃ q,forbD r=q:=⟨_,rfl⟩
       rw [hq]at HFT HP3
       clear hq
       go_cut [69] from 68 to 69 (fun s69 wx=>s69 = .bool q∧Below w6.heap.size w6 wx)
       case first =>
         go_wp2_with (first
     | (go_at_call 11;((with_reducible refine (HFF.out _).mono ?_);rintro e wF ⟨rfl,hb⟩;replace hR:=upB hR hb;clear hb))
     | (go_at_call 11;((with_reducible refine (HFT.out _).mono ?_);rintro e wF ⟨rfl,hb⟩;replace hR:=upB hR hb;clear hb))
     | fail)
         go_meet
         exact ⟨rfl,hR⟩
       case rest =>
         clear hR
         obtain ⟨rfl,hR⟩:=hcut
         go_upto_if 69 with fail
         go_cut [12] from 70 to 76 (fun s12 wx=>Below w6.heap.size w6 wx)
         case first =>
           cases q with
           | true =>
             have HP4:Hid (∀ W,Below w6.heap.size w6 W→Calls Tryz.prog 9 #[.slice A6 n c6,.bool true] W (fun e w'=>e = .returned (.tuple #[hN.v,.int .i64 32])∧Below W.heap.size W w')):=Lib.hid (HP3.out rfl)
             clear HP3
             go_wp2_with (first
     | (go_at_call 9;((with_reducible refine (HP4.out _ hR).mono ?_);rintro e wP ⟨rfl,hb⟩;replace hR:=upB hR hb;clear hb))
     | (refine storeH rfl _ _ rfl _ 27 hN hN rfl rfl (HBk.new _ 27 hN) rfl rfl ?_;intro wS hXS hb;replace hR:=upB hR ((upA _ (.cells hN.cs.toArray 27)).trans hb);clear hb)
     | fail)
             go_meet
             exact hR
           | false =>
             go_wp2_with fail
             go_meet
             exact hR
         case rest =>
           clear hR
           have hR:=hcut
           clear hcut
           clear HP2 HP3 H8 HX H0 HFF HFT
           go_upto_region 16 with fail
           go_loopg [14,15] 128 (fun k s14 s15 wr => ∃ i:Nat,s14 = .int .i64 (cnt i:Int)∧s15 = .int .i32 (i:Int)∧k=128 - i∧i≤128∧Below w6.heap.size w6 wr)
           case atStart=>exact ⟨0,rfl,rfl,rfl,Nat.zero_le _,hR⟩
           case round =>
             obtain ⟨i,rfl,rfl,rfl,hi,hB⟩:=hrel
             have hc:=cnt_le i
             by_cases hlt:i<128
             · have hltz:(i:Int)<128:=by omega
               have hw1:IntKind.i32.wrap ((i:Int)+1)=(i:Int)+1:=IntWalk.i32_in _ (by omega)
               have hw2:IntKind.i64.wrap ((cnt i:Int)+1)=(cnt i:Int)+1:=IntWalk.i64_in _ (by omega)
               have HFI:=Lib.hid (fun W=>(Forb_any (i:Int) false W:Calls Tryz.prog 11 #[.int .i32 (i:Int),.bool false] W (Says (forb (i:Int)) W)))
               have HCS:=Lib.hid (cnt_succ i)
               clear hc
               obtain ⟨q,hq⟩:∃ q,forb (i:Int)=q:=⟨_,rfl⟩
               rw [hq]at HCS
               have HFJ:Hid (∀ W,Calls Tryz.prog 11 #[.int .i32 (i:Int),.bool false] W (Says q W)):=Lib.hid (fun W=>by rw [←hq];exact HFI.out W)
               clear hq HFI
               cases q with
               | true =>
                 go_wp2_with (first
                   | (go_at_call 11;((with_reducible refine (HFJ.out _).mono ?_);rintro e wF ⟨rfl,hb⟩))
                   | fail)
                 go_roundg (128 - (i+1))
                 case measure=>omega
                 case rel=>exact ⟨i+1,by rw [HCS.out];rfl,by go_num,rfl,by omega,upB hB hb⟩
               | false =>
                 go_wp2_with (first
                   | (go_at_call 11;((with_reducible refine (HFJ.out _).mono ?_);rintro e wF ⟨rfl,hb⟩))
                   | fail)
                 go_roundg (128 - (i+1))
                 case measure=>omega
                 case rel=>exact ⟨i+1,by rw [HCS.out];rfl,by go_num,rfl,by omega,upB hB hb⟩
             · obtain rfl:i=128:=by omega
               rw [show cnt 128=17 from many_17]
               clear hc
               go_wp2_with (first
                 | (go_at_call 8;((with_reducible refine (HAW.out _ (upB HB6.out hB)).mono ?_);rintro e wA ⟨rfl,hb⟩))
                 | fail)
               go_ret
               exact ⟨rfl,upB (upB HB6.out hB) hb⟩
end Go.Proofs.YtediahdedmkehaaGreatDoor.Hst
