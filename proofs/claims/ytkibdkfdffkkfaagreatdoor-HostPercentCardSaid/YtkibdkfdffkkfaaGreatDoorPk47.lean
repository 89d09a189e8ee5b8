import Derived.Test.YtkibdkfdffkkfaaGreatDoorPk45
import Derived.Test.YtkibdkfdffkkfaaGreatDoorPk46
set_option maxRecDepth 100000
set_option maxHeartbeats 8000000
namespace Go.Proofs.YtkibdkfdffkkfaaGreatDoor.Hst
open Go.RowKit Utf Remap Norm Pn Puny
structure Ho where
 k:Nat
 s:List UInt8
 f:Nat
 x:List Nat
 deriving DecidableEq
def hcl (k:Nat) (s:ByteArray) (f:Nat) (x:List Nat):List Value:=.int .u8 (k:Int) :: .string s :: .int .u32 (f:Int)::Sx.cu x
abbrev Ho.cs (h:Ho):List Value:=hcl h.k (Fou.bs h.s) h.f h.x
abbrev Ho.v (h:Ho):Value:=.agg h.cs.toArray
theorem cs_len(h:Ho):h.cs.length=h.x.length+3:=by simp[Ho.cs,hcl,Sx.cu]
theorem cs_one(h:Ho):∀ v∈h.cs,v.oneCell'=true:=by
 intro v hv
 simp only[Ho.cs,hcl,List.mem_cons]at hv
 rcases hv with rfl|rfl|rfl|hv
 ·rfl
 ·rfl
 ·rfl
 ·exact Sx.one_cu _ v hv
def HBk (w:World) (B:Nat) (T:TypeId) (h:Ho):Prop:=w.heap[B]? = some (.cells h.cs.toArray T (0,0))
theorem HBk.new(w:World)(T:TypeId)(h:Ho):HBk (w.alloc (.cells h.cs.toArray T)) w.heap.size T h:=World.alloc_heap_new w _
theorem HBk.lt{w:World}{B:Nat}{T:TypeId}{h:Ho}(hb:HBk w B T h):B<w.heap.size:=(Array.getElem?_eq_some_iff.1 hb).1
theorem HBk.go{a b:World}{B:Nat}{T:TypeId}{h:Ho}(hb:HBk a B T h)(hB:Below a.heap.size a b):HBk b B T h:=(hB.block _ hb.lt).trans hb
theorem HBk.gom{a b:World}{B m:Nat}{T:TypeId}{h:Ho}(hb:HBk a B T h)(hm:B<m)(hB:Below m a b):HBk b B T h:=(hB.block _ hm).trans hb
theorem HBk.cell{w:World}{B:Nat}{T:TypeId}{h:Ho}(hb:HBk w B T h){k:Nat}{v:Value}(hv:h.cs[k]? = some v):w.cell? ⟨B,k,none⟩=some v:=by
 rw[cell_of_row w B k _ _ _ hb,List.getElem?_toArray,hv]
theorem HBk.frozen{w:World}{B:Nat}{T:TypeId}{h:Ho}(hb:HBk w B T h)(k:Nat):w.frozen? ⟨B,k,none⟩=false:=by
 unfold HBk at hb
 simp[World.frozen?,hb]
theorem HBk.range{w:World}{B:Nat}{T:TypeId}{h:Ho}(hb:HBk w B T h):w.rangeAt B 0 h.cs:=fun j v hv=>by
 rw[Nat.zero_add]
 exact hb.cell hv
theorem HBk.there{w:World}{B:Nat}{T:TypeId}{h g:Ho}(hb:HBk w B T h)(hl:g.x.length=h.x.length):w.there B 0 g.cs.toArray.size:=fun j hj=>by
 rw[List.size_toArray,cs_len,hl,<-cs_len h]at hj
 rw[Nat.zero_add]
 exact⟨by rw[hb.cell (List.getElem?_eq_getElem hj)];rfl,hb.frozen j⟩
theorem set_cells(b:Nat)(T:TypeId):∀ (vs:List Value) (pre:List Value) (w:World) (rest:List Value),w.heap[b]? = some (.cells (pre++rest).toArray T (0,0))->rest.length=vs.length->(w.setCells b pre.length vs).heap[b]? = some (.cells (pre++vs).toArray T (0,0)):=by
 intro vs
 induction vs with
 | nil =>
  intro pre w rest h hl
  obtain rfl:rest=[]:=List.eq_nil_of_length_eq_zero hl
  exact h
 | cons u vs ih =>
  intro pre w rest h hl
  obtain⟨r,rest,rfl⟩:∃ r t,rest=r::t:=by
   cases rest with
   | nil=>simp at hl
   | cons r t=>exact⟨r,t,rfl⟩
  rw[World.setCells]
  have h2:(w.setCell ⟨b,pre.length,none⟩ u).heap[b]? = some (.cells ((pre++[u])++rest).toArray T (0,0)):=by
   simp only[World.setCell,Array.getElem?_modify,if_true,h,Option.map_some]
   congr 2
   simp
  have:=ih (pre++[u]) _ rest h2 (by simpa using hl)
  rw[List.length_append,List.length_singleton,List.append_assoc]at this
  exact this
theorem HBk.set{w:World}{B:Nat}{T:TypeId}{h:Ho}(hb:HBk w B T h)(g:Ho)(hl:g.x.length=h.x.length):HBk (w.setCells B 0 g.cs) B T g :=
 set_cells B T g.cs [] w h.cs hb (by rw[cs_len,cs_len,hl])
theorem infoH:(Tryz.prog.info? 28).map (·.size)=some 11:=by kernel_rfl
theorem storeH{ops:Array Oper}{rest:List Oper}{op:Oper}{a:Act}{w:World}{Q:Exit->Act->World->Prop}(hgd:op.guard=none)(x y:Operand)(ho:op.op = .store 28 x y)
  (b:Nat) (T:TypeId) (z v:Ho) (hx:a.eval x = .pointer (some ⟨b,0,none⟩)) (hy:a.eval y=v.v) (hz:HBk w b T z) (hz8:z.x.length=8) (hv8:v.x.length=8)
  (h:∀ w',HBk w' b T v->Below b w w'->wpList Tryz.prog ops Q rest (a.put op.dst undef) w'):wpList Tryz.prog ops Q (op::rest) a w:=by
 refine wpList_store_mid hgd 28 x y ho b 0 v.cs.toArray hx hy (hz.there (by omega)) ?_ (all_oneCell_toArray (cs_one v)) ?_
 ·rw[List.size_toArray,cs_len,hv8]
  exact infoH
 ·exact h _ (hz.set v (by omega)) (Sx.below_setCells (Nat.le_refl _) _ _ _ (Below.refl _ _))
theorem loadH{ops:Array Oper}{rest:List Oper}{op:Oper}{a:Act}{w:World}{Q:Exit->Act->World->Prop}(p:Operand)(ho:op.op = .load 28 p)
  (b:Nat) (T:TypeId) (hx:a.eval p = .pointer (some ⟨b,0,none⟩)) (v:Ho) (hc:HBk w b T v) (hL:v.x.length=8) (hgd:Region.wanted op (yielded ops a.tmps)=true)
  (h:wpList Tryz.prog ops Q rest (a.put op.dst v.v) w):wpList Tryz.prog ops Q (op::rest) a w :=
 Sx.wpList_load_g 28 p ho b 0 hx v.cs _ hc.range Tryz.underlying28 rfl (by rw[cs_len,hL];exact infoH) hgd h
theorem load_var{w:World}{B:Nat}{T:TypeId}{v:Ho}(hb:HBk w B T v)(h8:v.x.length=8):(loadVar 28 ⟨B,0,none⟩).run Tryz.prog w = .ok v.v w :=
 run_loadVar_mid _ B 0 28 v.cs _ hb.range Tryz.underlying28 rfl (by rw[cs_len,h8];exact infoH)
theorem equal8d(x y:List Nat)(hL:x.length=8)(hM:y.length=8)(w:World):(Op.equalIn 9999 26 (Sx.av x) (Sx.av y)).run Tryz.prog w = .ok (decide (x=y)) w:=by
 obtain⟨i,hi⟩:∃ i,Tryz.prog.info? 25=some i:=Option.isSome_iff_exists.1 (by kernel_rfl)
 have e:=run_equalIn_array w 9998 (Sx.cu x).toArray (Sx.cu y).toArray Tryz.underlying26 hi
 rw[show Tryz.prog.cellsOf 25=1 by kernel_rfl,Sx.items_eq x y w 9997 (List.range 8) (fun i hi=>by have:=List.mem_range.1 hi;omega)]at e
 have h:=Sx.all_range x y (by omega)
 rw[hL]at h
 rw[h]at e
 exact e
theorem equalH(a b:Ho)(ha:a.x.length=8)(hb:b.x.length=8)(w:World):(Op.equalIn 10000 28 a.v b.v).run Tryz.prog w = .ok (decide (a=b)) w:=by
 obtain⟨k,s,f,x⟩:=a
 obtain⟨k',s',f',y⟩:=b
 dsimp only at ha hb
 have h8:=equal8d x y ha hb w
 obtain⟨x0,x1,x2,x3,x4,x5,x6,x7,rfl⟩:=Sx.eight ha
 obtain⟨y0,y1,y2,y3,y4,y5,y6,y7,rfl⟩:=Sx.eight hb
 have hp:∀ (k:Nat) (s:ByteArray) (f x0 x1 x2 x3 x4 x5 x6 x7:Nat),(part 5 (hcl k s f [x0,x1,x2,x3,x4,x5,x6,x7]).toArray 0).run Tryz.prog w = .ok (.int .u8 (k:Int)) w /\
   (part 9 (hcl k s f [x0,x1,x2,x3,x4,x5,x6,x7]).toArray 1).run Tryz.prog w = .ok (.string s) w /\
   (part 24 (hcl k s f [x0,x1,x2,x3,x4,x5,x6,x7]).toArray 2).run Tryz.prog w = .ok (.int .u32 (f:Int)) w /\
   (part 26 (hcl k s f [x0,x1,x2,x3,x4,x5,x6,x7]).toArray 3).run Tryz.prog w = .ok (Sx.av [x0,x1,x2,x3,x4,x5,x6,x7]) w:=fun k s f x0 x1 x2 x3 x4 x5 x6 x7=>⟨by kernel_rfl,by kernel_rfl,by kernel_rfl,by kernel_rfl⟩
 obtain⟨p0,p1,p2,p3⟩:=hp k (Fou.bs s) f x0 x1 x2 x3 x4 x5 x6 x7
 obtain⟨q0,q1,q2,q3⟩:=hp k' (Fou.bs s') f' y0 y1 y2 y3 y4 y5 y6 y7
 rw[run_equalIn_struct w 9999 28 _ _ (by simp[Program.fieldsOf,Tryz.underlying28]) (by kernel_rfl)]
 simp only[Program.fieldsOf,Tryz.underlying28]
 have hs:((Fou.bs s).toList==(Fou.bs s').toList)=decide (s=s'):=by
  rw[ByteArray.toList_eq,ByteArray.toList_eq]
  simp[Fou.bs]
  by_cases e:s=s'<;>simp[e]
 have i0:(Op.equalIn 9999 5 (.int .u8 (k:Int)) (.int .u8 (k':Int))).run Tryz.prog w = .ok (decide (k=k')) w:=by
  rw[run_equalIn_int w 9998 5 .u8 .u8 _ _ Tryz.underlying5]
  congr 1
  by_cases e:k=k'<;>simp[e]
  omega
 have i1:(Op.equalIn 9999 9 (.string (Fou.bs s)) (.string (Fou.bs s'))).run Tryz.prog w = .ok (decide (s=s')) w:=by
  rw[run_equalIn_string w 9998 9 _ _ Tryz.underlying9,hs]
 have i2:(Op.equalIn 9999 24 (.int .u32 (f:Int)) (.int .u32 (f':Int))).run Tryz.prog w = .ok (decide (f=f')) w:=by
  rw[run_equalIn_int w 9998 24 .u32 .u32 _ _ Tryz.underlying24]
  congr 1
  by_cases e:f=f'<;>simp[e]
  omega
 dsimp only[Ho.cs]
 generalize hcl k (Fou.bs s) f [x0,x1,x2,x3,x4,x5,x6,x7]=X at p0 p1 p2 p3 ⊢
 generalize hcl k' (Fou.bs s') f' [y0,y1,y2,y3,y4,y5,y6,y7]=Y at q0 q1 q2 q3 ⊢
 generalize [x0,x1,x2,x3,x4,x5,x6,x7]=x at h8 p3 ⊢
 generalize [y0,y1,y2,y3,y4,y5,y6,y7]=y at h8 q3 ⊢
 simp[Op.eqFields,Sem.run_bind,p0,q0,p1,q1,p2,q2,p3,q3,i0,i1,i2,h8]
 by_cases e0:k=k'
 ·by_cases e1:s=s'
  ·by_cases e2:f=f'
   ·by_cases e3:x=y<;>simp[e0,e1,e2,e3]
   ·simp[e0,e1,e2]
  ·simp[e0,e1]
 ·simp[e0]
def hN:Ho:=⟨0,[],0,Sx.z8⟩
def brH:Option (List Nat)->Int ⊕ Ho
 | none => .inl 31
 | some x => .inr ⟨4,[],0,x⟩
def nmH:Int ⊕ (List UInt8 ⊕ Nat)->Int ⊕ Ho
 | .inl e => .inl e
 | .inr (.inl t) => .inr ⟨2,t,0,Sx.z8⟩
 | .inr (.inr x) => .inr ⟨3,[],x,Sx.z8⟩
def opH (l:List Int):Int ⊕ Ho:=if l.any forb=true then .inl 32 else .inr ⟨5,dl (strOfNums (penc l)),0,Sx.z8⟩
def hP (l:List Int) (sp:Bool):Int ⊕ Ho :=
 if l≠[]/\l[0]! = 91 then brH (brv l) else if sp=true then nmH (nmd l) else if l=[] then .inr ⟨1,[],0,Sx.z8⟩ else opH l
def HoV:Int ⊕ Ho->Value
 | .inl x => .tuple #[hN.v,.int .i64 x]
 | .inr h => .tuple #[h.v,.int .i64 0]
def HoR (v:Int ⊕ Ho) (w:World) (e:Ending) (w':World):Prop:=e = .returned (HoV v)/\Below w.heap.size w w'
theorem brv_len{l:List Int}{x:List Nat}(h:brv l=some x):x.length=8:=by
 unfold brv at h
 split at h
 ·exact (Sx.prs_some h).1
 ·cases h
theorem brH_len{l:List Int}{h:Ho}(e:brH (brv l) = .inr h):h.x.length=8:=by
 cases hb:brv l with
 | none=>rw[hb]at e;cases e
 | some x=>rw[hb]at e;cases e;exact brv_len hb
theorem nmH_len{v:Int ⊕ (List UInt8 ⊕ Nat)}{h:Ho}(e:nmH v = .inr h):h.x.length=8:=by
 rcases v with v|v|v<;>cases e<;>rfl
theorem opH_len{l:List Int}{h:Ho}(e:opH l = .inr h):h.x.length=8:=by
 unfold opH at e
 split at e
 ·cases e
 ·cases e;rfl
theorem hP_len{l:List Int}{sp:Bool}{h:Ho}(e:hP l sp = .inr h):h.x.length=8:=by
 unfold hP at e
 split at e
 ·exact brH_len e
 ·split at e
  ·exact nmH_len e
  ·split at e
   ·cases e;rfl
   ·exact opH_len e
theorem brack_ho(l:List Int)(A:Option Addr)(n c:Nat)(w:World)(hn:l.length=n)(h0:l[0]! = 91)(h1:1<=n)(hl:n<=1000)(hc:n<=c)(hr:Row w w.heap.size A (cl .i32 l))(hE:Sx.Env w):Calls Tryz.prog 47 #[.slice A n c] w (HoR (brH (brv l)) w) :=
 (bracketed_any l A n c w hn h0 h1 hl hc hr hE).mono fun e w' h=>by
  unfold BrR at h
  cases hb:brv l with
  | none=>rw[hb]at h;exact⟨h.1,h.2⟩
  | some x =>
   obtain⟨x0,x1,x2,x3,x4,x5,x6,x7,rfl⟩:=Sx.eight (brv_len hb)
   rw[hb]at h
   exact⟨h.1,h.2⟩
theorem named_ho(l:List Int)(A:Option Addr)(n c:Nat)(w:World)(hn:l.length=n)(hl:n<=5000)(hd2:(dcd l).length<=2000)(hF:Fits (dcd l))(hr:Row w w.heap.size A (cl .i32 l)):Calls Tryz.prog 48 #[.slice A n c] w (HoR (nmH (nmd l)) w) :=
 (named_any l A n c w hn hl hd2 hF hr).mono fun e w' h=>by
  unfold NmR at h
  rcases hv:nmd l with x|t|x
  ·rw[hv]at h;exact⟨h.1,h.2⟩
  ·rw[hv]at h;exact⟨h.1,h.2⟩
  ·rw[hv]at h;exact⟨h.1,h.2⟩
theorem opaque_ho(l:List Int)(A:Option Addr)(n c:Nat)(w:World)(hn:l.length=n)(hl:n<=1000)(hr:Row w w.heap.size A (cl .i32 l)):Calls Tryz.prog 49 #[.slice A n c] w (HoR (opH l) w) :=
 (opaque_any l A n c w hn hl hr).mono fun e w' h=>by
  unfold OpR at h
  unfold opH
  by_cases hf:l.any forb=true
  ·rw[if_pos hf]at h ⊢;exact⟨h.1,h.2⟩
  ·rw[if_neg hf]at h ⊢
   refine⟨h.1.trans ?_,h.2⟩
   show _=Ending.returned (.tuple #[(⟨5,dl (strOfNums (penc l)),0,Sx.z8⟩:Ho).v,.int .i64 0])
   have e:Fou.bs (dl (strOfNums (penc l)))=strOfNums (penc l):=(Fou.bs_eq rfl).symm
   unfold Ho.v Ho.cs
   dsimp only
   rw[e]
   rfl
theorem hoR_mk{v v':Int ⊕ Ho}{w w':World}(h:v=v')(hB:Below w.heap.size w w'):HoR v w (.returned (HoV v')) w':=by subst h;exact⟨rfl,hB⟩
theorem hoV_split(v:Int ⊕ Ho)(hl:∀ h,v = .inr h->h.x.length=8):∃ (h:Ho) (x:Int),HoV v = .tuple #[h.v,.int .i64 x]/\h.x.length=8:=by
 cases v with
 | inl x=>exact⟨hN,x,rfl,rfl⟩
 | inr h=>exact⟨h,0,rfl,hl h rfl⟩
theorem HParse_any(l:List Int)(sp:Bool)(A:Option Addr)(n c:Nat)(w:World)(hn:l.length=n)(hl:n<=5000)(hc:n<=c)(hbr:l[0]! = 91->n<=1000)(hnp:sp=false->n<=1000)(hF:sp=true->(dcd l).length<=2000/\Fits (dcd l))(hE:Sx.Env w)(hr:Row w w.heap.size A (cl .i32 l)):Calls Tryz.prog 12 #[.slice A n c,.bool sp] w (HoR (hP l sp) w):=by
 have hB0:=upA w (.cells hN.cs.toArray 28)
 have hr1:=(hr.below hB0).mono hB0.size
 have hE1:=hE.go hB0
 have hX:=HBk.new w 28 hN
 obtain⟨w1,hw1⟩:∃ w1,w.alloc (.cells hN.cs.toArray 28)=w1:=⟨_,rfl⟩
 rw[hw1]at hB0 hr1 hE1 hX
 have hw2:w.alloc (.cells #[.int .u8 0,.string ⟨#[]⟩,.int .u32 0,.int .u16 0,.int .u16 0,.int .u16 0,.int .u16 0,.int .u16 0,.int .u16 0,.int .u16 0,.int .u16 0] 28)=w1:=hw1
 have HB0:=Lib.hid hB0
 have HX:=Lib.hid hX
 have hlt:w.heap.size<w1.heap.size:=hX.lt
 clear hw1 hX
 by_cases hb:l≠[]/\l[0]! = 91
 ·have h1:1<=n:=by
   rcases Nat.eq_zero_or_pos n with h|h
   ·exact absurd (List.eq_nil_of_length_eq_zero (by omega)) hb.1
   ·exact h
  have HV:Hid (hP l sp=brH (brv l)):=Lib.hid (by unfold hP;rw[if_pos hb])
  have HC:=Lib.hid (brack_ho l A n c w1 hn hb.2 h1 (hbr hb.2) hc hr1 hE1)
  obtain⟨b,o,rfl,hbb,hcc⟩:=hr1.at_ (by simp[hn];omega)
  have c0:=cell_at hcc (k:=0) (by omega)
  rw[hb.2,Nat.add_zero]at c0
  have h1z:(0:Int)<(n:Int):=by omega
  have h1d:decide ((0:Int)<(n:Int))=true:=decide_eq_true h1z
  obtain⟨v,hv⟩:∃ v,brH (brv l)=v:=⟨_,rfl⟩
  obtain⟨h,x,hvv,h8⟩:=hoV_split v (fun h e=>brH_len (hv.trans e))
  rw[hv]at HC HV
  unfold HoR at HC
  rw[hvv]at HC
  have HVV:=Lib.hid hvv
  have H8:=Lib.hid h8
  clear hcc hr hr1 hn hb hE hE1 hv hvv h8 hB0 hF hbr hnp
  go_enter Tryz.func12,Tryz.ntmps12
  go_upto_region 1 with fail
  clear hw2
  go_upto_region 2 with fail
  go_wp2_with(first|(go_at_call 47;refine HC.out.mono ?_;rintro e w2 ⟨rfl,hB2⟩)|(refine storeH rfl _ _ rfl _ 28 hN h rfl rfl (HX.out.gom hlt hB2) rfl H8.out ?_;intro w3 hX3 hB3)|fail)
  refine bodyPost_ret (v:=.tuple #[h.v,.int .i64 x]) (Sx.results_two (u:=5) Tryz.results12 rfl (load_var hX3 H8.out) rfl) rfl ?_
  rw[<-HVV.out]
  exact hoR_mk HV.out ((HB0.out.trans (hB2.mono HB0.out.size)).trans hB3)
 ·have HNO:Hid (hP l sp=if sp=true then nmH (nmd l) else if l=[] then .inr ⟨1,[],0,Sx.z8⟩ else opH l):=Lib.hid (by unfold hP;rw[if_neg hb])
  by_cases h0:n=0
  ·obtain rfl:l=[]:=List.eq_nil_of_length_eq_zero (by omega)
   subst h0
   cases sp with
   | true =>
    have HV:Hid (hP [] true=nmH (nmd [])):=Lib.hid (by rw[HNO.out,if_pos rfl])
    have HC:=Lib.hid (named_ho [] A 0 c w1 rfl (by omega) (hF rfl).1 (hF rfl).2 hr1)
    obtain⟨v,hv⟩:∃ v,nmH (nmd [])=v:=⟨_,rfl⟩
    obtain⟨h,x,hvv,h8⟩:=hoV_split v (fun h e=>nmH_len (hv.trans e))
    rw[hv]at HC HV
    unfold HoR at HC
    rw[hvv]at HC
    have HVV:=Lib.hid hvv
    have H8:=Lib.hid h8
    clear hv hvv h8
    clear hr hr1 hn hb hE hE1 hB0 hF hbr hnp
    go_enter Tryz.func12,Tryz.ntmps12
    go_upto_region 1 with fail
    clear hw2
    go_upto_region 4 with fail
    go_wp2_with(first|(go_at_call 48;refine HC.out.mono ?_;rintro e w2 ⟨rfl,hB2⟩)|(refine storeH rfl _ _ rfl _ 28 hN h rfl rfl (HX.out.gom hlt hB2) rfl H8.out ?_;intro w3 hX3 hB3)|fail)
    refine bodyPost_ret (v:=.tuple #[h.v,.int .i64 x]) (Sx.results_two (u:=5) Tryz.results12 rfl (load_var hX3 H8.out) rfl) rfl ?_
    rw[<-HVV.out]
    exact hoR_mk HV.out ((HB0.out.trans (hB2.mono HB0.out.size)).trans hB3)
   | false =>
    have HV:Hid (hP [] false = .inr ⟨1,[],0,Sx.z8⟩):=Lib.hid (by rw[HNO.out,if_neg (by decide),if_pos rfl])
    clear hr hr1 hn hb hE hE1 hB0 hF hbr hnp
    go_enter Tryz.func12,Tryz.ntmps12
    go_upto_region 1 with fail
    clear hw2
    go_upto_region 6 with fail
    go_wp2_with(first|(refine storeH rfl _ _ rfl _ 28 hN ⟨1,[],0,Sx.z8⟩ rfl rfl HX.out rfl rfl ?_;intro w3 hX3 hB3)|fail)
    refine bodyPost_ret (v:=.tuple #[(⟨1,[],0,Sx.z8⟩:Ho).v,.int .i64 0]) (Sx.results_two (u:=5) Tryz.results12 rfl (load_var hX3 rfl) rfl) rfl ?_
    exact hoR_mk (v':=.inr ⟨1,[],0,Sx.z8⟩) HV.out (HB0.out.trans hB3)
  ·have hne:l≠[]:=fun e=>h0 (by rw[<-hn,e];rfl)
   have hny:l[0]!≠91:=fun e=>hb ⟨hne,e⟩
   have h1z:(0:Int)<(n:Int):=by omega
   have h1d:decide ((0:Int)<(n:Int))=true:=decide_eq_true h1z
   have hnz:¬ (n:Int)=0:=by omega
   have hnb:((n:Int)==0)=false:=by simpa using hnz
   have HOP:Hid (sp=false->Calls Tryz.prog 49 #[.slice A n c] w1 (HoR (opH l) w1)):=Lib.hid (fun e=>opaque_ho l A n c w1 hn (hnp e) hr1)
   have HNM:Hid (sp=true->Calls Tryz.prog 48 #[.slice A n c] w1 (HoR (nmH (nmd l)) w1)):=Lib.hid (fun e=>named_ho l A n c w1 hn hl (hF e).1 (hF e).2 hr1)
   obtain⟨b,o,rfl,hbb,hcc⟩:=hr1.at_ (by simp[hn];omega)
   have c0:=cell_at hcc (k:=0) (by omega)
   rw[Nat.add_zero]at c0
   obtain⟨y,hy⟩:∃ y,l[0]! = y:=⟨_,rfl⟩
   rw[hy]at c0 hny
   have hyb:(y==91)=false:=by simpa using hny
   cases sp with
   | true =>
    have HV:Hid (hP l true=nmH (nmd l)):=Lib.hid (by rw[HNO.out,if_pos rfl])
    have HC:=Lib.hid (HNM.out rfl)
    obtain⟨v,hv⟩:∃ v,nmH (nmd l)=v:=⟨_,rfl⟩
    obtain⟨h,x,hvv,h8⟩:=hoV_split v (fun h e=>nmH_len (hv.trans e))
    rw[hv]at HC HV
    unfold HoR at HC
    rw[hvv]at HC
    have HVV:=Lib.hid hvv
    have H8:=Lib.hid h8
    clear hv hvv h8
    clear hcc hr hr1 hn hb hE hE1 hB0 hF hbr hnp hy hne HOP HNM
    go_enter Tryz.func12,Tryz.ntmps12
    go_upto_region 1 with fail
    clear hw2
    go_upto_region 4 with fail
    go_wp2_with(first|(go_at_call 48;refine HC.out.mono ?_;rintro e w2 ⟨rfl,hB2⟩)|(refine storeH rfl _ _ rfl _ 28 hN h rfl rfl (HX.out.gom hlt hB2) rfl H8.out ?_;intro w3 hX3 hB3)|fail)
    refine bodyPost_ret (v:=.tuple #[h.v,.int .i64 x]) (Sx.results_two (u:=5) Tryz.results12 rfl (load_var hX3 H8.out) rfl) rfl ?_
    rw[<-HVV.out]
    exact hoR_mk HV.out ((HB0.out.trans (hB2.mono HB0.out.size)).trans hB3)
   | false =>
    have HV:Hid (hP l false=opH l):=Lib.hid (by rw[HNO.out,if_neg (by decide),if_neg hne])
    have HC:=Lib.hid (HOP.out rfl)
    obtain⟨v,hv⟩:∃ v,opH l=v:=⟨_,rfl⟩
    obtain⟨h,x,hvv,h8⟩:=hoV_split v (fun h e=>opH_len (hv.trans e))
    rw[hv]at HC HV
    unfold HoR at HC
    rw[hvv]at HC
    have HVV:=Lib.hid hvv
    have H8:=Lib.hid h8
    clear hv hvv h8
    clear hcc hr hr1 hn hb hE hE1 hB0 hF hbr hnp hy hne HOP HNM
    go_enter Tryz.func12,Tryz.ntmps12
    go_upto_region 1 with fail
    clear hw2
    go_upto_region 7 with fail
    go_wp2_with(first|(go_at_call 49;refine HC.out.mono ?_;rintro e w2 ⟨rfl,hB2⟩)|(refine storeH rfl _ _ rfl _ 28 hN h rfl rfl (HX.out.gom hlt hB2) rfl H8.out ?_;intro w3 hX3 hB3)|fail)
    refine bodyPost_ret (v:=.tuple #[h.v,.int .i64 x]) (Sx.results_two (u:=5) Tryz.results12 rfl (load_var hX3 H8.out) rfl) rfl ?_
    rw[<-HVV.out]
    exact hoR_mk HV.out ((HB0.out.trans (hB2.mono HB0.out.size)).trans hB3)
theorem six_shown(x:List Nat):∃ t,∃ k n,Sx.IsRun x k n/\t=Sx.shw x k n:=by
 obtain⟨k,n,h⟩:=Sx.IsRun.exists x
 exact⟨_,k,n,h,rfl⟩
noncomputable def sixS (x:List Nat):List UInt8:=(six_shown x).choose
noncomputable def hS8 (h:Ho):List UInt8:=if h.k=2 then h.s else if h.k=3 then Fou.shw h.f else if h.k=4 then [91]++sixS h.x++[93] else if h.k=5 then h.s else []
end Go.Proofs.YtkibdkfdffkkfaaGreatDoor.Hst
namespace Go.Proofs.YtkibdkfdffkkfaaGreatDoor.Hst
open Go.RowKit Utf Ut Remap Norm Pn Puny
theorem hP_err{l:List Int}{sp:Bool}{x:Int}(h:hP l sp = .inl x):x≠0:=by
 have hb:∀ o,brH o = .inl x->x≠0:=fun o e=>by
  cases o<;>cases e
  decide
 have hn:nmH (nmd l) = .inl x->x≠0:=fun e=>by
  have hp:∀ o y,pfo o = .inl y->y≠0:=fun o y e=>by cases o<;>cases e;decide
  have h2:∀ o y,nm2 o = .inl y->y≠0:=fun o y e=>by
   cases o with
   | none=>cases e;decide
   | some t =>
    have e':(if t.any fdB=true then (.inl 32:Int ⊕ (List UInt8 ⊕ Nat)) else if Fou.ends t=false then .inr (.inl t) else pfo (Fou.ans t)) = .inl y:=e
    by_cases h1:t.any fdB=true
    ·rw[if_pos h1]at e';cases e';decide
    ·rw[if_neg h1]at e'
     by_cases h2:Fou.ends t=false
     ·rw[if_pos h2]at e';cases e'
     ·rw[if_neg h2]at e';exact hp _ _ e'
  rcases hv:nmd l with y|t|y
  ·rw[hv]at e
   cases e
   exact h2 _ _ hv
  ·rw[hv]at e;cases e
  ·rw[hv]at e;cases e
 unfold hP at h
 split at h
 ·exact hb _ h
 ·split at h
  ·exact hn h
  ·split at h
   ·cases h
   ·unfold opH at h
    split at h
    ·cases h;decide
    ·cases h
end Go.Proofs.YtkibdkfdffkkfaaGreatDoor.Hst
namespace Go.Proofs.YtkibdkfdffkkfaaGreatDoor.Hst
open Go.RowKit Utf Remap Norm Pn Puny
theorem fullN_pair:tabP.all (fun t=>decide ((fullN 3 t.2.1).length<=2))=true:=by decide +kernel
theorem full_3le(r:Int):(full r).length<=3:=by
 by_cases hs:44032<=r/\r<55204
 ·rw[full_len_eq hs.1 hs.2]
  split<;>omega
 ·have hsy:syl r=false:=by
   cases h:syl r with
   | false=>rfl
   | true =>
    have:44032<=r/\r<=55203:=by simpa[syl] using h
    omega
  unfold full
  rw[fullN]
  split
  ·decide +kernel
  ·split
   ·decide +kernel
   ·split
    ·rename_i p hp
     unfold spl at hp
     rw[if_neg (by rw[hsy];decide)]at hp
     obtain⟨t,ht,rfl⟩:=Option.map_eq_some_iff.1 hp
     have h2:=of_decide_eq_true (List.all_eq_true.1 fullN_pair t (List.mem_of_find?_eq_some ht))
     rw[List.length_append,List.length_singleton]
     omega
    ·simp
theorem dec_3len:∀ l:List Int,(dec l).length<=l.length*3
 | []=>by simp[dec]
 | x :: t => by
  have ih:=dec_3len t
  rw[dec_eq]at ih ⊢
  rw[List.flatMap_cons,List.length_append,List.length_cons]
  have:(dec1 x).length<=3:=by unfold dec1;rw[List.length_map];exact full_3le x
  omega
theorem m1_dec(r:Int):(dec (m1 r)).length<=3:=by
 rcases m1_cases r with h|h|h|⟨s,_,_,h⟩
 ·rw[h];exact dec_3len [r]
 ·rw[h];simp[dec]
 ·rw[h];decide +kernel
 ·rw[h];exact dec_3len [_]
theorem mapL_dec:∀ l:List Int,(dec (mapL l)).length<=l.length*3
 | []=>by simp[mapL,dec]
 | x :: t => by
  have ih:=mapL_dec t
  have e:mapL (x::t)=m1 x++mapL t:=rfl
  have e2:dec (m1 x++mapL t)=dec (m1 x)++dec (mapL t):=by unfold dec;rw[List.flatMap_append]
  rw[e,e2,List.length_append,List.length_cons]
  have:=m1_dec x
  omega
theorem nfc_3len{l:List Int}(h:∀ x∈mapL l,Utf.sca x=true):(nfc (mapL l)).length<=l.length*3:=by
 have hc:C32 (mapL l):=fun x hx=>by have:=sca_pos (h x hx);omega
 have h1:=nfc_le hc
 rw[nfd_len]at h1
 have:=mapL_dec l
 omega
theorem fits_300{l:List Int}(h:l.length<=300):Fits l:=fun hg=>by
 have hm:=mapL_len l
 have hn:=nfc_3len (mapL_sca hg)
 have ht:(toN (nfc (mapL l))).length=(nfc (mapL l)).length:=by unfold toN;rw[List.length_map]
 have hl:=lab_len (toN (nfc (mapL l)))
 exact⟨by omega,by omega,fun p hp=>by have:=(lab_mem hp).2;omega⟩
theorem enc_low{l:List Int}(h:∀ x∈l,0<=x/\x<128):enc l=l:=by
 induction l with
 | nil=>rfl
 | cons x t ih =>
  have hx:=h x (List.mem_cons_self ..)
  rw[enc_cons,ih fun y hy=>h y (List.mem_cons_of_mem _ hy)]
  have:encOne x=[x]:=by
   unfold encOne
   rw[fix_of_sca (decide_eq_true (by omega)),Utf.b1_1 (by omega)]
  rw[this]
  rfl
theorem pgo_plain:∀ {l:List UInt8},(37:UInt8) ∉ l->pgo 0 l=bi l
 | [],_=>rfl
 | c :: t, h => by
  have hc:c≠37:=fun e=>h (by simp[e])
  have e:cod (c::t)=(c.toNat,false):=if_neg hc
  rw[pgo,e]
  show (c.toNat:Int)::pgo (if false=true then 2 else 0) t=_
  rw[if_neg (by decide),pgo_plain fun e=>h (List.mem_cons_of_mem _ e)]
  rfl
theorem nums_bi(l:List Int)(h:∀ x∈l,0<=x/\x<256):bi (dl (strOfNums l))=l:=by
 show bi (l.map fun n=>UInt8.ofNat n.toNat).toArray.toList=l
 unfold bi
 rw[List.map_map]
 refine (List.map_congr_left fun x hx => ?_).trans (List.map_id l)
 have:=h x hx
 show (((UInt8.ofNat x.toNat).toNat:Nat):Int)=x
 have e:(UInt8.ofNat x.toNat).toNat=x.toNat:=by
  simp
  omega
 rw[e]
 omega
theorem dcd_asc_len{l:List Int}(h:∀ x∈l,0<=x/\x<128):(dcd l).length<=l.length:=by
 have h1:=pdec_le (dl (strOfNums (enc l))) 0
 have h2:(dl (strOfNums (enc l))).length=(enc l).length:=by simp[dl,strOfNums]
 have h3:=codes_len (pby l)
 rw[enc_low h]at h1 h2
 have h4:(pby l).length<=l.length:=by unfold pby pdec;rw[enc_low h];omega
 unfold dcd Utf.dec
 rw[List.length_map]
 omega
theorem conv_asc(s:ByteArray)(w:World)(h:∀ x∈dl s,x.toNat<128)(hs:s.size<=1000000) :
  ∃ W' c,(convert 9 22 (.string s)).run Tryz.prog w = .ok (.slice (some ⟨w.heap.size,0,none⟩) s.size c) W'/\s.size<=c/\Row W' W'.heap.size (some ⟨w.heap.size,0,none⟩) (cl .i32 (bi (dl s)))/\Below w.heap.size w W':=by
 obtain⟨c,hrun,hc,_⟩:=Pn.conv_runes s w h hs
 have hl:(Pn.nat8 s.data.toList).length=s.size:=by simp[Pn.nat8]
 rw[hl]at hrun hc
 refine⟨_,c,hrun,hc, ?_,(Below.refl _ w).drew.alloc (Nat.le_refl _) _⟩
 have e:cn (Pn.nat8 s.data.toList)=cl .i32 (bi (dl s)):=by
  rw[cn_ofN]
  unfold bi ofN Pn.nat8
  rw[List.map_map]
  rfl
 rw[e]
 refine .inr ⟨w.heap.size,0,rfl,by rw[World.size_alloc];exact Nat.lt_succ_self _,fun k hk => ?_⟩
 have hn:=World.alloc_heap_new w.drew (.cells ((cl .i32 (bi (dl s))).toArray++Array.replicate (c-s.size) (.int .i32 0)) 21)
 rw[Nat.zero_add]
 show World.cell? _ ⟨w.drew.heap.size,k,none⟩=_
 rw[cell_of_row _ _ k _ _ _ hn]
 have hk2:k<(bi (dl s)).length:=by simpa[cl] using hk
 simp[Array.getElem?_append]
 intro h2
 omega
end Go.Proofs.YtkibdkfdffkkfaaGreatDoor.Hst
namespace Go.Proofs.YtkibdkfdffkkfaaGreatDoor.Hst
open Go.RowKit Utf Ut Remap Norm Pn Puny
open Sx (dv)
open Go.Lib (decodeN)
def by8 (xs:List Int):List UInt8:=xs.map fun n=>UInt8.ofNat n.toNat
theorem decN_1(n b0 b1 b2 b3:Nat)(h:b0<128):decodeN n b0 b1 b2 b3=(b0,1):=by unfold decodeN;rw[if_pos h]
theorem decN_2(r n b2 b3:Nat)(h:128<=r)(h':r<2048)(hn:2<=n):decodeN n (192+r/64) (128+r%64) b2 b3=(r,2):=by
 unfold decodeN
 rw[if_neg (by omega),if_pos (by omega),if_pos (by omega)]
 congr 1
 omega
theorem decN_3(r n b3:Nat)(h:2048<=r)(h':r<65536)(hs:r<55296∨57343<r)(hn:3<=n):decodeN n (224+r/4096) (128+r/64%64) (128+r%64) b3=(r,3):=by
 have e:(224+r/4096)%16*4096+(128+r/64%64)%64*64+(128+r%64)%64=r:=by omega
 unfold decodeN
 rw[if_neg (by omega),if_neg (by omega),if_pos (by omega),e,if_pos (by omega)]
theorem decN_4(r n:Nat)(h:65536<=r)(h':r<=1114111)(hn:4<=n):decodeN n (240+r/262144) (128+r/4096%64) (128+r/64%64) (128+r%64)=(r,4):=by
 have e:(240+r/262144)%8*262144+(128+r/4096%64)%64*4096+(128+r/64%64)%64*64+(128+r%64)%64=r:=by omega
 unfold decodeN
 rw[if_neg (by omega),if_neg (by omega),if_neg (by omega),if_pos (by omega),e,if_pos (by omega)]
theorem get_at{s:ByteArray}{i k:Nat}{x:UInt8}(h:((dl s).drop i)[k]? = some x):s.get! (i+k)=x:=by
 rw[List.getElem?_drop]at h
 have h2:i+k<s.data.size:=by
  have:=(List.getElem?_eq_some_iff.1 h).1
  simpa using this
 have h3:s.data[i+k]? = some x:=by rw[<-Array.getElem?_toList];exact h
 show s.data[i+k]! = x
 rw[getElem!_pos s.data (i+k) h2]
 rw[Array.getElem?_eq_getElem h2]at h3
 exact Option.some.inj h3
theorem get_nat{s:ByteArray}{i k v:Nat}(h:((dl s).drop i)[k]? = some (UInt8.ofNat v))(hv:v<256):(s.get! (i+k)).toNat=v:=by
 rw[get_at h];exact UInt8.toNat_ofNat_of_lt' hv
theorem dec_b1{r:Int}(hr:Utf.sca r=true){s:ByteArray}{i:Nat}{t:List UInt8}(h:(dl s).drop i=by8 (b1 r)++t):Utf8.decode s i=(r.toNat,(b1 r).length):=by
 obtain⟨h0,h1,h2⟩:=(Utf.sca_iff r).1 hr
 obtain⟨n,rfl⟩:∃ n:Nat,r=(n:Int):=⟨r.toNat,by omega⟩
 have hl:=congrArg List.length h
 rw[List.length_drop,List.length_append]at hl
 rw[Lib.decode_at]
 have hsz:s.size=(dl s).length:=Array.length_toList.symm
 rw[hsz]
 by_cases c1:(n:Int)<=127
 ·rw[b1_1 c1]at h hl ⊢
  have g0:=get_nat (k:=0) (v:=n) (by rw[h];rfl) (by omega)
  rw[Nat.add_zero]at g0
  rw[decN_1 _ _ _ _ _ (by omega),g0]
  rfl
 ·by_cases c2:(n:Int)<=2047
  ·rw[b1_2 (by omega) c2]at h hl ⊢
   have g0:=get_nat (k:=0) (v:=192+n/64) (by rw[h];rfl) (by omega)
   have g1:=get_nat (k:=1) (v:=128+n%64) (by rw[h];rfl) (by omega)
   rw[Nat.add_zero]at g0
   rw[g0,g1,decN_2 n _ _ _ (by omega) (by omega) (by simp[by8]at hl;omega)]
   rfl
  ·by_cases c3:(n:Int)<=65535
   ·rw[b1_3 (by omega) c3]at h hl ⊢
    have g0:=get_nat (k:=0) (v:=224+n/4096) (by rw[h];rfl) (by omega)
    have g1:=get_nat (k:=1) (v:=128+n/64%64) (by rw[h];rfl) (by omega)
    have g2:=get_nat (k:=2) (v:=128+n%64) (by rw[h];rfl) (by omega)
    rw[Nat.add_zero]at g0
    rw[g0,g1,g2,decN_3 n _ _ (by omega) (by omega) (by omega) (by simp[by8]at hl;omega)]
    rfl
   ·rw[b1_4 (by omega)]at h hl ⊢
    have g0:=get_nat (k:=0) (v:=240+n/262144) (by rw[h];rfl) (by omega)
    have g1:=get_nat (k:=1) (v:=128+n/4096%64) (by rw[h];rfl) (by omega)
    have g2:=get_nat (k:=2) (v:=128+n/64%64) (by rw[h];rfl) (by omega)
    have g3:=get_nat (k:=3) (v:=128+n%64) (by rw[h];rfl) (by omega)
    rw[Nat.add_zero]at g0
    rw[g0,g1,g2,g3,decN_4 n _ (by omega) (by omega) (by simp[by8]at hl;omega)]
    rfl
theorem enc8_one(r:Int):dl (Utf8.encode r)=by8 (encOne r):=by
 have hv:(if Utf8.valid r=true then r.toNat else 65533)=(fixR r).toNat:=by
  unfold fixR Utf.sca Utf8.valid
  simp only[decide_eq_true_eq,Bool.and_eq_true,Bool.or_eq_true]
  repeat' split
  all_goals first|rfl|omega
 obtain⟨h0,h1,h2⟩:=(Utf.sca_iff _).1 (sca_fix r)
 obtain⟨n,hn⟩:∃ n:Nat,fixR r=(n:Int):=⟨(fixR r).toNat,by omega⟩
 rw[hn]at h0 h1 h2 hv
 rw[Int.toNat_natCast]at hv
 unfold Utf8.encode encOne
 simp only[Utf8.runeError,hv]
 rw[hn]
 by_cases c1:n<128
 ·rw[if_pos c1,b1_1 (by omega)];rfl
 ·rw[if_neg c1]
  by_cases c2:n<2048
  ·rw[if_pos c2,b1_2 (by omega) (by omega)];rfl
  ·rw[if_neg c2]
   by_cases c3:n<65536
   ·rw[if_pos c3,b1_3 (by omega) (by omega)];rfl
   ·rw[if_neg c3,b1_4 (by omega)];rfl
theorem by8_app(a b:List Int):by8 (a++b)=by8 a++by8 b:=by simp[by8]
theorem runes_fold:∀ (l:List Int) (r:ByteArray),dl (l.foldl (fun r n=>r++Utf8.encode n) r)=dl r++by8 (enc l)
 | [],r=>by simp[enc,by8]
 | x :: t, r => by
  rw[List.foldl_cons,runes_fold t,enc_cons,by8_app,<-enc8_one]
  simp[dl]
theorem runes_enc(l:List Int):dl (runesBytes l)=by8 (enc l):=by
 unfold runesBytes
 rw[runes_fold]
 rfl
def rnF (s:ByteArray):Nat->Nat->List Int
 | 0,_=>[]
 | b+1,i=>if i<s.size then ((Utf8.decode s i).1:Int)::rnF s b (i+(Utf8.decode s i).2) else []
def rn (s:ByteArray):List Int:=rnF s s.size 0
theorem rnF_enc(s:ByteArray):∀ (l:List Int) (b i:Nat),(dl s).drop i=by8 (enc l)->s.size<=i+b->rnF s b i=l.map fixR
 | [],0,i,h,hb=>rfl
 | [], b + 1, i, h, hb => by
  have hl:=congrArg List.length h
  have hsz:s.size=(dl s).length:=Array.length_toList.symm
  rw[List.length_drop,<-hsz]at hl
  rw[rnF,if_neg (by simp[enc,by8]at hl;omega)]
  rfl
 | x :: t, b, i, h, hb => by
  rw[enc_cons,by8_app]at h
  have hsz:s.size=(dl s).length:=Array.length_toList.symm
  have hl:=congrArg List.length h
  have h1:=encOne_len x
  rw[List.length_drop,<-hsz,List.length_append,show (by8 (encOne x)).length=(encOne x).length by simp[by8]]at hl
  obtain⟨c,rfl⟩:∃ c,b=c+1:=⟨b-1,by omega⟩
  have hd:=dec_b1 (sca_fix x) (s:=s) (i:=i) (t:=by8 (enc t)) h
  rw[rnF,if_pos (by omega),hd,List.map_cons]
  have h0:=((Utf.sca_iff _).1 (sca_fix x)).1
  congr 1
  ·show ((fixR x).toNat:Int)=_
   omega
  ·refine rnF_enc s t c _ ?_ (by simp only[encOne]at h1;omega)
   rw[<-List.drop_drop,h]
   have e:(by8 (encOne x)).length=(b1 (fixR x)).length:=by simp[by8,encOne]
   rw[<-e,List.drop_left]
theorem rn_runes(l:List Int):rn (runesBytes l)=l.map fixR:=rnF_enc _ l _ 0 (by rw[List.drop_zero,runes_enc]) (by omega)
def hxd (k:Nat):UInt8:=if k<10 then UInt8.ofNat (48+k) else UInt8.ofNat (87+k)
def cod1 (c:UInt8):List UInt8:=[37,hxd (c.toNat/16),hxd (c.toNat%16)]
def outB:List UInt8->List Bool->List UInt8
 | [],_=>[]
 | c::t,[]=>c::outB t []
 | c::t,b::u=>(if b=true then cod1 c else [c])++outB t u
def dc1 (c:UInt8):List UInt8:=if c.toNat<128 then [c] else cod1 c
def dcB (l:List UInt8):List UInt8:=l.flatMap dc1
inductive Pc:List UInt8->List UInt8->Prop
 | nil:Pc [] []
 | lit {c:UInt8} {r l:List UInt8} (h:c≠37) (t:Pc r l):Pc (c::r) (c::l)
 | code (c:UInt8) {r l:List UInt8} (t:Pc r l):Pc (cod1 c++r) (c::l)
theorem hxd_all:∀ k<16,dv (hxd k)=k/\(hxd k).toNat<128/\hxd k≠91:=by decide
theorem dc1_all:∀ c:Nat,c<256->(dc1 (UInt8.ofNat c)).all (fun x=>decide (x.toNat<128))=true:=by decide +kernel
theorem Pc.out{l:List UInt8}(h:37 ∉ l):∀ u,Pc (outB l u) l:=by
 induction l with
 | nil=>intro u;exact .nil
 | cons c t ih =>
  have hc:c≠37:=fun e=>h (by simp[e])
  have ht:=ih fun e=>h (List.mem_cons_of_mem _ e)
  intro u
  cases u with
  | nil=>exact .lit hc (ht [])
  | cons b u =>
   unfold outB
   cases b with
   | true=>exact .code c (ht u)
   | false=>exact .lit hc (ht u)
theorem dcB_app(a b:List UInt8):dcB (a++b)=dcB a++dcB b:=by simp[dcB]
theorem dcB_cod(c:UInt8):dcB (cod1 c)=cod1 c:=by
 have hc:=c.toNat_lt
 have h1:=(hxd_all (c.toNat/16) (by omega)).2.1
 have h2:=(hxd_all (c.toNat%16) (by omega)).2.1
 unfold dcB cod1
 simp[dc1,h1,h2]
theorem Pc.dc{r l:List UInt8}(h:Pc r l):Pc (dcB r) l:=by
 induction h with
 | nil=>exact .nil
 | @lit c r l h t ih =>
  show Pc (dc1 c++dcB r) _
  unfold dc1
  split
  ·exact .lit h ih
  ·exact .code c ih
 | @code c r l t ih =>
  rw[dcB_app,dcB_cod]
  exact .code c ih
theorem Pc.dec{r l:List UInt8}(h:Pc r l):pdec r=bi l:=by
 unfold pdec
 induction h with
 | nil=>rfl
 | @lit c r l h t ih =>
  rw[pgo,show cod (c::r)=(c.toNat,false) by unfold cod;dsimp only;rw[if_neg h]]
  simp only[Bool.false_eq_true,if_false]
  rw[ih]
  rfl
 | @code c r l t ih =>
  have hc:=c.toNat_lt
  have h1:=(hxd_all (c.toNat/16) (by omega)).1
  have h2:=(hxd_all (c.toNat%16) (by omega)).1
  have e:cod (cod1 c++r)=(c.toNat,true):=by
   show cod (37::hxd (c.toNat/16)::hxd (c.toNat%16)::r)=_
   unfold cod
   dsimp only
   rw[if_pos rfl,h1,h2,if_pos (by omega)]
   congr 1
   omega
  show pgo 0 (37::hxd (c.toNat/16)::hxd (c.toNat%16)::r)=_
  rw[pgo,show cod (37::hxd (c.toNat/16)::hxd (c.toNat%16)::r)=(c.toNat,true) from e]
  simp only[if_true]
  rw[pgo,pgo,ih]
  rfl
theorem pdec_dcB{l:List UInt8}(h:37 ∉ l)(u:List Bool):pdec (dcB (outB l u))=bi l:=((Pc.out h u).dc).dec
theorem dcB_asc(l:List UInt8):∀ x∈dcB l,x.toNat<128:=by
 intro x hx
 obtain⟨c,_,hx⟩:=List.mem_flatMap.1 hx
 have:=dc1_all c.toNat c.toNat_lt
 rw[UInt8.ofNat_toNat,List.all_eq_true]at this
 simpa using this x hx
theorem enc_fix:∀ l:List Int,enc (l.map fixR)=enc l
 | []=>rfl
 | x :: t => by
  rw[List.map_cons,enc_cons,enc_cons,enc_fix t]
  have:encOne (fixR x)=encOne x:=by unfold encOne;rw[fix_of_sca (sca_fix x)]
  rw[this]
theorem nums_by8(l:List Int):dl (strOfNums l)=by8 l:=by simp[strOfNums,by8,dl]
theorem pby_runes{l:List Int}(h:(37:UInt8) ∉ dl (runesBytes l)):pby (l.map fixR)=bi (dl (runesBytes l)):=by
 unfold pby
 rw[enc_fix,nums_by8,<-runes_enc]
 exact pgo_plain h
theorem by8_bi(l:List UInt8):by8 (bi l)=l:=by
 unfold by8 bi
 rw[List.map_map]
 refine (List.map_congr_left fun x _ => ?_).trans (List.map_id l)
 simp
theorem pby_coded{l:List UInt8}(h:(37:UInt8) ∉ l)(u:List Bool):pby (bi (dcB (outB l u)))=bi l:=by
 unfold pby
 rw[enc_low,nums_by8,by8_bi,pdec_dcB h u]
 intro x hx
 obtain⟨c,hc,rfl⟩:=List.mem_map.1 hx
 have:=dcB_asc _ c hc
 omega
theorem hP_named{m:List Int}(h:m=[]∨m[0]!≠91):hP m true=nmH (nmd m):=by
 unfold hP
 rw[if_neg (fun ⟨a,b⟩=>h.elim a fun c=>c b),if_pos rfl]
theorem fix_91{x:Int}(h:x≠91):fixR x≠91:=by
 unfold fixR
 split
 ·exact h
 ·decide
theorem dcB_head{l:List UInt8}(h:l[0]?≠some 91):bi (dcB l)=[]∨(bi (dcB l))[0]!≠91:=by
 cases l with
 | nil=>exact .inl rfl
 | cons c t =>
  refine .inr ?_
  have hc:c≠91:=fun e=>h (by rw[e];rfl)
  show (bi (dc1 c++dcB t))[0]!≠91
  unfold dc1
  split
  ·show (c.toNat:Int)≠91
   intro e
   exact hc (UInt8.toNat_inj.1 (by simpa using (by omega:c.toNat=91)))
  ·show ((37:UInt8).toNat:Int)≠91
   decide
theorem dcd_percent{l:List Int}(u:List Bool)(h37:(37:UInt8) ∉ dl (runesBytes l)):dcd (bi (dcB (outB (dl (runesBytes l)) u)))=dcd (l.map fixR):=by
 unfold dcd
 rw[pby_runes h37,pby_coded h37]
theorem hP_percent{l:List Int}(u:List Bool)(h37:(37:UInt8) ∉ dl (runesBytes l))(h0:l=[]∨l[0]!≠91)(ho:(outB (dl (runesBytes l)) u)[0]?≠some 91) :
  hP (l.map fixR) true=hP (bi (dcB (outB (dl (runesBytes l)) u))) true:=by
 have e:=(dcd_percent u h37).symm
 rw[hP_named,hP_named (dcB_head ho)]
 ·unfold nmd
  rw[e]
 ·cases l with
  | nil=>exact .inl rfl
  | cons x t=>exact .inr (fix_91 (h0.elim (fun e=>by cases e) id))
theorem dcd_runes_len{l:List Int}(h:(37:UInt8) ∉ dl (runesBytes l)):(dcd (l.map fixR)).length<=l.length:=by
 unfold dcd
 have e:pby (l.map fixR)=enc l:=by
  rw[pby_runes h,runes_enc]
  have:bi (by8 (enc l))=enc l:=by
   rw[<-nums_by8]
   exact nums_bi _ fun x hx=>by have:=enc_byt l x hx;omega
  exact this
 rw[e,Utf.dec_enc,List.length_map]
 exact Nat.le_refl _
end Go.Proofs.YtkibdkfdffkkfaaGreatDoor.Hst
namespace Go.Proofs.YtkibdkfdffkkfaaGreatDoor.Hst
open Go.RowKit Utf Remap Norm Pn Puny
theorem litL:∀ d:Fin 16,((⟨#[48,49,50,51,52,53,54,55,56,57,97,98,99,100,101,102]⟩:ByteArray)[d.1]'(Nat.lt_of_lt_of_le d.2 (by decide)))=hxd d.1:=by decide
theorem litL'(d:Nat)(h:d<16)(h2:d<(⟨#[48,49,50,51,52,53,54,55,56,57,97,98,99,100,101,102]⟩:ByteArray).size):((⟨#[48,49,50,51,52,53,54,55,56,57,97,98,99,100,101,102]⟩:ByteArray)[d]'h2)=hxd d:=litL ⟨d,h⟩
theorem one32(xs:List Int):∀ u∈cl .i32 xs,u.oneCell'=true:=by
 intro u hu
 obtain⟨x,_,rfl⟩:=List.mem_map.1 hu
 rfl
theorem row_lit3i(wr:World)(a b c:Value):Row (wr.alloc (.cells #[a,b,c] 21)).drew (wr.alloc (.cells #[a,b,c] 21)).drew.heap.size (some ⟨wr.heap.size,0,none⟩) [a,b,c]:=by
 have h:Row (wr.alloc (.cells #[a,b,c] 21)) (wr.alloc (.cells #[a,b,c] 21)).heap.size (some ⟨wr.heap.size,0,none⟩) [a,b,c]:=by
  rw[World.size_alloc]
  exact row_new _ _ 21 _ rfl
 exact h
theorem wpList_app32{ops:Array Oper}{rest:List Oper}{o:Oper}{a:Act}{Q:Exit->Act->World->Prop}(B:Nat)(W:World)(hgd:o.guard=none)(s x:Operand)
  (ho:o.op = .call { callee:=.builtin .append,args:=#[s,x],argTypes:=#[22,22] })
  (v:Value) (n m:Nat) (xs:List Int) (y:Int) (hs:a.eval s=v) (hown:W.ownsRow B 21 1 v n (cl .i32 xs)) (hB:B<=W.heap.size)
  (hx:a.eval x = .slice (some ⟨W.heap.size,0,none⟩) 1 1) (hm:n+1=m) (hm2:m<=1000000)
  (h:∀ A' c' w',w'.ownsRow B 21 1 (.slice A' m c') m (cl .i32 (xs++[y]))->Below B W w'->wpList Tryz.prog ops Q rest (a.put o.dst (.slice A' m c')) w') :
  wpList Tryz.prog ops Q (o::rest) a (W.alloc (.cells #[.int .i32 y] 21)):=by
 subst hm
 obtain⟨i0,hi,hz0,hz1,hz2⟩:=info_split info_int32
 have hB1:=(Below.refl B W).alloc hB (.cells #[.int .i32 y] 21)
 refine wpList_append_row _ hgd s x 22 ho B 21 i0 (.int .i32 0) 1 4 Tryz.underlying22 hi hz0 hz1 hz2 rfl (by decide) v n (cl .i32 xs) hs (hown.alloc _) _ _ 1 1 [.int .i32 y] hx rfl (row_new _ _ 21 [.int .i32 y] rfl) (by simp[Value.oneCell']) (by unfold maxLen;omega) (by omega) (by rw[World.size_alloc];omega) ?_
 intro v' w' hO hg
 have hB2:=hB1.grown hg (by rw[World.size_alloc];omega) (fun j e=>(hown.lt j e).1)
 obtain⟨A',c',rfl,_,_⟩:=own_form hO
 exact h A' c' w' (by rw[cl_snoc];exact hO) hB2
section
variable {ops:Array Oper} {o:Oper} {a:Act} {K:Act->World->Prop} {Q:Exit->Act->World->Prop} {E:Prop}
theorem step_app32(B:Nat)(W:World)(hgd:o.guard=none)(s x:Operand)(ho:o.op = .call { callee:=.builtin .append,args:=#[s,x],argTypes:=#[22,22] })
  (v:Value) (n:Nat) (xs:List Int) (hs:a.eval s=v) (hown:W.ownsRow B 21 1 v n (cl .i32 xs)) (hB:B<=W.heap.size)
  (A2:Option Addr) (m c:Nat) (news:List Int) (hx:a.eval x = .slice A2 m c) (hl:news.length=m) (hr:Row W W.heap.size A2 (cl .i32 news)) (q:Nat) (hq:n+m=q) (hnm:q<=1000000)
  (h:∀ A' c' w',w'.ownsRow B 21 1 (.slice A' q c') q (cl .i32 (xs++news))->Below B W w'->K (a.put o.dst (.slice A' q c')) w') :
  if Region.wanted o (yielded ops a.tmps)=true then Oper.wp Tryz.prog o a W K Q else E:=by
 subst hq
 obtain⟨i0,hi,hz0,hz1,hz2⟩:=info_split info_int32
 rw[if_pos (show Region.wanted o (yielded ops a.tmps)=true by simp[Region.wanted,hgd])]
 obtain⟨v',w',hrun,hO,hg⟩:=run_append_row (P:=Tryz.prog) W B 22 o.type 21 i0 (.int .i32 0) 1 4 Tryz.underlying22 hi hz0 hz1 hz2 rfl (by decide) v n (cl .i32 xs) hown W.heap.size A2 m c (cl .i32 news) (by simp[hl]) hr (one32 _) (by unfold maxLen;omega) (by omega) hB
 unfold Oper.wp execOp
 simp only[ho,resolve,invoke,builtin,Sem.run_bind,Sem.run_pure,Result.andThen_ok,List.map_toArray,List.map_cons,List.map_nil,hs,hx,hrun]
 obtain⟨A',c',rfl,_,_⟩:=own_form hO
 exact h A' c' w' (by rw[cl_app];exact hO) ((Below.refl B W).grown hg hB (fun j e=>(hown.lt j e).1))
end
theorem dcB_snoc{l:List UInt8}{k:Nat}{x:UInt8}(h:l[k]? = some x):dcB (l.take (k+1))=dcB (l.take k)++dc1 x:=by
 rw[List.take_add_one,h,dcB_app]
 congr 1
 simp[dcB]
theorem bi_cat(a b:List UInt8):bi (a++b)=bi a++bi b:=by simp[bi]
theorem dc1_len(x:UInt8):(dc1 x).length<=3:=by unfold dc1;split<;>simp[cod1]
theorem dcB_len(l:List UInt8):(dcB l).length<=3*l.length:=by
 induction l with
 | nil=>exact Nat.le_refl _
 | cons c t ih =>
  have:=dc1_len c
  have e:dcB (c::t)=dc1 c++dcB t:=rfl
  rw[e,List.length_append,List.length_cons]
  omega
theorem decoded_any(s:ByteArray)(hs:s.size<=800)(w:World) :
  Calls Tryz.prog 20 #[.string s] w (fun e w' => ∃ (A:Option Addr) (n c:Nat),e = .returned (.slice A n c)/\n=(dcB (dl s)).length/\n<=c/\Row w' w'.heap.size A (cl .i32 (bi (dcB (dl s))))/\Below w.heap.size w w'):=by
 obtain⟨W1,c1,hrun,hB1,hcells⟩:=Fou.conv_bytes s w
 have hlen:(dl s).length=s.size:=Array.length_toList
 obtain⟨l,hl⟩:∃ l,dl s=l:=⟨_,rfl⟩
 have HC:Hid (∀ k (h:k<l.length),W1.cell? ⟨w.heap.size,k,none⟩=some (.int .u8 ((l[k].toNat:Nat):Int))):=Lib.hid (by subst hl;exact hcells)
 rw[hl]at hlen ⊢
 have HLEN:=Lib.hid hlen
 have HB1:=Lib.hid hB1
 have HLT:Hid (s.size≠0->w.heap.size<W1.heap.size):=Lib.hid (fun h0=>by
  have:=HC.out 0 (by omega)
  refine Nat.lt_of_not_le fun h => ?_
  rw[World.cell?,Array.getElem?_eq_none (by simpa using h)]at this
  cases this)
 clear hcells hl hlen hB1
 go_enter Tryz.func20,Tryz.ntmps20
 go_wp2
 clear hrun
 go_loopg [3,9] s.size (fun g s3 s9 wr => ∃ (k q c':Nat) (A':Option Addr),s9 = .int .i64 (k:Int)/\s3 = .slice A' q c'/\s.size-k=g/\k<=s.size/\q<=3*k/\Hid ((dcB (l.take k)).length=q)/\Hid (wr.ownsRow W1.heap.size 21 1 (.slice A' q c') q (cl .i32 (bi (dcB (l.take k)))))/\Hid (Below W1.heap.size W1 wr))
 case atStart=>exact⟨0,0,0,none,rfl,rfl,rfl,Nat.zero_le _,Nat.zero_le _,Lib.hid rfl,Lib.hid ⟨rfl,.inl ⟨rfl,rfl⟩⟩,Lib.hid (Below.refl _ _)⟩
 case round =>
  obtain⟨k,q,c',A',rfl,rfl,rfl,hk,hq,HQL,HO,HB⟩:=hrel
  by_cases hlt:k<s.size
  ·have hltz:(k:Int)<(s.size:Int):=by omega
   have hkl:k<l.length:=by rw[HLEN.out];exact hlt
   have hwlt:=HLT.out (by omega)
   have c0:wr.cell? ⟨w.heap.size,k,none⟩=some (.int .u8 ((l[k].toNat:Nat):Int)):=(HB.out.cell (p:=⟨w.heap.size,k,none⟩) hwlt).trans (HC.out k hkl)
   have hgx:l[k]? = some l[k]:=List.getElem?_eq_getElem hkl
   obtain⟨x,hx⟩:∃ x,l[k]=x:=⟨_,rfl⟩
   rw[hx]at c0 hgx
   have HS:=Lib.hid (dcB_snoc hgx)
   have hx256:=x.toNat_lt
   obtain⟨b,hb⟩:∃ b,x.toNat=b:=⟨_,rfl⟩
   rw[hb]at c0 hx256
   have hle:W1.heap.size<=wr.heap.size:=HB.out.size
   have HO1:=HO.out
   by_cases h7:b<128
   ·have h7z:(b:Int)<128:=by omega
    have HD:Hid (bi (dcB (l.take (k+1)))=bi (dcB (l.take k))++[(b:Int)]/\(dcB (l.take (k+1))).length=q+1):=Lib.hid (by
     rw[HS.out,bi_cat,List.length_append,HQL.out]
     unfold dc1
     rw[hb,if_pos h7]
     exact⟨by simp[bi,hb],rfl⟩)
    clear hgx hx hb HS hwlt
    go_wp2_with(first|(at_builtin;refine wpList_app32 W1.heap.size wr rfl _ _ rfl (.slice A' q c') q (q+1) (bi (dcB (l.take k))) (b:Int) rfl HO1 hle rfl rfl (by omega) ?_;intro A3 c3 w3 hO3 hB3)|fail)
    go_roundg (s.size-(k+1))
    case measure=>omega
    case rel=>exact⟨k+1,q+1,c3,A3,by go_num,by go_num,rfl,by omega,by omega,Lib.hid HD.out.2,Lib.hid (by rw[HD.out.1];exact hO3),Lib.hid (HB.out.trans hB3)⟩
   ·have h7z:¬ (b:Int)<128:=by omega
    obtain⟨hi,hhi⟩:∃ h,b/16=h:=⟨_,rfl⟩
    obtain⟨lo,hlo⟩:∃ h,b%16=h:=⟨_,rfl⟩
    have h1:(b:Int)/16=(hi:Int):=by omega
    have h2:(b:Int)%16=(lo:Int):=by omega
    have hh16:hi<16:=by omega
    have hl16:lo<16:=by omega
    have hand:bits .and .u8 (b:Int) 15=(lo:Int):=by
     rw[u8_and (b:Int) 15 (by omega) (by omega) (by omega) (by omega)]
     have e:=Nat.and_two_pow_sub_one_eq_mod b 4
     have e2:((b:Int).toNat &&& (15:Int).toNat)=b%16:=e
     rw[e2,hlo]
    have hx1:=litL' hi hh16 (Nat.lt_of_lt_of_le hh16 (by decide))
    have hx2:=litL' lo hl16 (Nat.lt_of_lt_of_le hl16 (by decide))
    obtain⟨e1,he1⟩:∃ e,(⟨#[48,49,50,51,52,53,54,55,56,57,97,98,99,100,101,102]⟩:ByteArray)[hi]'(Nat.lt_of_lt_of_le hh16 (by decide))=e:=⟨_,rfl⟩
    obtain⟨e2,he2⟩:∃ e,(⟨#[48,49,50,51,52,53,54,55,56,57,97,98,99,100,101,102]⟩:ByteArray)[lo]'(Nat.lt_of_lt_of_le hl16 (by decide))=e:=⟨_,rfl⟩
    rw[he1]at hx1
    rw[he2]at hx2
    have HD:Hid (bi (dcB (l.take (k+1)))=bi (dcB (l.take k))++[37,(e1.toNat:Int),(e2.toNat:Int)]/\(dcB (l.take (k+1))).length=q+3):=Lib.hid (by
     rw[HS.out,bi_cat,List.length_append,HQL.out]
     unfold dc1
     rw[hb,if_neg h7]
     unfold cod1
     rw[hb,hhi,hlo,hx1,hx2]
     exact⟨rfl,rfl⟩)
    have hu1:=e1.toNat_lt
    have hu2:=e2.toNat_lt
    have HW1:Hid (IntKind.i32.wrap (e1.toNat:Int)=(e1.toNat:Int)):=Lib.hid (IntWalk.i32_in _ (by omega))
    have HW2:Hid (IntKind.i32.wrap (e2.toNat:Int)=(e2.toNat:Int)):=Lib.hid (IntWalk.i32_in _ (by omega))
    clear hu1 hu2
    have i1:(0:Int)<=(hi:Int)/\(hi:Int)<16:=by omega
    have i2:(0:Int)<=(lo:Int)/\(lo:Int)<16:=by omega
    have b2:(0:Int)<=(b:Int)/\(b:Int)<256:=by omega
    have hq1:q+3<=1000000:=by omega
    have HQ:Hid (q+3<=3*(k+1)/\k+1<=s.size):=Lib.hid (by omega)
    clear hgx hx hb HS hwlt hhi hlo hx1 hx2 hq
    go_upto_region 7 with fail
    go_region_law (first
     | (rw[HW1.out,HW2.out];refine step_app32 W1.heap.size _ rfl (.tmp 20) (.tmp 29) rfl (.slice A' q c') q (bi (dcB (l.take k))) rfl (own_drew (HO1.alloc _)) (size_lit3 _ hle) (some ⟨wr.heap.size,0,none⟩) 3 3 [37,(e1.toNat:Int),(e2.toNat:Int)] rfl rfl (row_lit3i _ _ _ _) (q+3) rfl hq1 ?_;intro A3 c3 w3 hO3 hB3)
     | fail)
    all_goals
     go_wp2_with fail
     go_roundg (s.size-(k+1))
     case measure=>omega
     case rel=>exact⟨k+1,q+3,c3,A3,by go_num,rfl,rfl,HQ.out.2,HQ.out.1,Lib.hid HD.out.2,Lib.hid (by rw[HD.out.1];exact hO3),Lib.hid (HB.out.trans (((Below.refl W1.heap.size wr).alloc hle _).drew.trans hB3))⟩
  ·obtain rfl:k=s.size:=by omega
   have hltz:¬ (s.size:Int)<(s.size:Int):=by omega
   have HE:Hid (l.take s.size=l):=Lib.hid (List.take_of_length_le (by rw[HLEN.out];exact Nat.le_refl _))
   have HQ2:=Lib.hid HQL.out
   clear hq
   go_wp2_with fail
   go_ret
   have hO:=HO.out
   have hQ:=HQ2.out
   rw[HE.out]at hO hQ
   obtain⟨A9,c9,e9,hc9,hr9⟩:=own_form hO
   cases e9
   exact⟨A',q,c',rfl,hQ.symm,hc9,hr9,HB1.out.trans (HB.out.mono HB1.out.size)⟩
def rdE:Int ⊕ Ho->Ho
 | .inl _=>⟨99,[101,114,114,111,114],0,Sx.z8⟩
 | .inr h=>h
def erE:Int ⊕ Ho->Int
 | .inl x=>x
 | .inr _=>0
theorem bi_asc{t:List UInt8}(h:∀ b∈t,b.toNat<128):∀ x∈bi t,0<=x/\x<128:=by
 intro x hx
 obtain⟨b,hb,rfl⟩:=List.mem_map.1 hx
 have:=h b hb
 omega
theorem Parse_asc(s:ByteArray)(ha:∀ b∈dl s,b.toNat<128)(hs:s.size<=300)(sp:Bool)(c:Nat)(hc:s.size<=c)(A:Option Addr)(w:World)(hE:Sx.Env w)(hr:Row w w.heap.size A (cl .i32 (bi (dl s)))) :
  Calls Tryz.prog 12 #[.slice A s.size c,.bool sp] w (HoR (hP (bi (dl s)) sp) w):=by
 have hn:(bi (dl s)).length=s.size:=by simp[bi,dl]
 have hd:=dcd_asc_len (bi_asc ha)
 exact HParse_any (bi (dl s)) sp A s.size c w hn (by omega) hc (fun _=>by omega) (fun _=>by omega) (fun _=>⟨by omega,fits_300 (by omega)⟩) hE hr
theorem reads_any(s:ByteArray)(ha:∀ b∈dl s,b.toNat<128)(hs:s.size<=300)(sp:Bool)(w:World)(hE:Sx.Env w):Calls Tryz.prog 45 #[.string s,.bool sp] w (fun e w'=>e = .returned (rdE (hP (bi (dl s)) sp)).v/\Below w.heap.size w w'):=by
 have hB0:=upA w (.cells hN.cs.toArray 28)
 have hX:=HBk.new w 28 hN
 obtain⟨w1,hw1⟩:∃ w1,w.alloc (.cells hN.cs.toArray 28)=w1:=⟨_,rfl⟩
 rw[hw1]at hB0 hX
 have hw2:w.alloc (.cells #[.int .u8 0,.string ⟨#[]⟩,.int .u32 0,.int .u16 0,.int .u16 0,.int .u16 0,.int .u16 0,.int .u16 0,.int .u16 0,.int .u16 0,.int .u16 0] 28)=w1:=hw1
 clear hw1
 obtain⟨W2,c,hcv,hc,hr,hB2⟩:=conv_asc s w1 ha (by omega)
 have HP:=Lib.hid (Parse_asc s ha hs sp c hc _ W2 (hE.go (upB hB0 hB2)) hr)
 have HE:=Lib.hid (fun x (h:hP (bi (dl s)) sp = .inl x)=>hP_err h)
 have HL:=Lib.hid (fun h (e:hP (bi (dl s)) sp = .inr h)=>hP_len e)
 obtain⟨v,hv⟩:∃ v,hP (bi (dl s)) sp=v:=⟨_,rfl⟩
 rw[hv]at HP HE HL ⊢
 unfold HoR at HP
 have HB0:=Lib.hid hB0
 have HX:=Lib.hid hX
 have hlt:=hX.lt
 have HB2:=Lib.hid hB2
 clear hv hB0 hX hB2 hr hE ha hc
 cases v with
 | inl x =>
  have hx:(x != 0)=true:=by simpa using HE.out x rfl
  unfold HoV at HP
  go_enter Tryz.func45,Tryz.ntmps45
  go_upto_region 1 with fail
  clear hw2
  go_wp2_with(first
   | (go_at_call 12;refine HP.out.mono ?_;rintro e w3 ⟨rfl,hB3⟩)
   | (refine storeH rfl _ _ rfl _ 28 hN hN rfl rfl (HBk.new w3 28 hN) rfl rfl ?_;intro w4 hX4 hB4;have hB4':=(upA w3 (.cells hN.cs.toArray 28)).trans hB4;have hX0:=((HX.out.go HB2.out).go hB3).go hB4')
   | (refine storeH rfl _ _ rfl _ 28 hN ⟨99,[101,114,114,111,114],0,Sx.z8⟩ rfl rfl hX0 rfl rfl ?_;intro w5 hX5 hB5)
   | fail)
  refine bodyPost_ret (Sx.results_cell Tryz.results45 rfl (load_var hX5 rfl)) rfl ⟨rfl, ?_⟩
  exact (upB (upB (upB HB0.out HB2.out) hB3) hB4').trans hB5
 | inr h =>
  have H8:=Lib.hid (HL.out h rfl)
  unfold HoV at HP
  go_enter Tryz.func45,Tryz.ntmps45
  go_upto_region 1 with fail
  clear hw2
  go_wp2_with(first
   | (go_at_call 12;refine HP.out.mono ?_;rintro e w3 ⟨rfl,hB3⟩)
   | (refine storeH rfl _ _ rfl _ 28 hN h rfl rfl (HBk.new w3 28 hN) rfl H8.out ?_;intro w4 hX4 hB4;have hB4':=(upA w3 (.cells hN.cs.toArray 28)).trans hB4;have hX0:=((HX.out.go HB2.out).go hB3).go hB4')
   | (refine loadH _ rfl _ 28 rfl h hX4 H8.out rfl ?_)
   | (refine storeH rfl _ _ rfl _ 28 hN h rfl rfl hX0 rfl H8.out ?_;intro w5 hX5 hB5)
   | fail)
  refine bodyPost_ret (Sx.results_cell Tryz.results45 rfl (load_var hX5 H8.out)) rfl ⟨rfl, ?_⟩
  exact (upB (upB (upB HB0.out HB2.out) hB3) hB4').trans hB5
theorem fails_any(s:ByteArray)(ha:∀ b∈dl s,b.toNat<128)(hs:s.size<=300)(sp:Bool)(w:World)(hE:Sx.Env w):Calls Tryz.prog 46 #[.string s,.bool sp] w (fun e w'=>e = .returned (.int .i64 (erE (hP (bi (dl s)) sp)))/\Below w.heap.size w w'):=by
 obtain⟨W2,c,hcv,hc,hr,hB2⟩:=conv_asc s w ha (by omega)
 have HP:=Lib.hid (Parse_asc s ha hs sp c hc _ W2 (hE.go hB2) hr)
 have HL:=Lib.hid (fun h (e:hP (bi (dl s)) sp = .inr h)=>hP_len e)
 obtain⟨v,hv⟩:∃ v,hP (bi (dl s)) sp=v:=⟨_,rfl⟩
 rw[hv]at HP HL ⊢
 unfold HoR at HP
 obtain⟨h,x,hvv,h8⟩:=hoV_split v (fun h e=>HL.out h e)
 have he:erE v=x:=by
  cases v with
  | inl y=>injection hvv with e;injection e with e;simp at e;exact e.2
  | inr y=>injection hvv with e;injection e with e;simp at e;exact e.2
 rw[hvv]at HP
 rw[he]
 have HB2:=Lib.hid hB2
 clear hv hB2 hr hE ha hc he hvv HL
 go_enter Tryz.func46,Tryz.ntmps46
 go_wp2_with(first
  | (go_at_call 12;refine HP.out.mono ?_;rintro e w3 ⟨rfl,hB3⟩)
  | (refine storeH rfl _ _ rfl _ 28 hN h rfl rfl (HBk.new w3 28 hN) rfl h8 ?_;intro w4 hX4 hB4;have hB4':=(upA w3 (.cells hN.cs.toArray 28)).trans hB4)
  | fail)
 go_ret
 exact⟨rfl,upB (upB HB2.out hB3) hB4'⟩
theorem ex1:hP (bi [69,88,65,77,80,76,69,46,99,111,109]) true = .inr ⟨2,[101,120,97,109,112,108,101,46,99,111,109],0,Sx.z8⟩:=by decide +kernel
theorem ex2:hP (bi [37,52,49]) true = .inr ⟨2,[97],0,Sx.z8⟩:=by decide +kernel
theorem ex3:hP (bi [48,120,55,102,46,49]) true = .inr ⟨3,[],2130706433,Sx.z8⟩:=by decide +kernel
theorem ex4:hP (bi [48,120,55,102,46,49]) false = .inr ⟨5,[48,120,55,102,46,49],0,Sx.z8⟩:=by decide +kernel
theorem ex5:hP (bi [91,58,58,49,93]) true = .inr ⟨4,[],0,[0,0,0,0,0,0,0,1]⟩:=by decide +kernel
theorem ex6:hP (bi [91,58,58,49,93]) false = .inr ⟨4,[],0,[0,0,0,0,0,0,0,1]⟩:=by decide +kernel
theorem ex7:hP (bi [97,32,98]) true = .inl 32:=by decide +kernel
theorem ex8:hP (bi [97,32,98]) false = .inl 32:=by decide +kernel
theorem ex9:hP (bi [97,37,98]) true = .inl 32:=by decide +kernel
theorem ex10:hP (bi [97,37,98]) false = .inr ⟨5,[97,37,98],0,Sx.z8⟩:=by decide +kernel
theorem ex11:hP (bi []) true = .inl 32:=by decide +kernel
theorem ex12:hP (bi [91,58,58,49]) true = .inl 31:=by decide +kernel
theorem ex13:hP (bi [49,46,50,53,54,46,49]) true = .inl 30:=by decide +kernel
theorem reads_lit(s:ByteArray)(sp:Bool)(h:Ho)(v:Value)(hp:hP (bi (dl s)) sp = .inr h)(hv:h.v=v)(ha:(dl s).all (fun b=>decide (b.toNat<128))=true)(hs:s.size<=300)(w:World)(hE:Sx.Env w):Calls Tryz.prog 45 #[.string s,.bool sp] w (fun e w'=>e = .returned v/\Below w.heap.size w w'):=by
 have:=reads_any s (fun b hb=>of_decide_eq_true (List.all_eq_true.1 ha b hb)) hs sp w hE
 rw[hp]at this
 subst hv
 exact this
theorem fails_lit(s:ByteArray)(sp:Bool)(x:Int)(hp:hP (bi (dl s)) sp = .inl x)(ha:(dl s).all (fun b=>decide (b.toNat<128))=true)(hs:s.size<=300)(w:World)(hE:Sx.Env w):Calls Tryz.prog 46 #[.string s,.bool sp] w (fun e w'=>e = .returned (.int .i64 x)/\Below w.heap.size w w'):=by
 have:=fails_any s (fun b hb=>of_decide_eq_true (List.all_eq_true.1 ha b hb)) hs sp w hE
 rw[hp]at this
 exact this
theorem same_lit(h:Ho)(v:Value)(hv:h.v=v)(h8:h.x.length=8)(w:World):(Op.equalIn 10000 28 v v).run Tryz.prog w = .ok true w:=by
 subst hv
 have:=equalH h h h8 h8 w
 rw[decide_eq_true rfl]at this
 exact this
theorem awake14_any(w:World)(hE:Sx.Env w):Calls Tryz.prog 11 #[] w (Says true w):=by
 have HC0:Hid (∀ W,Below w.heap.size w W->Calls Tryz.prog 45 #[.string ⟨#[69,88,65,77,80,76,69,46,99,111,109]⟩,.bool true] W (fun e w'=>e = .returned (.agg #[.int .u8 2,.string ⟨#[101,120,97,109,112,108,101,46,99,111,109]⟩,.int .u32 0,.int .u16 0,.int .u16 0,.int .u16 0,.int .u16 0,.int .u16 0,.int .u16 0,.int .u16 0,.int .u16 0])/\Below W.heap.size W w')):=Lib.hid (fun W h=>reads_lit ⟨#[69,88,65,77,80,76,69,46,99,111,109]⟩ true ⟨2,[101,120,97,109,112,108,101,46,99,111,109],0,Sx.z8⟩ _ ex1 rfl (by decide) (by decide) W (hE.go h))
 have HC1:Hid (∀ W,Below w.heap.size w W->Calls Tryz.prog 45 #[.string ⟨#[37,52,49]⟩,.bool true] W (fun e w'=>e = .returned (.agg #[.int .u8 2,.string ⟨#[97]⟩,.int .u32 0,.int .u16 0,.int .u16 0,.int .u16 0,.int .u16 0,.int .u16 0,.int .u16 0,.int .u16 0,.int .u16 0])/\Below W.heap.size W w')):=Lib.hid (fun W h=>reads_lit ⟨#[37,52,49]⟩ true ⟨2,[97],0,Sx.z8⟩ _ ex2 rfl (by decide) (by decide) W (hE.go h))
 have HC2:Hid (∀ W,Below w.heap.size w W->Calls Tryz.prog 45 #[.string ⟨#[48,120,55,102,46,49]⟩,.bool true] W (fun e w'=>e = .returned (.agg #[.int .u8 3,.string ⟨#[]⟩,.int .u32 2130706433,.int .u16 0,.int .u16 0,.int .u16 0,.int .u16 0,.int .u16 0,.int .u16 0,.int .u16 0,.int .u16 0])/\Below W.heap.size W w')):=Lib.hid (fun W h=>reads_lit ⟨#[48,120,55,102,46,49]⟩ true ⟨3,[],2130706433,Sx.z8⟩ _ ex3 rfl (by decide) (by decide) W (hE.go h))
 have HC3:Hid (∀ W,Below w.heap.size w W->Calls Tryz.prog 45 #[.string ⟨#[48,120,55,102,46,49]⟩,.bool false] W (fun e w'=>e = .returned (.agg #[.int .u8 5,.string ⟨#[48,120,55,102,46,49]⟩,.int .u32 0,.int .u16 0,.int .u16 0,.int .u16 0,.int .u16 0,.int .u16 0,.int .u16 0,.int .u16 0,.int .u16 0])/\Below W.heap.size W w')):=Lib.hid (fun W h=>reads_lit ⟨#[48,120,55,102,46,49]⟩ false ⟨5,[48,120,55,102,46,49],0,Sx.z8⟩ _ ex4 rfl (by decide) (by decide) W (hE.go h))
 have HC4:Hid (∀ W,Below w.heap.size w W->Calls Tryz.prog 45 #[.string ⟨#[91,58,58,49,93]⟩,.bool true] W (fun e w'=>e = .returned (.agg #[.int .u8 4,.string ⟨#[]⟩,.int .u32 0,.int .u16 0,.int .u16 0,.int .u16 0,.int .u16 0,.int .u16 0,.int .u16 0,.int .u16 0,.int .u16 1])/\Below W.heap.size W w')):=Lib.hid (fun W h=>reads_lit ⟨#[91,58,58,49,93]⟩ true ⟨4,[],0,[0,0,0,0,0,0,0,1]⟩ _ ex5 rfl (by decide) (by decide) W (hE.go h))
 have HC5:Hid (∀ W,Below w.heap.size w W->Calls Tryz.prog 45 #[.string ⟨#[91,58,58,49,93]⟩,.bool false] W (fun e w'=>e = .returned (.agg #[.int .u8 4,.string ⟨#[]⟩,.int .u32 0,.int .u16 0,.int .u16 0,.int .u16 0,.int .u16 0,.int .u16 0,.int .u16 0,.int .u16 0,.int .u16 1])/\Below W.heap.size W w')):=Lib.hid (fun W h=>reads_lit ⟨#[91,58,58,49,93]⟩ false ⟨4,[],0,[0,0,0,0,0,0,0,1]⟩ _ ex6 rfl (by decide) (by decide) W (hE.go h))
 have HC6:Hid (∀ W,Below w.heap.size w W->Calls Tryz.prog 46 #[.string ⟨#[97,32,98]⟩,.bool true] W (fun e w'=>e = .returned (.int .i64 32)/\Below W.heap.size W w')):=Lib.hid (fun W h=>fails_lit ⟨#[97,32,98]⟩ true 32 ex7 (by decide) (by decide) W (hE.go h))
 have HC7:Hid (∀ W,Below w.heap.size w W->Calls Tryz.prog 46 #[.string ⟨#[97,32,98]⟩,.bool false] W (fun e w'=>e = .returned (.int .i64 32)/\Below W.heap.size W w')):=Lib.hid (fun W h=>fails_lit ⟨#[97,32,98]⟩ false 32 ex8 (by decide) (by decide) W (hE.go h))
 have HC8:Hid (∀ W,Below w.heap.size w W->Calls Tryz.prog 46 #[.string ⟨#[97,37,98]⟩,.bool true] W (fun e w'=>e = .returned (.int .i64 32)/\Below W.heap.size W w')):=Lib.hid (fun W h=>fails_lit ⟨#[97,37,98]⟩ true 32 ex9 (by decide) (by decide) W (hE.go h))
 have HC9:Hid (∀ W,Below w.heap.size w W->Calls Tryz.prog 45 #[.string ⟨#[97,37,98]⟩,.bool false] W (fun e w'=>e = .returned (.agg #[.int .u8 5,.string ⟨#[97,37,98]⟩,.int .u32 0,.int .u16 0,.int .u16 0,.int .u16 0,.int .u16 0,.int .u16 0,.int .u16 0,.int .u16 0,.int .u16 0])/\Below W.heap.size W w')):=Lib.hid (fun W h=>reads_lit ⟨#[97,37,98]⟩ false ⟨5,[97,37,98],0,Sx.z8⟩ _ ex10 rfl (by decide) (by decide) W (hE.go h))
 have HC10:Hid (∀ W,Below w.heap.size w W->Calls Tryz.prog 46 #[.string ⟨#[]⟩,.bool true] W (fun e w'=>e = .returned (.int .i64 32)/\Below W.heap.size W w')):=Lib.hid (fun W h=>fails_lit ⟨#[]⟩ true 32 ex11 (by decide) (by decide) W (hE.go h))
 have HC11:Hid (∀ W,Below w.heap.size w W->Calls Tryz.prog 46 #[.string ⟨#[91,58,58,49]⟩,.bool true] W (fun e w'=>e = .returned (.int .i64 31)/\Below W.heap.size W w')):=Lib.hid (fun W h=>fails_lit ⟨#[91,58,58,49]⟩ true 31 ex12 (by decide) (by decide) W (hE.go h))
 have HC12:Hid (∀ W,Below w.heap.size w W->Calls Tryz.prog 46 #[.string ⟨#[49,46,50,53,54,46,49]⟩,.bool true] W (fun e w'=>e = .returned (.int .i64 30)/\Below W.heap.size W w')):=Lib.hid (fun W h=>fails_lit ⟨#[49,46,50,53,54,46,49]⟩ true 30 ex13 (by decide) (by decide) W (hE.go h))
 have he0:∀ W:World,(Op.equalIn 10000 28 (.agg #[.int .u8 2,.string ⟨#[101,120,97,109,112,108,101,46,99,111,109]⟩,.int .u32 0,.int .u16 0,.int .u16 0,.int .u16 0,.int .u16 0,.int .u16 0,.int .u16 0,.int .u16 0,.int .u16 0]) (.agg #[.int .u8 2,.string ⟨#[101,120,97,109,112,108,101,46,99,111,109]⟩,.int .u32 0,.int .u16 0,.int .u16 0,.int .u16 0,.int .u16 0,.int .u16 0,.int .u16 0,.int .u16 0,.int .u16 0])).run Tryz.prog W = .ok true W:=fun W=>same_lit ⟨2,[101,120,97,109,112,108,101,46,99,111,109],0,Sx.z8⟩ _ rfl rfl W
 have he1:∀ W:World,(Op.equalIn 10000 28 (.agg #[.int .u8 2,.string ⟨#[97]⟩,.int .u32 0,.int .u16 0,.int .u16 0,.int .u16 0,.int .u16 0,.int .u16 0,.int .u16 0,.int .u16 0,.int .u16 0]) (.agg #[.int .u8 2,.string ⟨#[97]⟩,.int .u32 0,.int .u16 0,.int .u16 0,.int .u16 0,.int .u16 0,.int .u16 0,.int .u16 0,.int .u16 0,.int .u16 0])).run Tryz.prog W = .ok true W:=fun W=>same_lit ⟨2,[97],0,Sx.z8⟩ _ rfl rfl W
 have he2:∀ W:World,(Op.equalIn 10000 28 (.agg #[.int .u8 3,.string ⟨#[]⟩,.int .u32 2130706433,.int .u16 0,.int .u16 0,.int .u16 0,.int .u16 0,.int .u16 0,.int .u16 0,.int .u16 0,.int .u16 0]) (.agg #[.int .u8 3,.string ⟨#[]⟩,.int .u32 2130706433,.int .u16 0,.int .u16 0,.int .u16 0,.int .u16 0,.int .u16 0,.int .u16 0,.int .u16 0,.int .u16 0])).run Tryz.prog W = .ok true W:=fun W=>same_lit ⟨3,[],2130706433,Sx.z8⟩ _ rfl rfl W
 have he3:∀ W:World,(Op.equalIn 10000 28 (.agg #[.int .u8 5,.string ⟨#[48,120,55,102,46,49]⟩,.int .u32 0,.int .u16 0,.int .u16 0,.int .u16 0,.int .u16 0,.int .u16 0,.int .u16 0,.int .u16 0,.int .u16 0]) (.agg #[.int .u8 5,.string ⟨#[48,120,55,102,46,49]⟩,.int .u32 0,.int .u16 0,.int .u16 0,.int .u16 0,.int .u16 0,.int .u16 0,.int .u16 0,.int .u16 0,.int .u16 0])).run Tryz.prog W = .ok true W:=fun W=>same_lit ⟨5,[48,120,55,102,46,49],0,Sx.z8⟩ _ rfl rfl W
 have he4:∀ W:World,(Op.equalIn 10000 28 (.agg #[.int .u8 4,.string ⟨#[]⟩,.int .u32 0,.int .u16 0,.int .u16 0,.int .u16 0,.int .u16 0,.int .u16 0,.int .u16 0,.int .u16 0,.int .u16 1]) (.agg #[.int .u8 4,.string ⟨#[]⟩,.int .u32 0,.int .u16 0,.int .u16 0,.int .u16 0,.int .u16 0,.int .u16 0,.int .u16 0,.int .u16 0,.int .u16 1])).run Tryz.prog W = .ok true W:=fun W=>same_lit ⟨4,[],0,[0,0,0,0,0,0,0,1]⟩ _ rfl rfl W
 have he5:∀ W:World,(Op.equalIn 10000 28 (.agg #[.int .u8 5,.string ⟨#[97,37,98]⟩,.int .u32 0,.int .u16 0,.int .u16 0,.int .u16 0,.int .u16 0,.int .u16 0,.int .u16 0,.int .u16 0,.int .u16 0]) (.agg #[.int .u8 5,.string ⟨#[97,37,98]⟩,.int .u32 0,.int .u16 0,.int .u16 0,.int .u16 0,.int .u16 0,.int .u16 0,.int .u16 0,.int .u16 0,.int .u16 0])).run Tryz.prog W = .ok true W:=fun W=>same_lit ⟨5,[97,37,98],0,Sx.z8⟩ _ rfl rfl W
 have hB0:=upA w (.cells #[.int .u8 4,.string ⟨#[]⟩,.int .u32 0,.int .u16 0,.int .u16 0,.int .u16 0,.int .u16 0,.int .u16 0,.int .u16 0,.int .u16 0,.int .u16 1] 28)
 have hX0:=HBk.new w 28 ⟨4,[],0,[0,0,0,0,0,0,0,1]⟩
 have HE:=Lib.hid hE
 clear hE
 go_enter Tryz.func11,Tryz.ntmps11
 go_upto_region 2 with fail
 obtain⟨w0,hw0⟩:∃ w0,w.alloc (.cells #[.int .u8 4,.string ⟨#[]⟩,.int .u32 0,.int .u16 0,.int .u16 0,.int .u16 0,.int .u16 0,.int .u16 0,.int .u16 0,.int .u16 0,.int .u16 1] 28)=w0:=⟨_,rfl⟩
 have hX00:HBk w0 w.heap.size 28 ⟨4,[],0,[0,0,0,0,0,0,0,1]⟩:=by rw[<-hw0];exact hX0
 rw[hw0]at hB0 ⊢
 clear hw0 hX0
 go_upto_region 3 with(first
  | (go_at_call 45;((with_reducible refine (HC0.out _ hB0).mono ?_);rintro e w1 ⟨rfl,hb1⟩;have hB1:=hB0.trans (hb1.mono hB0.size)))
  | (go_at_call 45;((with_reducible refine (HC1.out _ hB1).mono ?_);rintro e w2 ⟨rfl,hb2⟩;have hB2:=hB1.trans (hb2.mono hB1.size)))
  | (go_at_call 45;((with_reducible refine (HC2.out _ hB2).mono ?_);rintro e w3 ⟨rfl,hb3⟩;have hB3:=hB2.trans (hb3.mono hB2.size)))
  | (go_at_call 45;((with_reducible refine (HC3.out _ hB3).mono ?_);rintro e w4 ⟨rfl,hb4⟩;have hB4:=hB3.trans (hb4.mono hB3.size)))
  | fail)
 have hY4:HBk w4 w.heap.size 28 ⟨4,[],0,[0,0,0,0,0,0,0,1]⟩:=(((hX00.go hb1).go hb2).go hb3).go hb4
 have hR4:w4.cell? ⟨w.heap.size,0,none⟩=some (.int .u8 4)/\w4.cell? ⟨w.heap.size,1,none⟩=some (.string ⟨#[]⟩)/\w4.cell? ⟨w.heap.size,2,none⟩=some (.int .u32 0)/\w4.cell? ⟨w.heap.size,3,none⟩=some (.int .u16 0)/\w4.cell? ⟨w.heap.size,4,none⟩=some (.int .u16 0)/\w4.cell? ⟨w.heap.size,5,none⟩=some (.int .u16 0)/\w4.cell? ⟨w.heap.size,6,none⟩=some (.int .u16 0)/\w4.cell? ⟨w.heap.size,7,none⟩=some (.int .u16 0)/\w4.cell? ⟨w.heap.size,8,none⟩=some (.int .u16 0)/\w4.cell? ⟨w.heap.size,9,none⟩=some (.int .u16 0)/\w4.cell? ⟨w.heap.size,10,none⟩=some (.int .u16 1):=⟨HBk.cell (k:=0) hY4 rfl,HBk.cell (k:=1) hY4 rfl,HBk.cell (k:=2) hY4 rfl,HBk.cell (k:=3) hY4 rfl,HBk.cell (k:=4) hY4 rfl,HBk.cell (k:=5) hY4 rfl,HBk.cell (k:=6) hY4 rfl,HBk.cell (k:=7) hY4 rfl,HBk.cell (k:=8) hY4 rfl,HBk.cell (k:=9) hY4 rfl,HBk.cell (k:=10) hY4 rfl⟩
 have hR4d:w4.drew.cell? ⟨w.heap.size,0,none⟩=some (.int .u8 4)/\w4.drew.cell? ⟨w.heap.size,1,none⟩=some (.string ⟨#[]⟩)/\w4.drew.cell? ⟨w.heap.size,2,none⟩=some (.int .u32 0)/\w4.drew.cell? ⟨w.heap.size,3,none⟩=some (.int .u16 0)/\w4.drew.cell? ⟨w.heap.size,4,none⟩=some (.int .u16 0)/\w4.drew.cell? ⟨w.heap.size,5,none⟩=some (.int .u16 0)/\w4.drew.cell? ⟨w.heap.size,6,none⟩=some (.int .u16 0)/\w4.drew.cell? ⟨w.heap.size,7,none⟩=some (.int .u16 0)/\w4.drew.cell? ⟨w.heap.size,8,none⟩=some (.int .u16 0)/\w4.drew.cell? ⟨w.heap.size,9,none⟩=some (.int .u16 0)/\w4.drew.cell? ⟨w.heap.size,10,none⟩=some (.int .u16 1):=hR4
 clear hX00 hb1 hb2 hb3 hb4 hB0 hB1 hB2 hB3
 go_region_held3 (fun w'=>w'.cell? ⟨w.heap.size,0,none⟩=some (.int .u8 4)/\w'.cell? ⟨w.heap.size,1,none⟩=some (.string ⟨#[]⟩)/\w'.cell? ⟨w.heap.size,2,none⟩=some (.int .u32 0)/\w'.cell? ⟨w.heap.size,3,none⟩=some (.int .u16 0)/\w'.cell? ⟨w.heap.size,4,none⟩=some (.int .u16 0)/\w'.cell? ⟨w.heap.size,5,none⟩=some (.int .u16 0)/\w'.cell? ⟨w.heap.size,6,none⟩=some (.int .u16 0)/\w'.cell? ⟨w.heap.size,7,none⟩=some (.int .u16 0)/\w'.cell? ⟨w.heap.size,8,none⟩=some (.int .u16 0)/\w'.cell? ⟨w.heap.size,9,none⟩=some (.int .u16 0)/\w'.cell? ⟨w.heap.size,10,none⟩=some (.int .u16 1)) (first|with_reducible exact hR4d|with_reducible exact hR4|with_reducible exact hR5|with_reducible exact hR6|with_reducible exact hR7|with_reducible exact hR8|with_reducible exact hR9|with_reducible exact hR10) (first
  | (go_at_call 45;((with_reducible refine (HC4.out _ hB4.drew).mono ?_);rintro e w5 ⟨rfl,hb5⟩;have hY5:HBk w5 w.heap.size 28 ⟨4,[],0,[0,0,0,0,0,0,0,1]⟩:=HBk.go (a:=w4.drew) hY4 hb5;have hR5:w5.cell? ⟨w.heap.size,0,none⟩=some (.int .u8 4)/\w5.cell? ⟨w.heap.size,1,none⟩=some (.string ⟨#[]⟩)/\w5.cell? ⟨w.heap.size,2,none⟩=some (.int .u32 0)/\w5.cell? ⟨w.heap.size,3,none⟩=some (.int .u16 0)/\w5.cell? ⟨w.heap.size,4,none⟩=some (.int .u16 0)/\w5.cell? ⟨w.heap.size,5,none⟩=some (.int .u16 0)/\w5.cell? ⟨w.heap.size,6,none⟩=some (.int .u16 0)/\w5.cell? ⟨w.heap.size,7,none⟩=some (.int .u16 0)/\w5.cell? ⟨w.heap.size,8,none⟩=some (.int .u16 0)/\w5.cell? ⟨w.heap.size,9,none⟩=some (.int .u16 0)/\w5.cell? ⟨w.heap.size,10,none⟩=some (.int .u16 1):=⟨HBk.cell (k:=0) hY5 rfl,HBk.cell (k:=1) hY5 rfl,HBk.cell (k:=2) hY5 rfl,HBk.cell (k:=3) hY5 rfl,HBk.cell (k:=4) hY5 rfl,HBk.cell (k:=5) hY5 rfl,HBk.cell (k:=6) hY5 rfl,HBk.cell (k:=7) hY5 rfl,HBk.cell (k:=8) hY5 rfl,HBk.cell (k:=9) hY5 rfl,HBk.cell (k:=10) hY5 rfl⟩;have hB5:=hB4.drew.trans (hb5.mono hB4.drew.size)))
  | (go_at_call 45;((with_reducible refine (HC5.out _ hB5).mono ?_);rintro e w6 ⟨rfl,hb6⟩;have hY6:HBk w6 w.heap.size 28 ⟨4,[],0,[0,0,0,0,0,0,0,1]⟩:=HBk.go (a:=w5) hY5 hb6;have hR6:w6.cell? ⟨w.heap.size,0,none⟩=some (.int .u8 4)/\w6.cell? ⟨w.heap.size,1,none⟩=some (.string ⟨#[]⟩)/\w6.cell? ⟨w.heap.size,2,none⟩=some (.int .u32 0)/\w6.cell? ⟨w.heap.size,3,none⟩=some (.int .u16 0)/\w6.cell? ⟨w.heap.size,4,none⟩=some (.int .u16 0)/\w6.cell? ⟨w.heap.size,5,none⟩=some (.int .u16 0)/\w6.cell? ⟨w.heap.size,6,none⟩=some (.int .u16 0)/\w6.cell? ⟨w.heap.size,7,none⟩=some (.int .u16 0)/\w6.cell? ⟨w.heap.size,8,none⟩=some (.int .u16 0)/\w6.cell? ⟨w.heap.size,9,none⟩=some (.int .u16 0)/\w6.cell? ⟨w.heap.size,10,none⟩=some (.int .u16 1):=⟨HBk.cell (k:=0) hY6 rfl,HBk.cell (k:=1) hY6 rfl,HBk.cell (k:=2) hY6 rfl,HBk.cell (k:=3) hY6 rfl,HBk.cell (k:=4) hY6 rfl,HBk.cell (k:=5) hY6 rfl,HBk.cell (k:=6) hY6 rfl,HBk.cell (k:=7) hY6 rfl,HBk.cell (k:=8) hY6 rfl,HBk.cell (k:=9) hY6 rfl,HBk.cell (k:=10) hY6 rfl⟩;have hB6:=hB5.trans (hb6.mono hB5.size)))
  | (go_at_call 46;((with_reducible refine (HC6.out _ hB6).mono ?_);rintro e w7 ⟨rfl,hb7⟩;have hY7:HBk w7 w.heap.size 28 ⟨4,[],0,[0,0,0,0,0,0,0,1]⟩:=HBk.go (a:=w6) hY6 hb7;have hR7:w7.cell? ⟨w.heap.size,0,none⟩=some (.int .u8 4)/\w7.cell? ⟨w.heap.size,1,none⟩=some (.string ⟨#[]⟩)/\w7.cell? ⟨w.heap.size,2,none⟩=some (.int .u32 0)/\w7.cell? ⟨w.heap.size,3,none⟩=some (.int .u16 0)/\w7.cell? ⟨w.heap.size,4,none⟩=some (.int .u16 0)/\w7.cell? ⟨w.heap.size,5,none⟩=some (.int .u16 0)/\w7.cell? ⟨w.heap.size,6,none⟩=some (.int .u16 0)/\w7.cell? ⟨w.heap.size,7,none⟩=some (.int .u16 0)/\w7.cell? ⟨w.heap.size,8,none⟩=some (.int .u16 0)/\w7.cell? ⟨w.heap.size,9,none⟩=some (.int .u16 0)/\w7.cell? ⟨w.heap.size,10,none⟩=some (.int .u16 1):=⟨HBk.cell (k:=0) hY7 rfl,HBk.cell (k:=1) hY7 rfl,HBk.cell (k:=2) hY7 rfl,HBk.cell (k:=3) hY7 rfl,HBk.cell (k:=4) hY7 rfl,HBk.cell (k:=5) hY7 rfl,HBk.cell (k:=6) hY7 rfl,HBk.cell (k:=7) hY7 rfl,HBk.cell (k:=8) hY7 rfl,HBk.cell (k:=9) hY7 rfl,HBk.cell (k:=10) hY7 rfl⟩;have hB7:=hB6.trans (hb7.mono hB6.size)))
  | (go_at_call 46;((with_reducible refine (HC7.out _ hB7).mono ?_);rintro e w8 ⟨rfl,hb8⟩;have hY8:HBk w8 w.heap.size 28 ⟨4,[],0,[0,0,0,0,0,0,0,1]⟩:=HBk.go (a:=w7) hY7 hb8;have hR8:w8.cell? ⟨w.heap.size,0,none⟩=some (.int .u8 4)/\w8.cell? ⟨w.heap.size,1,none⟩=some (.string ⟨#[]⟩)/\w8.cell? ⟨w.heap.size,2,none⟩=some (.int .u32 0)/\w8.cell? ⟨w.heap.size,3,none⟩=some (.int .u16 0)/\w8.cell? ⟨w.heap.size,4,none⟩=some (.int .u16 0)/\w8.cell? ⟨w.heap.size,5,none⟩=some (.int .u16 0)/\w8.cell? ⟨w.heap.size,6,none⟩=some (.int .u16 0)/\w8.cell? ⟨w.heap.size,7,none⟩=some (.int .u16 0)/\w8.cell? ⟨w.heap.size,8,none⟩=some (.int .u16 0)/\w8.cell? ⟨w.heap.size,9,none⟩=some (.int .u16 0)/\w8.cell? ⟨w.heap.size,10,none⟩=some (.int .u16 1):=⟨HBk.cell (k:=0) hY8 rfl,HBk.cell (k:=1) hY8 rfl,HBk.cell (k:=2) hY8 rfl,HBk.cell (k:=3) hY8 rfl,HBk.cell (k:=4) hY8 rfl,HBk.cell (k:=5) hY8 rfl,HBk.cell (k:=6) hY8 rfl,HBk.cell (k:=7) hY8 rfl,HBk.cell (k:=8) hY8 rfl,HBk.cell (k:=9) hY8 rfl,HBk.cell (k:=10) hY8 rfl⟩;have hB8:=hB7.trans (hb8.mono hB7.size)))
  | (go_at_call 46;((with_reducible refine (HC8.out _ hB8).mono ?_);rintro e w9 ⟨rfl,hb9⟩;have hY9:HBk w9 w.heap.size 28 ⟨4,[],0,[0,0,0,0,0,0,0,1]⟩:=HBk.go (a:=w8) hY8 hb9;have hR9:w9.cell? ⟨w.heap.size,0,none⟩=some (.int .u8 4)/\w9.cell? ⟨w.heap.size,1,none⟩=some (.string ⟨#[]⟩)/\w9.cell? ⟨w.heap.size,2,none⟩=some (.int .u32 0)/\w9.cell? ⟨w.heap.size,3,none⟩=some (.int .u16 0)/\w9.cell? ⟨w.heap.size,4,none⟩=some (.int .u16 0)/\w9.cell? ⟨w.heap.size,5,none⟩=some (.int .u16 0)/\w9.cell? ⟨w.heap.size,6,none⟩=some (.int .u16 0)/\w9.cell? ⟨w.heap.size,7,none⟩=some (.int .u16 0)/\w9.cell? ⟨w.heap.size,8,none⟩=some (.int .u16 0)/\w9.cell? ⟨w.heap.size,9,none⟩=some (.int .u16 0)/\w9.cell? ⟨w.heap.size,10,none⟩=some (.int .u16 1):=⟨HBk.cell (k:=0) hY9 rfl,HBk.cell (k:=1) hY9 rfl,HBk.cell (k:=2) hY9 rfl,HBk.cell (k:=3) hY9 rfl,HBk.cell (k:=4) hY9 rfl,HBk.cell (k:=5) hY9 rfl,HBk.cell (k:=6) hY9 rfl,HBk.cell (k:=7) hY9 rfl,HBk.cell (k:=8) hY9 rfl,HBk.cell (k:=9) hY9 rfl,HBk.cell (k:=10) hY9 rfl⟩;have hB9:=hB8.trans (hb9.mono hB8.size)))
  | (go_at_call 45;((with_reducible refine (HC9.out _ hB9).mono ?_);rintro e w10 ⟨rfl,hb10⟩;have hY10:HBk w10 w.heap.size 28 ⟨4,[],0,[0,0,0,0,0,0,0,1]⟩:=HBk.go (a:=w9) hY9 hb10;have hR10:w10.cell? ⟨w.heap.size,0,none⟩=some (.int .u8 4)/\w10.cell? ⟨w.heap.size,1,none⟩=some (.string ⟨#[]⟩)/\w10.cell? ⟨w.heap.size,2,none⟩=some (.int .u32 0)/\w10.cell? ⟨w.heap.size,3,none⟩=some (.int .u16 0)/\w10.cell? ⟨w.heap.size,4,none⟩=some (.int .u16 0)/\w10.cell? ⟨w.heap.size,5,none⟩=some (.int .u16 0)/\w10.cell? ⟨w.heap.size,6,none⟩=some (.int .u16 0)/\w10.cell? ⟨w.heap.size,7,none⟩=some (.int .u16 0)/\w10.cell? ⟨w.heap.size,8,none⟩=some (.int .u16 0)/\w10.cell? ⟨w.heap.size,9,none⟩=some (.int .u16 0)/\w10.cell? ⟨w.heap.size,10,none⟩=some (.int .u16 1):=⟨HBk.cell (k:=0) hY10 rfl,HBk.cell (k:=1) hY10 rfl,HBk.cell (k:=2) hY10 rfl,HBk.cell (k:=3) hY10 rfl,HBk.cell (k:=4) hY10 rfl,HBk.cell (k:=5) hY10 rfl,HBk.cell (k:=6) hY10 rfl,HBk.cell (k:=7) hY10 rfl,HBk.cell (k:=8) hY10 rfl,HBk.cell (k:=9) hY10 rfl,HBk.cell (k:=10) hY10 rfl⟩;have hB10:=hB9.trans (hb10.mono hB9.size)))
  | fail)
 clear hY4 hY5 hY6 hY7 hY8 hY9 hY10 hR4 hR4d hR5 hR6 hR7 hR8 hR9 hR10 hb5 hb6 hb7 hb8 hb9 hb10 hB4 hB5 hB6 hB7 hB8 hB9
 go_upto_region 4 with fail
 go_wp2_with(first
  | (go_at_call 46;((with_reducible refine (HC10.out _ hB10).mono ?_);rintro e w11 ⟨rfl,hb11⟩;have hB11:=hB10.trans (hb11.mono hB10.size)))
  | (go_at_call 46;((with_reducible refine (HC11.out _ hB11).mono ?_);rintro e w12 ⟨rfl,hb12⟩;have hB12:=hB11.trans (hb12.mono hB11.size)))
  | (go_at_call 46;((with_reducible refine (HC12.out _ hB12).mono ?_);rintro e w13 ⟨rfl,hb13⟩;have hB13:=hB12.trans (hb13.mono hB12.size)))
  | fail)
 go_ret
 exact⟨rfl,hB13⟩
theorem dl_cat(p q:ByteArray):dl (p++q)=dl p++dl q:=by rw[dl,ByteArray.data_append,Array.toList_append]
theorem dl_of(l:List UInt8):dl (Fou.bs l)=l:=by simp[Fou.bs,dl]
theorem size_of(s:ByteArray):s.size=(dl s).length:=by rw[dl,Array.length_toList];rfl
theorem conv_b1(d:Nat)(w:World):(convert 40 9 (.slice (some ⟨w.heap.size,0,none⟩) 1 1)).run Tryz.prog (w.alloc (.cells #[.int .u8 (d:Int)] 5)) = .ok (.string (Fou.bs [UInt8.ofNat d])) (w.alloc (.cells #[.int .u8 (d:Int)] 5)):=by
 have h:=run_convert_bytes_arg (w.alloc (.cells #[.int .u8 (d:Int)] 5)) 40 5 Tryz.underlying40 Tryz.underlying5 w.heap.size 0 1 1 [(d:Int)] (by simp) (fun i hi=>by
  obtain rfl:i=0:=by omega
  rw[World.cell?_alloc_new]
  rfl) 9 Tryz.underlying9
 rw[h]
 congr 2
theorem conv_b2(d e:UInt8)(w:World):(convert 40 9 (.slice (some ⟨w.heap.size,0,none⟩) 2 2)).run Tryz.prog (w.alloc (.cells #[.int .u8 (d.toNat:Int),.int .u8 (e.toNat:Int)] 5)) = .ok (.string (Fou.bs [d,e])) (w.alloc (.cells #[.int .u8 (d.toNat:Int),.int .u8 (e.toNat:Int)] 5)):=by
 have h:=run_convert_bytes_arg (w.alloc (.cells #[.int .u8 (d.toNat:Int),.int .u8 (e.toNat:Int)] 5)) 40 5 Tryz.underlying40 Tryz.underlying5 w.heap.size 0 2 2 [(d.toNat:Int),(e.toNat:Int)] (by simp) (fun i hi=>by
  have hn:=World.alloc_heap_new w (.cells #[.int .u8 (d.toNat:Int),.int .u8 (e.toNat:Int)] 5)
  rw[cell_of_row _ _ _ _ _ _ hn]
  have:i=0∨i=1:=by omega
  rcases this with rfl|rfl<;>rfl) 9 Tryz.underlying9
 rw[h]
 congr 2
 simp[strOfNums,Fou.bs]
theorem conv_b2d(d e:UInt8)(w:World):(convert 40 9 (.slice (some ⟨w.heap.size,0,none⟩) 2 2)).run Tryz.prog (w.alloc (.cells #[.int .u8 (d.toNat:Int),.int .u8 (e.toNat:Int)] 5)).drew = .ok (.string (Fou.bs [d,e])) (w.alloc (.cells #[.int .u8 (d.toNat:Int),.int .u8 (e.toNat:Int)] 5)).drew:=by
 have h:=run_convert_bytes_arg (w.alloc (.cells #[.int .u8 (d.toNat:Int),.int .u8 (e.toNat:Int)] 5)).drew 40 5 Tryz.underlying40 Tryz.underlying5 w.heap.size 0 2 2 [(d.toNat:Int),(e.toNat:Int)] (by simp) (fun i hi=>by
  have hn:=World.alloc_heap_new w (.cells #[.int .u8 (d.toNat:Int),.int .u8 (e.toNat:Int)] 5)
  show World.cell? (w.alloc _) _=_
  rw[cell_of_row _ _ _ _ _ _ hn]
  have:i=0∨i=1:=by omega
  rcases this with rfl|rfl<;>rfl) 9 Tryz.underlying9
 rw[h]
 congr 2
 simp[strOfNums,Fou.bs]
theorem Contains_37(s:ByteArray)(w:World):Calls Tryz.prog 18 #[.string s,.int .i32 37] w (Says (decide ((37:UInt8)∈dl s)) w):=by
 have HI:=Lib.hid (fun W=>IndexRune_near s 37 (by decide) (by decide) W)
 have hI:decide (0<=Lib.indexByte s.data.toList (37:Int).toNat.toUInt8)=decide ((37:UInt8)∈dl s):=by
  have e:(37:Int).toNat.toUInt8=(37:UInt8):=rfl
  rw[e]
  by_cases h:(37:UInt8)∈dl s
  ·rw[decide_eq_true h]
   refine decide_eq_true ?_
   have hge:=Lib.indexByte_ge s.data.toList 37
   by_cases h1:Lib.indexByte s.data.toList 37 = -1
   ·obtain⟨k,hk⟩:=List.getElem?_of_mem h
    exact absurd hk (Lib.indexByte_none h1 k)
   ·omega
  ·rw[decide_eq_false h,idx_none _ _ (fun b hb e=>h (by rw[<-e];exact hb))]
   rfl
 obtain⟨I,hI'⟩:∃ I,Lib.indexByte s.data.toList (37:Int).toNat.toUInt8=I:=⟨_,rfl⟩
 rw[hI']at hI HI
 obtain⟨q,hq⟩:∃ q,decide ((37:UInt8)∈dl s)=q:=⟨_,rfl⟩
 rw[hq]at hI ⊢
 clear hI' hq
 go_enter Tryz.func18,Tryz.ntmps18
 go_wp2_with(first|(go_at_call 62;refine (HI.out _).mono ?_;rintro e w1 ⟨rfl,hB⟩)|fail)
 go_ret
 exact⟨rfl,hB⟩
theorem outB_snoc:∀ (l:List UInt8) (us:List Bool) (k:Nat) (x:UInt8),l[k]? = some x->outB (l.take (k+1)) us=outB (l.take k) us++(if us.getD k false=true then cod1 x else [x])
 | [],us,k,x,h=>by simp at h
 | c :: t, [], 0, x, h => by
  simp at h
  subst h
  rfl
 | c :: t, b :: u, 0, x, h => by
  simp at h
  subst h
  show outB [c] (b::u)=_
  cases b<;>simp[outB]
 | c :: t, [], k + 1, x, h => by
  have:=outB_snoc t [] k x (by simpa using h)
  rw[List.take_succ_cons,List.take_succ_cons,outB,outB,this]
  rfl
 | c :: t, b :: u, k + 1, x, h => by
  have:=outB_snoc t u k x (by simpa using h)
  rw[List.take_succ_cons,List.take_succ_cons,outB,outB,this,List.append_assoc]
  rfl
theorem runes_rnF(s:ByteArray):∀ (b i:Nat) (acc:Array Value),Conv.runesFrom s b i acc=acc++(cl .i32 (rnF s b i)).toArray
 | 0,i,acc=>by simp[Conv.runesFrom,rnF]
 | b + 1, i, acc => by
  rw[Conv.runesFrom,rnF]
  split
  ·simp only
   rw[runes_rnF s b]
   simp
  ·simp
theorem rnF_len(s:ByteArray):∀ (b i:Nat),(rnF s b i).length<=b
 | 0,_=>Nat.le_refl _
 | b + 1, i => by
  rw[rnF]
  split
  ·have:=rnF_len s b (i+(Utf8.decode s i).2)
   simp
   omega
  ·simp
theorem conv_all(s:ByteArray)(w:World)(hs:s.size<=1000000) :
  ∃ W' n c,(convert 9 22 (.string s)).run Tryz.prog w = .ok (.slice (some ⟨w.heap.size,0,none⟩) n c) W'/\(rn s).length=n/\n<=c/\Row W' W'.heap.size (some ⟨w.heap.size,0,none⟩) (cl .i32 (rn s))/\Below w.heap.size w W':=by
 have hr:=runes_rnF s s.size 0 #[]
 rw[show rnF s s.size 0=rn s from rfl,Array.empty_append]at hr
 have hl:(Conv.runesFrom s s.size 0 #[]).size=(rn s).length:=by rw[hr];simp
 have hl2:(rn s).length<=s.size:=rnF_len s _ _
 have:=run_runes_of_string (P:=Tryz.prog) w 9 22 21 s Tryz.underlying9 Tryz.underlying22 Tryz.underlying21 (by rw[hl];omega)
 rw[hl,hr]at this
 refine⟨_,_,_,this,rfl,grownCap_ge w _ _ _, ?_,(Below.refl _ w).drew.alloc (Nat.le_refl _) _⟩
 refine .inr ⟨w.heap.size,0,rfl,by rw[World.size_alloc];exact Nat.lt_succ_self _,fun k hk => ?_⟩
 have hn:=World.alloc_heap_new w.drew (.cells ((cl .i32 (rn s)).toArray++Array.replicate (grownCap w (rn s).length 0 21-(rn s).length) (.int .i32 0)) 21)
 rw[Nat.zero_add]
 show World.cell? _ ⟨w.drew.heap.size,k,none⟩=_
 rw[cell_of_row _ _ k _ _ _ hn]
 have hk2:k<(rn s).length:=by simpa[cl] using hk
 simp[Array.getElem?_append]
 intro h2
 omega
theorem fix_asc{l:List Int}(h:∀ x∈l,0<=x/\x<128):l.map fixR=l :=
 (List.map_congr_left fun x hx=>fix_of_sca (decide_eq_true (by have:=h x hx;omega))).trans (List.map_id l)
theorem percent_any(l:List Int)(A:Option Addr)(n c:Nat)(us:List Bool)(A2:Option Addr)(n2 c2:Nat)(w:World)(hn:l.length=n)(hr:Row w w.heap.size A (cl .i32 l))(hn2:us.length=n2)(hr2:Row w w.heap.size A2 (us.map Value.bool))(hE:Sx.Env w) :
  Calls Tryz.prog 4 #[.slice A n c,.slice A2 n2 c2] w (Says true w):=by
 have HE:=Lib.hid (fun W (h:Below w.heap.size w W)=>hE.go h)
 have HAW:=Lib.hid (fun W h=>awake14_any W (HE.out W h))
 have hR:=Below.refl w.heap.size w
 by_cases h60:n<=60
 ·have h60z:¬ (60:Int)<(n:Int):=by omega
  have HCV:=Lib.hid (fun W (h:Below w.heap.size w W)=>conv_runes (c:=c) hn (hr.below h))
  have HRN:=Lib.hid (rn_runes l)
  have HCT:=Lib.hid (fun W=>Contains_37 (runesBytes l) W)
  have hsz:(runesBytes l).size<=240:=by
   have:=runesBytes_size_le l
   omega
  have HPC:=Lib.hid (fun u h1 h2 h3=>hP_percent (l:=l) u h1 h2 h3)
  have HDC:=Lib.hid (fun h=>dcd_runes_len (l:=l) h)
  have HDP:=Lib.hid (fun u h=>dcd_percent (l:=l) u h)
  have HFX:Hid ((l.map fixR).length=n):=Lib.hid (by rw[List.length_map,hn])
  by_cases hb:0<n/\l[0]! = 91
  ·
   obtain⟨b,o,rfl,hbb,hcc⟩:=hr.at_ (by simp[hn];omega)
   have c0:=cell_at hcc (k:=0) (by omega)
   rw[hb.2,Nat.add_zero]at c0
   have h0z:(0:Int)<(n:Int):=by omega
   clear hcc hr2 hn hn2 hbb hE hb hr
   go_enter Tryz.func4,Tryz.ntmps4
   go_wp2_with(first|(go_at_call 11;((with_reducible refine (HAW.out _ hR).mono ?_);rintro e wF ⟨rfl,hb⟩;replace hR:=upB hR hb;clear hb))|fail)
   go_ret
   exact⟨rfl,hR⟩
  ·have HH:Hid (l=[]∨l[0]!≠91):=Lib.hid (by
    by_cases h0:l=[]
    ·exact .inl h0
    ·refine .inr fun e=>hb ⟨?_,e⟩
     rw[<-hn]
     exact List.length_pos_iff.2 h0)
   obtain⟨s,hs⟩:∃ s,runesBytes l=s:=⟨_,rfl⟩
   rw[hs]at HCV HRN HCT HPC HDC HDP hsz
   obtain⟨q,hq⟩:∃ q,decide ((37:UInt8)∈dl s)=q:=⟨_,rfl⟩
   rw[hq]at HCT
   have HQ:=Lib.hid hq
   have HR0:=Lib.hid hR
   have HN:=Lib.hid hn
   have HNB:=Lib.hid hb
   have HRR:=Lib.hid hr
   clear hs hq hb hE hn hr
   go_enter Tryz.func4,Tryz.ntmps4
   go_upto_region 1 with fail
   go_cut [30] from 12 to 30 (fun s30 wx=>s30 = .bool q/\Below w.heap.size w wx)
   case first =>
    have hcv:=HCV.out w HR0.out
    by_cases h0:n=0
    ·subst h0
     clear HAW HE
     go_wp2_with(first|(go_at_call 18;((with_reducible refine (HCT.out _).mono ?_);rintro e wF ⟨rfl,hb⟩;replace hR:=upB hR hb;clear hb))|fail)
     go_meet
     exact⟨rfl,hR⟩
    ·have h0z:(0:Int)<(n:Int):=by omega
     obtain⟨b,o,rfl,hbb,hcc⟩:=HRR.out.at_ (by simp[HN.out];omega)
     have c0:=cell_at hcc (k:=0) (by rw[HN.out];omega)
     rw[Nat.add_zero]at c0
     have hne:¬ l[0]! = 91:=fun e=>HNB.out ⟨by omega,e⟩
     obtain⟨y,hy⟩:∃ y,l[0]! = y:=⟨_,rfl⟩
     rw[hy]at c0 hne
     have hyb:(y==91)=false:=by simpa using hne
     clear hcc hbb hy h0 HAW HE
     go_wp2_with(first|(go_at_call 18;((with_reducible refine (HCT.out _).mono ?_);rintro e wF ⟨rfl,hb⟩;replace hR:=upB hR hb;clear hb))|fail)
     go_meet
     exact⟨rfl,hR⟩
   case rest =>
    clear hR
    obtain⟨rfl,hR⟩:=hcut
    rename World=>wx
    cases q with
    | true =>
     go_wp2_with(first|(go_at_call 11;((with_reducible refine (HAW.out _ hR).mono ?_);rintro e wF ⟨rfl,hb⟩;replace hR:=upB hR hb;clear hb))|fail)
     go_ret
     exact⟨rfl,hR⟩
    | false =>
     have H37:Hid ((37:UInt8) ∉ dl s):=Lib.hid (of_decide_eq_false HQ.out)
     have hcv:=HCV.out wx hR
     obtain⟨W1,c1,hrun,hB1,hcells⟩:=Fou.conv_bytes s wx
     have hR1:=upB hR hB1
     obtain⟨B,hB⟩:∃ B,dl s=B:=⟨_,rfl⟩
     have HC:Hid (∀ k (h:k<B.length),W1.cell? ⟨wx.heap.size,k,none⟩=some (.int .u8 ((B[k].toNat:Nat):Int))):=Lib.hid (by subst hB;exact hcells)
     have hBl:B.length=s.size:=by rw[<-hB,<-size_of]
     rw[hB]at H37 HPC HDC HDP
     have HBL:=Lib.hid hBl
     have HLT:Hid (s.size≠0->wx.heap.size<W1.heap.size):=Lib.hid (fun h0=>by
      have:=HC.out 0 (by omega)
      refine Nat.lt_of_not_le fun h => ?_
      rw[World.cell?,Array.getElem?_eq_none (by simpa using h)]at this
      cases this)
     have HR2:Hid (∀ W,Below W1.heap.size W1 W->Row W W.heap.size A2 (us.map Value.bool)):=Lib.hid (fun W h=>(hr2.below (upB hR1 h)).mono (upB hR1 h).size)
     have HN2:=Lib.hid hn2
     have HR1:=Lib.hid hR1
     clear hcells hB hBl hr2 hn2 HQ hR hB1 HCT
     go_upto_region 4 with fail
     go_wp2
     clear hrun hcv
     go_loopg [5,6,7,36] s.size (fun g s5 s6 s7 s36 wr => ∃ (k:Nat) (S:ByteArray),s36 = .int .i64 (k:Int)/\s5 = .string S/\s.size-k=g/\k<=s.size/\S.size<=3*k/\Hid (dl S=outB (B.take k) us)/\Hid (Below W1.heap.size W1 wr))
     case atStart=>exact⟨0,⟨#[]⟩,rfl,rfl,rfl,Nat.zero_le _,Nat.zero_le _,Lib.hid (by rw[List.take_zero];rfl),Lib.hid (Below.refl _ _)⟩
     case round =>
      obtain⟨k,S,rfl,rfl,rfl,hk,hS,HS,HB⟩:=hrel
      by_cases hlt:k<s.size
      ·have hltz:(k:Int)<(s.size:Int):=by omega
       have hkl:k<B.length:=by rw[HBL.out];exact hlt
       have hwlt:=HLT.out (by omega)
       have c0:=(HB.out.cell (p:=⟨wx.heap.size,k,none⟩) hwlt).trans (HC.out k hkl)
       have hgx:B[k]? = some B[k]:=List.getElem?_eq_getElem hkl
       obtain⟨x,hx⟩:∃ x,B[k]=x:=⟨_,rfl⟩
       rw[hx]at c0 hgx
       have HO:=Lib.hid (outB_snoc B us k x hgx)
       have hx256:=x.toNat_lt
       obtain⟨b,hb⟩:∃ b,x.toNat=b:=⟨_,rfl⟩
       rw[hb]at c0 hx256
       have HX:Hid (x.toNat=b):=Lib.hid hb
       change wr.cell? ⟨wx.heap.size,k,none⟩=some (.int .u8 (b:Int)) at c0
       clear hgx hx hb hwlt hkl
       by_cases hu:us.getD k false=true
       ·have hk2:k<n2:=by
         by_cases h:k<us.length
         ·rw[<-HN2.out];exact h
         ·rw[List.getD_eq_getElem?_getD,List.getElem?_eq_none (by omega)]at hu
          cases hu
        have hk2z:(k:Int)<(n2:Int):=by omega
        obtain⟨b2,o2,hA2,hbb,hcc⟩:=(HR2.out wr HB.out).at_ (by rw[List.length_map,HN2.out];omega)
        subst hA2
        have c2:wr.cell? ⟨b2,o2+k,none⟩=some (.bool true):=by
         rw[hcc k (by rw[List.length_map,HN2.out];omega),List.getElem?_map]
         rw[List.getD_eq_getElem?_getD]at hu
         cases h:us[k]? with
         | none=>rw[h]at hu;cases hu
         | some v=>rw[h]at hu;cases v<;>first|rfl|cases hu
        obtain⟨hi,hhi⟩:∃ h,b/16=h:=⟨_,rfl⟩
        obtain⟨lo,hlo⟩:∃ h,b%16=h:=⟨_,rfl⟩
        have h1:(b:Int)/16=(hi:Int):=by omega
        have h2:(b:Int)%16=(lo:Int):=by omega
        have hh16:hi<16:=by omega
        have hl16:lo<16:=by omega
        have hand:bits .and .u8 (b:Int) 15=(lo:Int):=by
         rw[u8_and (b:Int) 15 (by omega) (by omega) (by omega) (by omega)]
         have e:=Nat.and_two_pow_sub_one_eq_mod b 4
         have e2:((b:Int).toNat &&& (15:Int).toNat)=b%16:=e
         rw[e2,hlo]
        have hx1:=litL' hi hh16 (Nat.lt_of_lt_of_le hh16 (by decide))
        have hx2:=litL' lo hl16 (Nat.lt_of_lt_of_le hl16 (by decide))
        obtain⟨e1,he1⟩:∃ e,(⟨#[48,49,50,51,52,53,54,55,56,57,97,98,99,100,101,102]⟩:ByteArray)[hi]'(Nat.lt_of_lt_of_le hh16 (by decide))=e:=⟨_,rfl⟩
        obtain⟨e2,he2⟩:∃ e,(⟨#[48,49,50,51,52,53,54,55,56,57,97,98,99,100,101,102]⟩:ByteArray)[lo]'(Nat.lt_of_lt_of_le hl16 (by decide))=e:=⟨_,rfl⟩
        rw[he1]at hx1
        rw[he2]at hx2
        have HD:Hid (outB (B.take (k+1)) us=outB (B.take k) us++([37]++[e1,e2])):=Lib.hid (by
         rw[HO.out,if_pos hu]
         unfold cod1
         rw[HX.out,hhi,hlo,hx1,hx2]
         rfl)
        have i1:(0:Int)<=(hi:Int)/\(hi:Int)<16:=by omega
        have i2:(0:Int)<=(lo:Int)/\(lo:Int)<16:=by omega
        have b2':(0:Int)<=(b:Int)/\(b:Int)<256:=by omega
        have hk1:¬ (9223372036854775807<(⟨#[37]⟩:ByteArray).size+(Fou.bs [e1,e2]).size):=by rw[show (⟨#[37]⟩:ByteArray).size=1 from rfl,show (Fou.bs [e1,e2]).size=2 from rfl];omega
        have hk3:¬ (9223372036854775807<S.size+((⟨#[37]⟩:ByteArray)++Fou.bs [e1,e2]).size):=by rw[ByteArray.size_append,show (⟨#[37]⟩:ByteArray).size=1 from rfl,show (Fou.bs [e1,e2]).size=2 from rfl];omega
        have HSZ:Hid ((S++((⟨#[37]⟩:ByteArray)++Fou.bs [e1,e2])).size<=3*(k+1)/\k+1<=s.size):=Lib.hid (by rw[ByteArray.size_append,ByteArray.size_append,show (⟨#[37]⟩:ByteArray).size=1 from rfl,show (Fou.bs [e1,e2]).size=2 from rfl];omega)
        have hcw:=fun W:World=>conv_b2 e1 e2 W
        have hcwd:=fun W:World=>conv_b2d e1 e2 W
        clear hcc hbb hu hhi hlo hx1 hx2 hS HO
        go_upto_region 8 with fail
        go_region
        all_goals
         go_wp2_with fail
         go_roundg (s.size-(k+1))
         case measure=>omega
         case rel=>exact⟨k+1,S++((⟨#[37]⟩:ByteArray)++Fou.bs [e1,e2]),by go_num,rfl,rfl,HSZ.out.2,HSZ.out.1,Lib.hid (by rw[dl_cat,dl_cat,HS.out,dl_of,HD.out]),Lib.hid (HB.out.trans ((((Below.refl wr.heap.size wr).alloc (Nat.le_refl _) _).drew).mono HB.out.size))⟩
       ·have hu':us.getD k false=false:=by simpa using hu
        have HD:Hid (outB (B.take (k+1)) us=outB (B.take k) us++[UInt8.ofNat b]):=Lib.hid (by
         rw[HO.out,if_neg hu,<-HX.out,UInt8.ofNat_toNat])
        have hk3:¬ (9223372036854775807<S.size+(Fou.bs [UInt8.ofNat b]).size):=by rw[show (Fou.bs [UInt8.ofNat b]).size=1 from rfl];omega
        have HSZ:Hid ((S++Fou.bs [UInt8.ofNat b]).size<=3*(k+1)/\k+1<=s.size):=Lib.hid (by rw[ByteArray.size_append,show (Fou.bs [UInt8.ofNat b]).size=1 from rfl];omega)
        have hcw:=fun W:World=>conv_b1 b W
        by_cases hk2:k<n2
        ·have hk2z:(k:Int)<(n2:Int):=by omega
         obtain⟨b2,o2,hA2,hbb,hcc⟩:=(HR2.out wr HB.out).at_ (by rw[List.length_map,HN2.out];omega)
         subst hA2
         have c2:wr.cell? ⟨b2,o2+k,none⟩=some (.bool false):=by
          rw[hcc k (by rw[List.length_map,HN2.out];omega),List.getElem?_map]
          rw[List.getD_eq_getElem?_getD]at hu'
          cases h:us[k]? with
          | none=>exact absurd (List.getElem?_eq_none_iff.1 h) (by rw[HN2.out];omega)
          | some v=>rw[h]at hu';cases v<;>first|rfl|cases hu'
         clear hcc hbb hu hu' hS HO
         go_wp2_with fail
         go_roundg (s.size-(k+1))
         case measure=>omega
         case rel=>exact⟨k+1,S++Fou.bs [UInt8.ofNat b],by go_num,rfl,rfl,HSZ.out.2,HSZ.out.1,Lib.hid (by rw[dl_cat,HS.out,dl_of,HD.out]),Lib.hid (HB.out.trans (((Below.refl wr.heap.size wr).alloc (Nat.le_refl _) _).mono HB.out.size))⟩
        ·have hk2z:¬ (k:Int)<(n2:Int):=by omega
         clear hu hu' hS HO
         go_wp2_with fail
         go_roundg (s.size-(k+1))
         case measure=>omega
         case rel=>exact⟨k+1,S++Fou.bs [UInt8.ofNat b],by go_num,rfl,rfl,HSZ.out.2,HSZ.out.1,Lib.hid (by rw[dl_cat,HS.out,dl_of,HD.out]),Lib.hid (HB.out.trans (((Below.refl wr.heap.size wr).alloc (Nat.le_refl _) _).mono HB.out.size))⟩
      ·obtain rfl:k=s.size:=by omega
       have hltz:¬ (s.size:Int)<(s.size:Int):=by omega
       have HSB:Hid (dl S=outB B us):=Lib.hid (by rw[HS.out,List.take_of_length_le (by rw[HBL.out];exact Nat.le_refl _)])
       have hR:Below w.heap.size w wr:=upB HR1.out HB.out
       have HP:=Lib.hid (fun W=>HasPrefix_any S ⟨#[91]⟩ W)
       obtain⟨p,hp⟩:∃ p,pfx (dl S) (dl ⟨#[91]⟩)=p:=⟨_,rfl⟩
       rw[hp]at HP
       have HPP:=Lib.hid hp
       have hS8:S.size<=800:=by omega
       clear hp HS HC HLT HR2
       cases p with
       | true =>
        go_wp2_with(first
         | (go_at_call 19;(with_reducible refine (HP.out _).mono ?_);rintro e wG ⟨rfl,rfl⟩)
         | (go_at_call 11;((with_reducible refine (HAW.out _ hR).mono ?_);rintro e wF ⟨rfl,hb⟩;replace hR:=upB hR hb;clear hb))|fail)
        go_ret
        exact⟨rfl,hR⟩
       | false =>
        have ho:(outB B us)[0]?≠some 91:=fun e=>by
         have h:=HPP.out
         rw[HSB.out]at h
         unfold pfx at h
         have:=of_decide_eq_false h
         refine this ?_
         cases hO:outB B us with
         | nil=>rw[hO]at e;cases e
         | cons y t=>rw[hO]at e;cases e;rfl
        have HV:=Lib.hid (HPC.out us H37.out HH.out ho)
        have HDL:=Lib.hid (HDC.out H37.out)
        have HDL2:=Lib.hid (HDP.out us H37.out)
        have HDH:=Lib.hid (dcB_head ho)
        have hcv:=HCV.out wr hR
        obtain⟨W3,n3,c3,hcs,hn3,hc3,hr3,hB3⟩:=conv_all s wr (by omega)
        rw[HRN.out]at hn3 hr3
        have hn3n:n3=n:=by rw[<-hn3,HFX.out]
        have hR3:=upB hR hB3
        have HP1:=Lib.hid (HParse_any (l.map fixR) true _ n3 c3 W3 hn3 (by omega) hc3 (fun _=>by omega) (fun e=>by cases e) (fun _=>⟨by have:=HDL.out;have:=HFX.out;rw[List.length_map]at this;omega,fits_300 (by have:=HDL.out;have:=HFX.out;rw[List.length_map]at this;omega)⟩) (HE.out _ hR3) hr3)
        obtain⟨v,hv⟩:∃ v,hP (l.map fixR) true=v:=⟨_,rfl⟩
        obtain⟨g,x,hvv,h8⟩:=hoV_split v (fun h e=>hP_len (hv.trans e))
        rw[hv]at HP1 HV
        unfold HoR at HP1
        rw[hvv]at HP1
        have HVV:=Lib.hid hvv
        have H8:=Lib.hid h8
        have heq:∀ W:World,(Op.equalIn 10000 28 g.v g.v).run Tryz.prog W = .ok true W:=fun W=>by
         have:=equalH g g h8 h8 W
         rw[decide_eq_true rfl]at this
         exact this
        have HDA:=Lib.hid (fun W=>decoded_any S hS8 W)
        have HEQ:=Lib.hid heq
        have HR3:=Lib.hid hR3
        clear ho hn3 hr3 hv hvv h8 heq hB3 hc3 hR3 HPP hn3n
        go_upto_region 13 with(first|(go_at_call 19;(with_reducible refine (HP.out _).mono ?_);rintro e wG ⟨rfl,rfl⟩)|fail)
        go_upto_region 14 with(first
         | (go_at_call 12;(with_reducible refine HP1.out.mono ?_);rintro e w4 ⟨rfl,hB4⟩)
         | (refine storeH rfl _ _ rfl _ 28 hN g rfl rfl (HBk.new w4 28 hN) rfl H8.out ?_;intro w5 hX5 hB5)
         | fail)
        have hB5':=(upA w4 (.cells hN.cs.toArray 28)).trans hB5
        have hR5:=upB (upB HR3.out hB4) hB5'
        have HR5:=Lib.hid hR5
        have HX5:=Lib.hid hX5
        have hDl:(bi (dcB (dl S))).length<=2400:=by
         have:=dcB_len (dl S)
         rw[<-size_of]at this
         simp[bi]
         omega
        have hDa:(bi (dcB (dl S))).map fixR=bi (dcB (dl S)):=fix_asc fun x hx=>by
         obtain⟨y,hy,rfl⟩:=List.mem_map.1 hx
         have:=dcB_asc _ y hy
         omega
        have HDA2:Hid (∀ W,Calls Tryz.prog 20 #[.string S] W (fun e w' => ∃ (A:Option Addr) (n c:Nat),e = .returned (.slice A n c)/\(bi (dcB (dl S))).length=n/\n<=c/\Row w' w'.heap.size A (cl .i32 (bi (dcB (dl S))))/\Below W.heap.size W w')):=Lib.hid (fun W=>(HDA.out W).mono fun e w' ⟨A,n,c,h1,h2,h3,h4,h5⟩=>⟨A,n,c,h1,by simp[bi,h2],h3,h4,h5⟩)
        rw[<-HSB.out]at HV HDL2 HDH
        obtain⟨D,hD⟩:∃ D,bi (dcB (dl S))=D:=⟨_,rfl⟩
        rw[hD]at hDl hDa HDA2 HV HDL2 HDH
        have HD1:=Lib.hid hDl
        have HD2:=Lib.hid hDa
        have HD4:Hid ((dcd D).length<=60):=Lib.hid (by
         rw[HDL2.out]
         have h1:=HDL.out
         have h2:=HFX.out
         rw[List.length_map]at h2
         omega)
        clear hcv hcs hB5 hB5' hB4 hR5 hX5 hD hDl hDa HDA HDL2 HSB
        go_upto_region 15 with(first
         | (go_at_call 20;(with_reducible refine (HDA2.out _).mono ?_);rintro e w6 ⟨A6,n6,c6,rfl,hn6,hc6,hr6,hB6⟩;have hR6:=upB HR5.out hB6;have hcv6:=conv_runes (l:=D) (n:=n6) (c:=c6) hn6 hr6;obtain⟨W7,n7,c7,hcs7,hn7,hc7,hr7,hB7⟩:=conv_all (runesBytes D) w6 (by have:=runesBytes_size_le D;have:=HD1.out;omega);rw[rn_runes,HD2.out]at hn7 hr7;have hR7:=upB hR6 hB7;have HP2:=Lib.hid (HParse_any D true _ n7 c7 W7 hn7 (by have:=HD1.out;omega) hc7 (fun e=>HDH.out.elim (fun h=>by rw[h]at hn7;simp at hn7;omega) (fun h=>absurd e h)) (fun e=>by cases e) (fun _=>⟨by have:=HD4.out;omega,fits_300 (by have:=HD4.out;omega)⟩) (HE.out _ hR7) hr7);rw[<-HV.out]at HP2;unfold HoR at HP2;rw[HVV.out]at HP2;clear hn6 hc6 hr6 hn7 hc7 hr7)
         | (go_at_call 12;(with_reducible refine HP2.out.mono ?_);rintro e w8 ⟨rfl,hB8⟩)
         | (refine storeH rfl _ _ rfl _ 28 hN g rfl rfl (HBk.new w8 28 hN) rfl H8.out ?_;intro w9 hX9 hB9)
         | fail)
        have hB9':=(upA w8 (.cells hN.cs.toArray 28)).trans hB9
        have hXa:=(((HX5.out.go hB6).go hB7).go hB8).go hB9'
        have hRz:=upB (upB hR7 hB8) hB9'
        have heq:=HEQ.out
        clear hcs7 hcv6 hB9 hB9' hB6 hB7 hB8 HDA2 HP2 HP1 hR hR6 hR7
        go_wp2_with(first
         | (refine loadH _ rfl _ 28 rfl g hXa H8.out rfl ?_)
         | (refine loadH _ rfl _ 28 rfl g hX9 H8.out rfl ?_)
         | (go_at_call 11;((with_reducible refine (HAW.out _ hRz).mono ?_);rintro e wF ⟨rfl,hb⟩;replace hRz:=upB hRz hb;clear hb))
         | fail)
        go_ret
        exact⟨rfl,hRz⟩
 ·have h60z:(60:Int)<(n:Int):=by omega
  clear hr hr2 hn hn2 hE
  go_enter Tryz.func4,Tryz.ntmps4
  go_wp2_with(first|(go_at_call 11;((with_reducible refine (HAW.out _ hR).mono ?_);rintro e wF ⟨rfl,hb⟩;replace hR:=upB hR hb;clear hb))|fail)
  go_ret
  exact⟨rfl,hR⟩
end Go.Proofs.YtkibdkfdffkkfaaGreatDoor.Hst
