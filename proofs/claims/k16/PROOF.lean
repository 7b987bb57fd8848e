import PyProof.Rows.All
import Wide.All
import OpenK.AllK
import Wide.FinOn
import HandS.ForMost
import HandS.Walk
import HandS.Flow
import HandS.Codes
import HandS.IsInst
import HandS.Conv
import HandS.StrMore
import PyProof.MeetsSeq2
import PyProof.DictTable
import HandS.Wide
import HandS.TupAny
import HandS.More
import HandS.Dict
import HandS.ForExc
import HandS.ExcIs
import HandS.ExcField
import HandS.DeepEq
import HandS.TupLe
import HandS.Steps
import HandS.ExcInit
import HandS.HotCalls
import HandS.TryMany
import HandS.FStr
import HandS.WideBits
import HandS.SortRule
import HandS.SortKw
import HandS.Keys
import KE.SortKeyHeap
import KE.DataMinMax
import KE.SortData
import HandS.RaiseMore
import HandS.Zip
import HandS.DictSubView
import HandS.Deep
import HandS.Sort
import HandS.SetKeys
import HandS.Strs
import HandS.SetFor
import HandS.DictComp
import HandS.Style
import HandS.StrSplit
import KE.GoesEnum
import PySem.Challenge.RW_oathledger_k16_disk_operations
set_option Elab.async false
set_option linter.all false
set_option maxRecDepth 100000
set_option maxHeartbeats 4000000
namespace Law
open PySem PySem.Spec PyProof.Rows L2
open C8 (Cal Met Mak pe_c pe_mk pe_mt pe_mt0 pe_gc pss_cut tCut)
/-! ### a def of the top, by its name -/
structure DefOk (K : PySem.W.Frag) (mg : Str → Option Value) (x : Str) (st : Stmt) (ps : List Str) : Prop where
  ex : ∃ (f : Addr) (fd : FuncData), L2.Fun K x x st f fd ∧ mg x = some (.ref f) ∧ Binds K fd ps []
section
variable {P : Program} {w : World} {K : PySem.W.Frag} {mg : Str → Option Value} {base : Heap}
/-- a def's promise, by its body -/
theorem cal {x : Str} {st : Stmt} {N ps : List Str} {k : Nat} {sp : Sp} (D : DefOk K mg x st ps) (S : FnScope N ps (defScope st)) (len : ∀ vs H Q E, sp vs H Q E → vs.length = ps.length)
    (hbody : ∀ (f : Addr) (cdv : Value) (A : Around) (outer : List Env) (s : Shared) (H : Hp) (vs : List V) (Q : VK) (E : XK), Room k (A.deeper (envOfC x (defScope st) s.heap.objs.size f cdv)) → sp vs H Q E →
      ∃ t, PSs (cxOf L2.CX0 P w K mg base N x (defScope st) f cdv A outer s H E).nox (defBody st) t ∧ t { nx := fun _ H' => Q .non H', rt := Q } (start N vs) H) : Cal P w K mg base (k + 1) x sp [] := by
  obtain ⟨f, fd, F, hm, b⟩ := D.ex
  exact ⟨f, fd, ps, [], F.ok S len (fun cdv A outer s H vs Q E hr h => hbody f cdv A outer s H vs Q E hr h), hm, F.kp, b, .nil⟩
/-- a call without arguments -/
theorem pe_c0 {X : Cx} {k j : Nat} {x : Str} {sp : Sp} {dvs : List V} {p pos : Pos} (c : Cal X.prog X.w X.K X.mg X.base k x sp dvs) (hr : Room j X.A) (hk : k ≤ j) (hg : Gl X x)
    (hdb : (x == ("__debug__" : Str)) = false := by decide) : PE X (.Call (.Name x p) [] [] pos) (tCall sp dvs L2.E0 tNil) := by
  obtain ⟨f, fd, ps, ds, F, hm, kp, b, d⟩ := c.ex
  exact pe_call0 F (hr.mono hk) hg hm kp b d pass0 hdb
end
/-! ### small things -/
theorem same_upd {H : Hp} {p : Addr} {o : HO} (h : H p = none) : Same H (upd H p o) := fun b x e => by
  rw [upd_ne (ne_of_none e h)]
  exact e
theorem same_mut {H H' : Hp} {p : Addr} {o : HO} (s : Same H H') (h : H p = none) : Same H (upd H' p o) := fun b x e => by
  rw [upd_ne (ne_of_none e h)]
  exact s b x e
theorem sz1000 {n : Nat} (h : n ≤ 100000) : n ≤ sizeLine := Nat.le_trans h (by decide)
theorem sz1000' {n : Nat} (h : n < 100000) : n < sizeLine := Nat.lt_of_lt_of_le h (by decide)
theorem sz1000'' {n : Nat} (h : n ≤ 16777216) : n ≤ sizeLine := by rw [sizeLine_eq]; exact h
theorem sq {K : PySem.W.Frag} {H : Hp} {a : Addr} {xs : List V} (h : H a = some (.lst xs)) : SqL K H a xs := .inl (.inl h)
def spLaw (K : PySem.W.Frag) : Sp := fun vs H Q _ => ∃ (a : Addr) (ns : List Int), vs = [.ref a] ∧ SqL K H a (ns.map V.int) ∧ ns.length ≤ 63 ∧ ∀ H', Q (.bl true) H'
/-! ### the reading, step by step -/
local macro_rules | `(tactic| walk_at "sd") => `(tactic| first
  | omega
  | decide
  | assumption
  | (show _ ∨ _; exact Or.inl ⟨by omega, by omega⟩)
  | (show _ ∨ _; exact Or.inr ⟨by omega, by omega⟩)
  | (show _ ∧ _; exact ⟨by omega, by omega⟩)
  | (show _ ∧ _; exact ⟨by decide, by decide⟩)
  | exact sz1000 (by omega)
  | exact sz1000' (by omega))
local macro_rules | `(tactic| walk_at "sz") => `(tactic| first
  | exact sz1000 (Nat.le_of_ble_eq_true rfl)
  | exact sz1000 (by omega)
  | exact sz1000'' (by omega)
  | assumption)
/-- one step of a reading: a slot, an operator upon numbers, a call upon values -/
local macro_rules | `(tactic| walk_at "rd") => `(tactic| first
  | refine ⟨_, (rfl : (_ : List (Option V))[_]? = some (some _)), ?_⟩
  | refine ⟨_, _, (rfl : (_ : V) = _), (rfl : (_ : V) = _), (by walk_at "sd" : (_ : Prop)), ?_⟩
  | refine ⟨_, _, (rfl : (_ : V) = _), (rfl : (_ : V) = _), ?_⟩
  | refine ⟨_, (rfl : (_ : List V) = _), (by walk_at "sd" : (_ : Prop)), (by walk_at "sd" : (_ : Prop)), ?_⟩
  | refine ⟨_, (rfl : (_ : List V) = _), ?_⟩
  | refine ⟨_, (rfl : (_ : V) = _), ?_⟩
  | refine .inl ⟨_, (rfl : (_ : List V) = _), ?_⟩
  | refine ⟨⟨_, (rfl : (_ : V) = _)⟩, ?_⟩
  | refine ⟨(rfl : scal _ _ = true), ?_⟩
  | refine ⟨(rfl : V.non = V.non), ?_⟩
  | refine ⟨(by walk_at "sz" : (_ ≤ sizeLine)), ?_⟩)
local macro_rules | `(tactic| walk_at "rds") => `(tactic| repeat walk_at "rd")
theorem tyes {σ : L2.St} {H : Hp} {A B : Hp → Prop} (h : A H) : tYes σ H (fun b H3 => if b = true then A H3 else B H3) := by
  show (if true = true then A H else B H)
  rw [if_pos rfl]
  exact h
theorem sum_ones {ys : List Str} (h : ∀ y ∈ ys, y.length = 1) : (ys.map (fun x => x.length)).sum = ys.length := by
  induction ys with
  | nil => rfl
  | cons y r ih =>
    rw [List.map_cons, List.sum_cons, ih (fun z hz => h z (List.mem_cons_of_mem _ hz)), h y List.mem_cons_self, List.length_cons]
    omega
theorem chr_at {z : Str} {i : Int} (h0 : 0 ≤ i) (h1 : i < z.length) : ∃ c, atI z.cps.toList i = some c := by
  obtain ⟨j, rfl⟩ := Int.eq_ofNat_of_zero_le h0
  have hj : j < z.cps.toList.length := by
    rw [Array.length_toList]
    exact Int.ofNat_lt.mp h1
  exact ⟨z.cps.toList[j], atI_nat (List.getElem?_eq_getElem hj)⟩
/-- what an append to a tracked new list leaves -/
theorem lst_app {α : Type} {H : Hp} {D : Addr} {f : α → V} {ys : List α} {y : α} : upd H D (.lst (ys.map f ++ [f y])) D = some (.lst ((ys ++ [y]).map f)) := by
  rw [upd_same, List.map_append]
  rfl
theorem rg40 {n : Nat} (h : n ≤ 100000) : RgC 0 n 40 ((n + 39) / 40) := by
  have e : Builtin.Range.rangeSize 0 (n : Int) 40 = (((n + 39) / 40 : Nat) : Int) := by
    rw [rangeSize_pos (by decide) (by omega)]
    omega
  refine ⟨by decide, by decide, ?_, e⟩
  unfold Builtin.Range.small
  rw [e]
  unfold Builtin.Range.rangeFitsLong
  simp
  omega
theorem isi {K : PySem.W.Frag} {H : Hp} {x : V} {T1 T2 : String} {b : Bool} {Q : VK} (ty : TyX K H x (.type T1)) (e : kitB T1 T2 = some b) (q : Q (.bl b) H) : rIsi K [x, .ty T2] H Q :=
  ⟨x, .ty T2, _, _, b, rfl, .ty _, ty, kit_ty e, q⟩
theorem ifT {c : Bool} {A B : Prop} (hc : c = true) (h : A) : if c = true then A else B := by
  rw [if_pos hc]
  exact h
theorem ifF {c : Bool} {A B : Prop} (hc : c = false) (h : B) : if c = true then A else B := by
  rw [if_neg (by rw [hc]; decide)]
  exact h
local macro_rules | `(tactic| walk_at "isk") => `(tactic| first
  | exact .base (.int _) | exact .base (.str _) | exact .base (.bl _) | exact .base .non
  | exact .base (.lst (by assumption)) | exact .base (.tup (by assumption)) | exact .base (.dK (by assumption)))
/-- isinstance(x, T) with a built-in T; the object's fact stands in the context -/
local macro_rules | `(tactic| walk_at "isi") => `(tactic| first
  | refine ⟨_, .ty _, _, _, true, (rfl : (_ : List V) = _), .ty _, (by walk_at "isk"), kit_ty (by decide +kernel), ?_⟩
  | refine ⟨_, .ty _, _, _, false, (rfl : (_ : List V) = _), .ty _, (by walk_at "isk"), kit_ty (by decide +kernel), ?_⟩)
/-! ### classes of the top -/
structure MethOk (K : PySem.W.Frag) (C : Addr) (m qual : Str) (st : Stmt) (ps : List Str) : Prop where
  ex : ∃ (f : Addr) (fd : FuncData), Meth K C m f ∧ L2.Fun K m qual st f fd ∧ Binds K fd ps []
structure MakOk (K : PySem.W.Frag) (C : Addr) (qual : Str) (st : Stmt) (ps : List Str) : Prop where
  ex : ∃ (f : Addr) (fd : FuncData), Mk K C f ∧ L2.Fun K "__init__" qual st f fd ∧ Binds K fd ps []
section
variable {P : Program} {w : World} {K : PySem.W.Frag} {mg : Str → Option Value} {base : Heap}
theorem met {C : Addr} {m qual : Str} {st : Stmt} {N ps : List Str} {k : Nat} {sp : Sp} (c : Cls K C) (D : MethOk K C m qual st ps) (S : FnScope N ps (defScope st)) (len : ∀ vs H Q E, sp vs H Q E → vs.length = ps.length)
    (hbody : ∀ (f : Addr) (cdv : Value) (A : Around) (outer : List Env) (s : Shared) (H : Hp) (vs : List V) (Q : VK) (E : XK), Room k (A.deeper (envOfC qual (defScope st) s.heap.objs.size f cdv)) → sp vs H Q E →
      ∃ t, PSs (cxOf L2.CX0 P w K mg base N qual (defScope st) f cdv A outer s H E).nox (defBody st) t ∧ t { nx := fun _ H' => Q .non H', rt := Q } (start N vs) H) : Met P w K mg base (k + 1) C m sp [] := by
  obtain ⟨f, fd, M, F, b⟩ := D.ex
  exact ⟨f, fd, ps, [], c, M, F.ok S len (fun cdv A outer s H vs Q E hr h => hbody f cdv A outer s H vs Q E hr h), b, .nil⟩
theorem mak {C : Addr} {x qual : Str} {st : Stmt} {N ps : List Str} {k : Nat} {sp : Sp} (hm : mg x = some (.ref C)) (D : MakOk K C qual st ps) (S : FnScope N ps (defScope st)) (len : ∀ vs H Q E, sp vs H Q E → vs.length = ps.length)
    (hbody : ∀ (f : Addr) (cdv : Value) (A : Around) (outer : List Env) (s : Shared) (H : Hp) (vs : List V) (Q : VK) (E : XK), Room k (A.deeper (envOfC qual (defScope st) s.heap.objs.size f cdv)) → sp vs H Q E →
      ∃ t, PSs (cxOf L2.CX0 P w K mg base N qual (defScope st) f cdv A outer s H E).nox (defBody st) t ∧ t { nx := fun _ H' => Q .non H', rt := Q } (start N vs) H) : Mak P w K mg base (k + 1) x C sp [] := by
  obtain ⟨f, fd, M, F, b⟩ := D.ex
  exact ⟨f, fd, ps, [], M, F.ok S len (fun cdv A outer s H vs Q E hr h => hbody f cdv A outer s H vs Q E hr h), hm, b, .nil⟩
end
/-- a tuple of the top, in the written part -/
def KTup (K : PySem.W.Frag) (a : Addr) (xs : List V) : Prop := ∃ o its n, K.lookup a = some o ∧ o.cls = Value.type "tuple" ∧ o.data = Data.seq its n ∧ its.size ≤ sizeLine ∧ Vals xs its.toList
theorem pe_mk0 {X : Cx} {k j : Nat} {x : Str} {C : Addr} {sp : Sp} {dvs : List V} {p pos : Pos} (c : Mak X.prog X.w X.K X.mg X.base k x C sp dvs) (hr : Room j X.A) (hk : k + 1 ≤ j) (hg : Gl X x)
    (hdb : (x == ("__debug__" : Str)) = false := by decide) : PE X (.Call (.Name x p) [] [] pos) (tMake C sp dvs L2.E0 tNil) := by
  obtain ⟨f, fd, ps, ds, M, F, hm, b, d⟩ := c.ex
  exact pe_make0 M F (hr.mono hk) hg hm b d pass0 hdb
/-! ### rules whose written part is named K (a comprehension's context is another one) -/
section
variable {X : Cx} {K : PySem.W.Frag}
theorem kin (h : X.K = K := by rfl) : OpR X (compareOp .In) (rIn K false) := by subst h; exact op_in_seq
theorem knin (h : X.K = K := by rfl) : OpR X (compareOp .NotIn) (rIn K true) := by subst h; exact op_notIn_seq
theorem kixl (h : X.K = K := by rfl) : IxR X (rIxL K) := by subst h; exact ix_list
theorem kixt (h : X.K = K := by rfl) : IxR X (rIxT K) := by subst h; exact ix_tup
theorem ksll (h : X.K = K := by rfl) : SlR X (rSlL K) := by subst h; exact sl_list
theorem kisi (h : X.K = K := by rfl) : CallR X (.builtin "isinstance") (rIsi K) := by subst h; exact call_isi
theorem kfld {o : Expr} {f : Str} {pos : Pos} {ta : TE} (he : PE X o ta) (hb : attributeBase o f X.env (eval o X.env) = eval o X.env := by rfl) (h : X.K = K := by rfl) : PE X (.Attribute o f pos) (tFld K ta f) := by subst h; exact pe_fld he hb
def rLenK (K : PySem.W.Frag) : List V → Hp → VK → Prop := fun xs H Q => ∃ p ys, xs = [.ref p] ∧ (SqL K H p ys ∨ SqT K H p ys) ∧ Q (.int ys.length) H
theorem klen (h : X.K = K := by rfl) : CallR X (.builtin "len") (rLenK K) := by subst h; exact call_len_seq
end
theorem hu1 {k : Nat} {A : Around} (hr : Room k A) : A.units + 1 < cLine := by have := hr.units; omega
section
variable {X : Cx}
theorem kdin {d : Addr} (h : ∃ es n, KDict X.K X.w d es n) : OpR X (compareOp .In) (fun x y H Q => ∃ (z : Str) (r : Option Value), x = .str z ∧ y = .ref d ∧ PySem.W.nsIn X.K d z = some r ∧ Q (.bl r.isSome) H) := by
  obtain ⟨es, n, D⟩ := h
  exact op_in_kd D
theorem kdnin {d : Addr} (h : ∃ es n, KDict X.K X.w d es n) : OpR X (compareOp .NotIn) (fun x y H Q => ∃ (z : Str) (r : Option Value), x = .str z ∧ y = .ref d ∧ PySem.W.nsIn X.K d z = some r ∧ Q (.bl (!r.isSome)) H) := by
  obtain ⟨es, n, D⟩ := h
  exact op_notIn_kd D
end
theorem kgtup {X : Cx} {K : PySem.W.Frag} {es : List Expr} {k : Nat} {t : TGs} {n : Nat} {pos : Pos} (hc : X.calm = true) (h : PGs X es t)
    (hn : (assignEach es X.env).length = n := by rfl) (hst : (assignEach es X.env).findIdx? (·.1) = none := by rfl) (hK : X.K = K := by rfl) : PG X (.Tuple es k pos) (gTup K n t) := by subst hK; exact pg_tup hc h hn hst
theorem hu65 {A : Around} {k : Nat} (hr : Room k A) : A.units + 65 < cLine := by have := hr.un; omega
theorem keqD {X : Cx} {K : PySem.W.Frag} (hu : X.A.units + 64 < cLine) (h : X.K = K := by rfl) : OpR X (compareOp .Eq) (rEqD K) := by subst h; exact op_eqD hu
theorem kneD {X : Cx} {K : PySem.W.Frag} (hu : X.A.units + 64 < cLine) (h : X.K = K := by rfl) : OpR X (compareOp .NotEq) (rNeD K) := by subst h; exact op_neD hu

/-! ### defs that raise own exceptions -/
theorem kit_tyB {K : PySem.W.Frag} {B : Addr} {T : String} (hm : PySem.W.kitMeta T = true) (h : PySem.W.subIn K (.ref B) (.type T) = some true) : PySem.W.kitOne K (.ref B) (.type T) = some true := by
  unfold PySem.W.kitOne
  rw [if_neg (by rw [show ((Value.ref B : Value) == .type T) = false from rfl]; exact Bool.false_ne_true)]
  show (if PySem.W.kitMeta T = true then PySem.W.subIn K (.ref B) (.type T) else none) = some true
  rw [if_pos hm]; exact h
theorem kit_own {K : PySem.W.Frag} {B C : Addr} (h1 : PySem.W.subIn K (.ref C) (.type "BaseException") = some true) (h2 : PySem.W.typeIn K (.ref C) = some (.type "type")) (h3 : PySem.W.subIn K (.ref B) (.ref C) = some true) : PySem.W.kitOne K (.ref B) (.ref C) = some true := by
  have h0 : (PySem.W.clsIn K C).isSome = true := by
    have h1 : PySem.W.mroIn K C (.type "BaseException") = some true := h1
    unfold PySem.W.mroIn at h1
    cases e : PySem.W.clsIn K C with
    | some _ => rfl
    | none => rw [e] at h1; cases h1
  unfold PySem.W.kitOne
  split
  · rfl
  · show (if ((PySem.W.clsIn K C).isSome && PySem.W.typeIn K (.ref C) == some (.type "type")) = true then PySem.W.subIn K (.ref B) (.ref C) else none) = some true
    rw [h0, h2, h3]
    rfl
section
variable {X : Cx}
/-- C() of an own exception class without an __init__ of its own -/
theorem pmk_own0 {x : Str} {C : Addr} {bmB : List Value} {B newId initId : String} {p pos : Pos} (F : ExcBaseFacts B newId initId bmB) (q : PySem.W.excIn X.K C bmB newId = true) (gC : X.mg x = some (.ref C)) (kC : PySem.W.keepIn X.K (.ref C) = true) (r : Raises X (.ref C)) (hg : Gl X x)
    (hdb : (x == ("__debug__" : Str)) = false := by decide) : PMk X (.Call (.Name x p) [] [] pos) (fun _ H Q => Q (.ref C) none H) := by
  intro pins s σ H Q I h
  refine wpAny_Call_Name_kw (ld_glob I hg gC ?_ hdb)
  refine PySem.W.callWith_K0 I.kIn kC ?_
  show wpAny _ _ (call (.ref C) []) _ _ _
  obtain ⟨bm, N, nm, qn, bs, hdct, sn, sub, ab, col, dd, k0, k1, k2, k3, k5, mN, hC, hN, hni, T⟩ := exc_obj I.kIn q
  refine wpAny_call_exc_subT F T hC hN hni (fun h' e hm => ?_) (Nat.zero_le _)
  exact mk_of I hm r h (I.hok.gone hm.new)
end
/-- an own exception class over ValueError -/
structure ExOk (K : PySem.W.Frag) (mg : Str → Option Value) (x : Str) (C : Addr) : Prop where
  ex : PySem.W.excIn K C [.type "ValueError", .type "Exception", .type "BaseException", .type "object"] "ValueError.__new__" = true
  g : mg x = some (.ref C)
  kp : PySem.W.keepIn K (.ref C) = true
  bp : PySem.W.subIn K (.ref C) (.type "BaseException") = some true
  tp : PySem.W.typeIn K (.ref C) = some (.type "type")
  hd : PySem.W.hasDictIn K C = true
theorem ExOk.exm {K : PySem.W.Frag} {mg : Str → Option Value} {x : Str} {C : Addr} {cls : Value} {b : Bool} (e : ExOk K mg x C) (h : PySem.W.subIn K cls (.ref C) = some b) : PySem.W.exmOne K cls (.ref C) = some b := PySem.W.exm_ref e.bp e.hd e.tp h
theorem pmk_ok {X : Cx} {x : Str} {C : Addr} {p pos : Pos} (e : ExOk X.K X.mg x C) (hg : Gl X x) (hdb : (x == ("__debug__" : Str)) = false := by decide) : PMk X (.Call (.Name x p) [] [] pos) (fun _ H Q => Q (.ref C) none H) :=
  pmk_own0 PySem.F.excBase_ValueError e.ex e.g e.kp (raises_own e.bp e.tp) hg hdb
/-! the promises of such defs -/
structure CalX (P : Program) (w : World) (K : PySem.W.Frag) (mg : Str → Option Value) (base : Heap) (k : Nat) (x : Str) (sp : Sp) : Prop where
  ex : ∃ (f : Addr) (fd : FuncData) (ps : List Str), FnOk P w K mg base (L2.CX P w) k f fd ps sp ∧ mg x = some (.ref f) ∧ PySem.W.keepIn K (.ref f) = true ∧ Binds K fd ps []
structure MetX (P : Program) (w : World) (K : PySem.W.Frag) (mg : Str → Option Value) (base : Heap) (k : Nat) (C : Addr) (m : Str) (sp : Sp) : Prop where
  ex : ∃ (f : Addr) (fd : FuncData) (ps : List Str), Cls K C ∧ Meth K C m f ∧ FnOk P w K mg base (L2.CX P w) k f fd ps sp ∧ Binds K fd ps []
structure MakX (P : Program) (w : World) (K : PySem.W.Frag) (mg : Str → Option Value) (base : Heap) (k : Nat) (x : Str) (C : Addr) (sp : Sp) : Prop where
  ex : ∃ (f : Addr) (fd : FuncData) (ps : List Str), Mk K C f ∧ FnOk P w K mg base (L2.CX P w) k f fd ps sp ∧ mg x = some (.ref C) ∧ Binds K fd ps []
section
variable {P : Program} {w : World} {K : PySem.W.Frag} {mg : Str → Option Value} {base : Heap}
theorem calX {x : Str} {st : Stmt} {N ps : List Str} {k : Nat} {sp : Sp} (D : DefOk K mg x st ps) (S : FnScope N ps (defScope st)) (len : ∀ vs H Q E, sp vs H Q E → vs.length = ps.length)
    (hbody : ∀ (f : Addr) (cdv : Value) (A : Around) (outer : List Env) (s : Shared) (H : Hp) (vs : List V) (Q : VK) (E : XK), Room k (A.deeper (envOfC x (defScope st) s.heap.objs.size f cdv)) → sp vs H Q E →
      ∃ t, PSs (cxOf (L2.CX P w) P w K mg base N x (defScope st) f cdv A outer s H E) (defBody st) t ∧ t { nx := fun _ H' => Q .non H', rt := Q } (start N vs) H) : CalX P w K mg base (k + 1) x sp := by
  obtain ⟨f, fd, F, hm, b⟩ := D.ex
  exact ⟨f, fd, ps, F.okX S len (fun cdv A outer s H vs Q E hr h => hbody f cdv A outer s H vs Q E hr h), hm, F.kp, b⟩
theorem metX {C : Addr} {m qual : Str} {st : Stmt} {N ps : List Str} {k : Nat} {sp : Sp} (c : Cls K C) (D : MethOk K C m qual st ps) (S : FnScope N ps (defScope st)) (len : ∀ vs H Q E, sp vs H Q E → vs.length = ps.length)
    (hbody : ∀ (f : Addr) (cdv : Value) (A : Around) (outer : List Env) (s : Shared) (H : Hp) (vs : List V) (Q : VK) (E : XK), Room k (A.deeper (envOfC qual (defScope st) s.heap.objs.size f cdv)) → sp vs H Q E →
      ∃ t, PSs (cxOf (L2.CX P w) P w K mg base N qual (defScope st) f cdv A outer s H E) (defBody st) t ∧ t { nx := fun _ H' => Q .non H', rt := Q } (start N vs) H) : MetX P w K mg base (k + 1) C m sp := by
  obtain ⟨f, fd, M, F, b⟩ := D.ex
  exact ⟨f, fd, ps, c, M, F.okX S len (fun cdv A outer s H vs Q E hr h => hbody f cdv A outer s H vs Q E hr h), b⟩
theorem makX {C : Addr} {x qual : Str} {st : Stmt} {N ps : List Str} {k : Nat} {sp : Sp} (hm : mg x = some (.ref C)) (D : MakOk K C qual st ps) (S : FnScope N ps (defScope st)) (len : ∀ vs H Q E, sp vs H Q E → vs.length = ps.length)
    (hbody : ∀ (f : Addr) (cdv : Value) (A : Around) (outer : List Env) (s : Shared) (H : Hp) (vs : List V) (Q : VK) (E : XK), Room k (A.deeper (envOfC qual (defScope st) s.heap.objs.size f cdv)) → sp vs H Q E →
      ∃ t, PSs (cxOf (L2.CX P w) P w K mg base N qual (defScope st) f cdv A outer s H E) (defBody st) t ∧ t { nx := fun _ H' => Q .non H', rt := Q } (start N vs) H) : MakX P w K mg base (k + 1) x C sp := by
  obtain ⟨f, fd, M, F, b⟩ := D.ex
  exact ⟨f, fd, ps, M, F.okX S len (fun cdv A outer s H vs Q E hr h => hbody f cdv A outer s H vs Q E hr h), hm, b⟩
end
/-! their calls: E tells at the slots what is wished of an error -/
section
variable {X : Cx} {k j : Nat} {C : Addr} {x m : Str} {sp : Sp} {p pos apos : Pos} {e o : Expr} {es : List Expr} {ta : TE} {t : TA} {E : L2.St → XK}
theorem pe_cX (c : CalX X.prog X.w X.K X.mg X.base k x sp) (hr : Room j X.A) (hk : k ≤ j) (hg : Gl X x) (hx : ∀ σ, PassesAt (L2.CX X.prog X.w) X σ (E σ)) (ha : PA X (e :: es) t)
    (hdb : (x == ("__debug__" : Str)) = false := by decide) (he : starEach (e :: es) X.env = (false, eval e X.env) :: starEach es X.env := by rfl) (hpl : (backTo pos (starEach es X.env)).any (·.1) = false := by rfl) :
    PE X (.Call (.Name x p) (e :: es) [] pos) (tCallS sp E t) := by
  obtain ⟨f, fd, ps, F, hm, kp, b⟩ := c.ex
  exact pe_callS F (hr.mono hk) hg hm kp b hx ha hdb he hpl
/-- where nothing is raised -/
theorem pe_cXn (c : CalX X.prog X.w X.K X.mg X.base k x sp) (hr : Room j X.A) (hk : k ≤ j) (hg : Gl X x) (ha : PA X (e :: es) t)
    (hdb : (x == ("__debug__" : Str)) = false := by decide) (he : starEach (e :: es) X.env = (false, eval e X.env) :: starEach es X.env := by rfl) (hpl : (backTo pos (starEach es X.env)).any (·.1) = false := by rfl) :
    PE X (.Call (.Name x p) (e :: es) [] pos) (tCall sp [] L2.E0 t) := by
  obtain ⟨f, fd, ps, F, hm, kp, b⟩ := c.ex
  exact pe_call F (hr.mono hk) hg hm kp b .nil passL ha hdb he hpl
def tMethX (C : Addr) (m : Str) (sp : Sp) (E : L2.St → XK) (ta : TE) (t : TA) : TE := fun σ H Q => ta σ H fun x H1 => ∃ a dx fs, x = .ref a ∧ H1 a = some (.ins C dx fs) ∧ fs.lookup m = none ∧ t σ H1 fun vs H2 => sp (.ref a :: vs) H2 Q (E σ)
theorem pe_mtX {pl : Sem Bool} (c : MetX X.prog X.w X.K X.mg X.base k C m sp) (hr : Room j X.A) (hk : k ≤ j) (hx : ∀ σ, PassesAt (L2.CX X.prog X.w) X σ (E σ)) (he : PE X o ta) (ha : PA X (e :: es) t)
    (hst : starEach (e :: es) X.env = (false, eval e X.env) :: starEach es X.env := by rfl) (hpl : (backTo pos (starEach es X.env)).any (·.1) = false := by rfl)
    (ht : eval (.Call (.Attribute o m apos) (e :: es) [] pos) X.env = (do
      let ov ← eval o X.env
      standAt apos.atName
      let (f, first) ← holding [ov] (getMethod ov m pl)
      callWith pos f first (backTo pos (starEach (e :: es) X.env)) (backToKw pos (keywordEach [] X.env))) := by rfl) :
    PE X (.Call (.Attribute o m apos) (e :: es) [] pos) (tMethX C m sp E ta t) := by
  obtain ⟨f, fd, ps, hc, hm, F, b⟩ := c.ex
  refine ⟨fun pins s σ H Q I h => ?_⟩
  refine PySem.W.methodCall_KW (pl := pl) (thn (he.run pins s σ H _ I h) fun u s1 ⟨x, H1, I1, rx, a, dx, fs, ex, ea, l, q⟩ => ?_) ht
  subst ex
  obtain rfl : u = Value.ref a := rx
  refine getmeth_ok I1 ea hc hm l ?_
  refine PySem.W.callWith_K (first := [.ref a]) (h₀ := X.base) I.ok.mod.kin hm.kp (thn (ha.run pos pins s1 σ H1 _ I1 q) fun us s2 ⟨vs, H2, I2, r, q2⟩ => ⟨I2.kIn, ?_⟩) hst hpl
  exact run_fnS (us := .ref a :: us) (vs := .ref a :: vs) F (hr.mono hk) b (hx σ) I2 (.cons rfl r) q2
theorem pe_mtX0 {pl : Sem Bool} (c : MetX X.prog X.w X.K X.mg X.base k C m sp) (hr : Room j X.A) (hk : k ≤ j) (hx : ∀ σ, PassesAt (L2.CX X.prog X.w) X σ (E σ)) (he : PE X o ta)
    (ht : eval (.Call (.Attribute o m apos) [] [] pos) X.env = (do
      let ov ← eval o X.env
      standAt apos.atName
      let (f, first) ← holding [ov] (getMethod ov m pl)
      callWith pos f first (backTo pos (starEach [] X.env)) (backToKw pos (keywordEach [] X.env))) := by rfl) :
    PE X (.Call (.Attribute o m apos) [] [] pos) (tMethX C m sp E ta tNil) := by
  obtain ⟨f, fd, ps, hc, hm, F, b⟩ := c.ex
  refine ⟨fun pins s σ H Q I h => ?_⟩
  refine PySem.W.methodCall_KW (pl := pl) (thn (he.run pins s σ H _ I h) fun u s1 ⟨x, H1, I1, rx, a, dx, fs, ex, ea, l, q⟩ => ?_) ht
  subst ex
  obtain rfl : u = Value.ref a := rx
  refine getmeth_ok I1 ea hc hm l ?_
  exact PySem.W.callWith_K0 (first := [.ref a]) I1.kIn hm.kp (run_fnS (us := [.ref a]) (vs := [.ref a]) F (hr.mono hk) b (hx σ) I1 (.cons rfl .nil) q)
def tMakeX (C : Addr) (sp : Sp) (E : L2.St → XK) (t : TA) : TE := fun σ H Q => t σ H fun vs H1 => ∀ x dx, H1 x = none → H1 dx = none → dx ≠ x → sp (.ref x :: vs) (upd (upd H1 dx (.own x)) x (.ins C dx [])) (fun v H2 => v = .non ∧ Q (.ref x) H2) (E σ)
theorem run_makeX {CX : CXT} {f : Addr} {fd : FuncData} {ps : List Str} {pins : List (Addr × Obj)} {σ : L2.St} {H : Hp} {s : Shared} {Q : VK} {us : List Value} {vs : List V} {Eσ : XK} (M : Mk X.K C f) (F : FnOk X.prog X.w X.K X.mg X.base CX k f fd ps sp) (hr : Room (k + 1) X.A) (hb : Binds X.K fd ps [])
    (hx : PassesAt CX X σ Eσ) (I : Inv X pins σ H s) (r : Vals vs us)
    (h : ∀ x dx, H x = none → H dx = none → dx ≠ x → sp (.ref x :: vs) (upd (upd H dx (.own x)) x (.ins C dx [])) (fun v H2 => v = .non ∧ Q (.ref x) H2) Eσ) :
    wpAny (model X.prog X.w) X.A (call (.ref C) us) (EP X pins σ Q) X.xe s := by
  have hq := h (s.heap.objs.size + 1) s.heap.objs.size (I.hok.fresh (Nat.le_succ _)) (I.hok.fresh (Nat.le_refl _)) (Nat.ne_of_lt (Nat.lt_succ_self _))
  have I2 := Inv.made (C := C) I
  have r2 : Vals (V.ref (s.heap.objs.size + 1) :: vs) (Value.ref (s.heap.objs.size + 1) :: us) := .cons rfl r
  have hl : (Value.ref (s.heap.objs.size + 1) :: us ++ ([] : List Value)).length = ps.length := by
    have e := r2.length
    rw [F.len _ _ _ _ hq] at e
    rw [List.append_nil]
    exact e.symm
  have hb' := hb _ (Value.ref (s.heap.objs.size + 1) :: us) I2.kIn hl
  rw [List.append_nil] at hb'
  refine wpAny_call (make_map (f := f) I.kIn M.makes M.init (beq_iff_eq.mp M.fn) (codeAny_mono (F.run _ X.stack _ _ ⟨Value.ref (s.heap.objs.size + 1) :: us, []⟩ (Value.ref (s.heap.objs.size + 1) :: us) _ _ Eσ (hr.make C us [])
    (I2.env0.make C us []) hb' r2 hq) fun r s' hq' => ?_))
  cases r with
  | error e => exact hx pins _ _ e s' I2 hq'
  | ok fl =>
    cases fl with
    | ret u =>
      obtain ⟨v, H', I3, rv, ev, q3⟩ := I2.after hq'
      subst ev
      exact ⟨rv, ⟨V.ref (s.heap.objs.size + 1), H', I3, rfl, q3⟩⟩
    | next => exact False.elim hq'
    | brk => exact False.elim hq'
    | cont => exact False.elim hq'
theorem pe_mkX (c : MakX X.prog X.w X.K X.mg X.base k x C sp) (hr : Room j X.A) (hk : k + 1 ≤ j) (hg : Gl X x) (hx : ∀ σ, PassesAt (L2.CX X.prog X.w) X σ (E σ)) (ha : PA X (e :: es) t)
    (hdb : (x == ("__debug__" : Str)) = false := by decide) (he : starEach (e :: es) X.env = (false, eval e X.env) :: starEach es X.env := by rfl) (hpl : (backTo pos (starEach es X.env)).any (·.1) = false := by rfl) :
    PE X (.Call (.Name x p) (e :: es) [] pos) (tMakeX C sp E t) := by
  obtain ⟨f, fd, ps, M, F, hm, b⟩ := c.ex
  refine ⟨fun pins s σ H Q I h => ?_⟩
  refine wpAny_Call_Name_kw (ld_glob I hg hm ?_ hdb)
  refine PySem.W.callWith_K (h₀ := X.base) I.ok.mod.kin M.kp (thn (ha.run pos pins s σ H _ I h) fun us s1 ⟨vs, H1, I1, r, q⟩ => ⟨I1.kIn, ?_⟩) he hpl
  exact run_makeX M F (hr.mono hk) b (hx σ) I1 r q
/-- where nothing is let out: for the calls above in a def without errors -/
theorem no_pass : ∀ σ : L2.St, PassesAt (L2.CX X.prog X.w) X σ ((fun _ => L2.E0) σ) := fun σ pins H s e s' I c => passL pins σ H s e s' I c
end
/-- a for's body that is one try: kept together, so that for_it can name it -/
def tBody (t : TS) : TS := t
theorem pss_body {X : Cx} {b : List Stmt} {t : TS} (h : PSs X b t) : PSs X b (tBody t) := h

/-! ### several except clauses, some of them with a name -/
abbrev Suite := Addr → Value → Option Addr → L2.TS
/-- the ends behind a suite whose clause has a name at i: the name is gone -/
def offN (i : Nat) (D : L2.Ends) : L2.Ends := { nx := fun σ H => D.nx (σ.set i none) H, rt := D.rt, bk := fun σ H => D.bk (σ.set i none) H, ct := fun σ H => D.ct (σ.set i none) H }
def wNm (K : PySem.W.Frag) (Wout : L2.WX) (D : L2.Ends) : List (Value × Option Nat × Suite) → L2.WX
  | [] => Wout
  | (c, none, ts) :: r => fun cls d σ H => ∃ b, PySem.W.exmOne K cls c = some b ∧ (b = true → ∀ a, H a = none → ts a cls d D σ H) ∧ (b = false → wNm K Wout D r cls d σ H)
  | (c, some i, ts) :: r => fun cls d σ H => ∃ b, PySem.W.exmOne K cls c = some b ∧ (b = true → ∀ a, H a = none → ts a cls d (offN i D) (σ.set i (some (.ref a))) H) ∧ (b = false → wNm K Wout D r cls d σ H)
inductive Hds (X : Cx) : List ExceptHandler → List (Value × Option Nat × Suite) → Prop
  | nil : Hds X [] []
  | one {x : Str} {c : Value} {ts : Suite} {b₀ : Stmt} {suite : List Stmt} {np p : Pos} {hds : List ExceptHandler} {l : List (Value × Option Nat × Suite)} (hc : L2.Names X x c)
      (hsu : ∀ (a : Addr) (oe : Obj) (cls : Value) (d : Option Addr) (pn : List (Addr × Obj)), L2.Zc cls d oe → (∃ vs, oe.data = .fields vs) → PSs (X.suite a ((a, oe) :: pn)) (b₀ :: suite) (ts a cls d)) (r : Hds X hds l) :
      Hds X (.ExceptHandler (some (.Name x np)) none (b₀ :: suite) p :: hds) ((c, none, ts) :: l)
  | nm {x n : Str} {i : Nat} {c : Value} {ts : Suite} {b₀ : Stmt} {suite : List Stmt} {np p : Pos} {hds : List ExceptHandler} {l : List (Value × Option Nat × Suite)} (hc : L2.Names X x c) (hi : X.N[i]? = some n) (hln : X.env.kindOf n = some .local)
      (hsu : ∀ (a : Addr) (oe : Obj) (cls : Value) (d : Option Addr) (pn : List (Addr × Obj)), L2.Zc cls d oe → (∃ vs, oe.data = .fields vs) → PSs (X.suite a ((a, oe) :: pn)) (b₀ :: suite) (ts a cls d)) (r : Hds X hds l) :
      Hds X (.ExceptHandler (some (.Name x np)) (some n) (b₀ :: suite) p :: hds) ((c, some i, ts) :: l)
section
variable {X : Cx} {body : List Stmt} {h₀ : ExceptHandler} {hds : List ExceptHandler} {l : List (Value × Option Nat × Suite)} {pos : Pos} {tb : L2.WX → L2.TS} {Wout : L2.WX}
theorem ps_try_nm (hs : X.stack = X.env :: X.outer) (hf : X.env.frame = some X.env.locals) (hN : X.N.Nodup) (tk : L2.Takes X Wout)
    (hb : ∀ (W : L2.WX) (pn : List (Addr × Obj)) (xe : Value → Shared → Prop), L2.Takes (X.tr pn xe) W → PassesOwn (model X.prog X.w) X.A X.env xe → PSs (X.tr pn xe) body (tb W))
    (hh : Hds X (h₀ :: hds) l) : PS X (.Try body (h₀ :: hds) [] [] pos) (fun D σ H => tb (wNm X.K Wout D l) D σ H) := by
  refine ⟨fun pins s σ H D I h => wpAny_Try_except ?_⟩
  have ok := I.ok
  have hfr : X.A.frames = some (X.env :: X.outer) := by rw [ok.frames, hs]
  refine wpAny_mono ((hb (wNm X.K Wout D l) (X.pn ++ pins) (fun e s₁ => wpAny (model X.prog X.w) X.A (noteFrame e X.env) (fun _ s₂ => wpAny (model X.prog X.w) X.A (setFlight e none) (fun _ s₃ =>
    wpAny (model X.prog X.w) X.A (handleBy e X.env (h₀ :: hds)) (SP X pins D) X.xe s₃) X.xe s₂) X.xe s₁) (fun u s' xx => ?_) PassesOwn.looking).run [] s σ H D (I.toTry _) h) (fun f s1 fin => ?_) (fun _ _ z => z)
  · obtain ⟨a, B, sI, pins', σ', H', cls, d, rfl, J', nb, up, sky, na, os, ag, want⟩ := xx
    have J : Inv X pins σ' H' sI := J'.ofTry ok
    rw [hs] at sky
    show wpAny (model X.prog X.w) X.A (noteFrame (.ref a) X.env) _ _ _
    refine L2.Sky.land L2.Zc.steady hfr hf sky fun h3 fl3 up3 => ?_
    have J3 : Inv X pins σ' H' { s' with heap := h3 } := J.landed nb fl3.1 (up.trans up3) os ag
    obtain ⟨oe3, vs3, he3, hz3, hd3⟩ := fl3.there
    have out : a ∉ frs (X.env :: X.outer) := fun hm => by
      obtain ⟨_, o', e', far⟩ := fl3.2.2.1.mem hm
      rw [he3] at e'; cases e'
      exact far _ hd3
    have nL : a ≠ X.env.locals := fun z => out (List.mem_filterMap.mpr ⟨X.env, List.mem_cons_self, by rw [hf, z]⟩)
    have nF : a ∉ X.fs := fun hm => by
      obtain ⟨e, he, q⟩ := List.mem_filterMap.mp hm
      exact out (List.mem_filterMap.mpr ⟨e, List.mem_cons_of_mem _ he, q⟩)
    have S3 := J3.suite he3 hd3 na nL nF
    have test : ∀ {x : Str} {c : Value} {np : Pos} {Q E : Value → Shared → Prop}, L2.Names X x c → Q c { s' with heap := h3 } → wpAny (model X.prog X.w) (X.A.mark (some (.ref a))) (eval (.Name x np) X.env) Q E { s' with heap := h3 } := fun {x c np Q E} hc q => by
      obtain ⟨hg, hdbg, hm | ⟨hm, hv, hnn⟩⟩ := hc
      · exact ld_glob (X := X.suite a ((a, oe3) :: (X.pn ++ pins))) S3 hg hm q hdbg
      · exact ld_blt (X := X.suite a ((a, oe3) :: (X.pn ++ pins))) S3 hg hm hv q hnn hdbg
    have LT : PySem.W.Looks (model X.prog X.w) h3 (typeOf (.ref a)) cls := fun A Q E s k q => wpAny_typeOf_ref (k _ _ he3) (by rw [hz3.1]; exact q)
    have along : ∀ {hs' : List ExceptHandler} {l' : List (Value × Option Nat × Suite)}, Hds X hs' l' → wNm X.K Wout D l' cls d σ' H' →
        wpAny (model X.prog X.w) X.A (handleBy (.ref a) X.env hs') (SP X pins D) X.xe { s' with heap := h3 } := by
      intro hs' l' hk
      induction hk with
      | nil =>
        intro want
        refine wpAny_handleBy_nil ?_
        obtain ⟨_, _, _, _, _, T, _, _, he, _, hd, h1, _⟩ := id fl3
        unfold PySem.passOn
        refine wpAny_bind (wpAny_field he hd h1 ?_)
        rw [if_neg (show ¬ ((Value.ref T == Value.none) = true) from by simp)]
        have gone : wpAny (model X.prog X.w) X.A (setFlight (.ref a) X.env.frame) (fun _ s4 => wpAny (model X.prog X.w) X.A (throw (.ref a) : Sem Flow) (SP X pins D) X.xe s4) X.xe { s' with heap := h3 } := by
          rw [hf]
          exact HandSPX.setFlight_upZ fl3 fun h4 hh4 up4 => wpAny_throw (tk _ _ ⟨a, B, sI, pins, σ', H', cls, d, rfl, J, nb, (up.trans up3).trans up4, .inr (.inr (by rw [hs]; exact hh4)), na, os, ag, want⟩)
        first
          | exact wpAny_bind (wpAny_pure (wpAny_bind gone))
          | exact wpAny_bind gone
      | @one x c ts b₀ suite np p hs2 l2 hc hsu r ih =>
        intro want
        obtain ⟨b, hb1, yes, no⟩ := want
        refine wpAny_handleBy_cons (codeAny_handlers_test (test hc ((PySem.W.exm_one (M := model X.prog X.w) J3.kIn LT hb1).here ?_))) (by intro q; cases q)
        cases b with
        | false => exact ih (no rfl)
        | true =>
          refine codeAny_handlers_suite (HandSPX.lands_againZ fl3 fun h4 fl4 up4 => ?_)
          have J4 : Inv X pins σ' H' { s' with heap := h4 } := J.landed nb fl4.1 ((up.trans up3).trans up4) os ag
          obtain ⟨oe4, vs4, he4, hz4, hd4⟩ := fl4.there
          refine wpAny_mono ((hsu a oe4 cls d (X.pn ++ pins) hz4 ⟨_, hd4⟩).run [] _ _ H' _ (J4.suite he4 hd4 na nL nF) (yes rfl a na)) (fun f s6 end6 => ?_) (fun _ _ z => False.elim z)
          cases f with
          | next => obtain ⟨_, _, S6, q6⟩ := end6; exact ⟨_, _, S6.unsuite ok, q6⟩
          | brk => obtain ⟨_, _, S6, q6⟩ := end6; exact ⟨_, _, S6.unsuite ok, q6⟩
          | cont => obtain ⟨_, _, S6, q6⟩ := end6; exact ⟨_, _, S6.unsuite ok, q6⟩
          | ret u => obtain ⟨_, _, _, S6, r6, q6⟩ := end6; exact ⟨_, _, _, S6.unsuite ok, r6, q6⟩
      | @nm x n i c ts b₀ suite np p hs2 l2 hc hi hln hsu r ih =>
        intro want
        obtain ⟨b, hb1, yes, no⟩ := want
        refine wpAny_handleBy_cons (codeAny_handlers_test (test hc ((PySem.W.exm_one (M := model X.prog X.w) J3.kIn LT hb1).here ?_))) (by intro q; cases q)
        cases b with
        | false => exact ih (no rfl)
        | true =>
          refine codeAny_handlers_suite_as (HandSPX.lands_againZ fl3 fun h4 fl4 up4 => ?_)
          have J4 : Inv X pins σ' H' { s' with heap := h4 } := J.landed nb fl4.1 ((up.trans up3).trans up4) os ag
          obtain ⟨oe4, vs4, he4, hz4, hd4⟩ := fl4.there
          refine store_ok (X := X.suite a ((a, oe4) :: (X.pn ++ pins))) (v := .ref a) (J4.suite he4 hd4 na nL nF) hN hi (.inl hln) rfl (fun s5 S5 => ?_) (.inr hln)
          refine wpAny_mono ((hsu a oe4 cls d (X.pn ++ pins) hz4 ⟨_, hd4⟩).run [] s5 _ H' _ S5 (yes rfl a na)) (fun f s6 end6 => ?_) (fun _ _ z => False.elim z)
          have wiped : ∀ {σ6 : L2.St} {H6 : Hp} {Q : Shared → Prop}, Inv (X.suite a ((a, oe4) :: (X.pn ++ pins))) [] σ6 H6 s6 → (∀ s7, Inv X pins (σ6.set i none) H6 s7 → Q s7) →
              wpAny (model X.prog X.w) X.A (do bindName X.env n .none; unbindBehindTheSuite X.env n p) (fun _ s7 => Q s7) X.xe s6 := fun S6 go => gone_ok (S6.unsuite ok) hN hi hln go
          cases f with
          | next => obtain ⟨_, _, S6, q6⟩ := end6; exact wiped S6 fun s7 J7 => ⟨_, _, J7, q6⟩
          | brk => obtain ⟨_, _, S6, q6⟩ := end6; exact wiped S6 fun s7 J7 => ⟨_, _, J7, q6⟩
          | cont => obtain ⟨_, _, S6, q6⟩ := end6; exact wiped S6 fun s7 J7 => ⟨_, _, J7, q6⟩
          | ret u => obtain ⟨_, _, _, S6, r6, q6⟩ := end6; exact wiped S6 fun s7 J7 => ⟨_, _, _, J7, r6, q6⟩
    exact along hh want
  · cases f with
    | next => obtain ⟨_, _, J', q⟩ := fin; exact wpAny_execs_nil ⟨_, _, J'.ofTry ok, q⟩
    | brk => obtain ⟨_, _, J', q⟩ := fin; exact ⟨_, _, J'.ofTry ok, q⟩
    | cont => obtain ⟨_, _, J', q⟩ := fin; exact ⟨_, _, J'.ofTry ok, q⟩
    | ret u => obtain ⟨_, _, _, J', r, q⟩ := fin; exact ⟨_, _, _, J'.ofTry ok, r, q⟩
end
theorem kit_ownF {K : PySem.W.Frag} {B C : Addr} (h1 : PySem.W.subIn K (.ref C) (.type "BaseException") = some true) (h2 : PySem.W.typeIn K (.ref C) = some (.type "type")) (h3 : PySem.W.subIn K (.ref B) (.ref C) = some false) (h4 : PySem.W.subIn K (.ref C) (.ref C) = some true) : PySem.W.kitOne K (.ref B) (.ref C) = some false := by
  have h0 : (PySem.W.clsIn K C).isSome = true := by
    have h1 : PySem.W.mroIn K C (.type "BaseException") = some true := h1
    unfold PySem.W.mroIn at h1
    cases e : PySem.W.clsIn K C with
    | some _ => rfl
    | none => rw [e] at h1; cases h1
  have ne : ((Value.ref B : Value) == .ref C) = false := by
    refine Bool.eq_false_iff.mpr fun z => ?_
    have z := eq_of_beq z
    rw [z, h4] at h3; cases h3
  unfold PySem.W.kitOne
  rw [if_neg (by rw [ne]; exact Bool.false_ne_true)]
  show (if ((PySem.W.clsIn K C).isSome && PySem.W.typeIn K (.ref C) == some (.type "type")) = true then PySem.W.subIn K (.ref B) (.ref C) else none) = some false
  rw [h0, h2, h3]
  rfl
theorem call_isE2 {X : Cx} {a D : Addr} {cls : Value} {d : Option Addr} {oe : Obj} {pn : List (Addr × Obj)} (C : ExcC X.K D) (hz : Zc cls d oe) (hf : ∃ vs, oe.data = .fields vs) :
    CallR (X.suite a ((a, oe) :: pn)) (.builtin "isinstance") (fun xs H Q => (cls = .ref D ∧ d = none) ∧ rIsE X.K D a xs H Q) := fun pins s σ H xs us Q I hv ⟨⟨h1, h2⟩, h⟩ => by
  subst h1; subst h2
  exact call_isE C hz hf pins s σ H xs us Q I hv h
theorem klo {X : Cx} {K : PySem.W.Frag} (h : X.K = K := by rfl) : CallR X (.type "list") (fun xs H Q => ∃ p ys, xs = [.ref p] ∧ (SqL K H p ys ∨ SqT K H p ys) ∧ ∀ l, H l = none → Q (.ref l) (upd H l (.lst ys))) := by subst h; exact call_list_of

def topS (i : Nat) : Stmt := PySem.Challenge.pw_oathledger_k16_disk_operations.main.body.getD i (.Pass ⟨0, 0, 0, 0⟩)
abbrev s_is_integer : Stmt := topS 5
theorem sc_is_integer : FnScope ["value", "least", "greatest"] ["value", "least", "greatest"] (defScope s_is_integer) := ⟨rfl, rfl, rfl, by decide +kernel, rfl, by decide +kernel, by decide +kernel⟩
abbrev s_Disk____init__ : Stmt := inClass (topS 8) 0
theorem sc_Disk____init__ : FnScope ["self", "size"] ["self", "size"] (defScope s_Disk____init__) := ⟨rfl, rfl, rfl, by decide +kernel, rfl, by decide +kernel, by decide +kernel⟩
abbrev s_Disk__size : Stmt := inClass (topS 8) 1
theorem sc_Disk__size : FnScope ["self"] ["self"] (defScope s_Disk__size) := ⟨rfl, rfl, rfl, by decide +kernel, rfl, by decide +kernel, by decide +kernel⟩
abbrev s_Disk__read : Stmt := inClass (topS 8) 2
theorem sc_Disk__read : FnScope ["self", "index"] ["self", "index"] (defScope s_Disk__read) := ⟨rfl, rfl, rfl, by decide +kernel, rfl, by decide +kernel, by decide +kernel⟩
abbrev s_Disk__write : Stmt := inClass (topS 8) 3
theorem sc_Disk__write : FnScope ["self", "index", "text"] ["self", "index", "text"] (defScope s_Disk__write) := ⟨rfl, rfl, rfl, by decide +kernel, rfl, by decide +kernel, by decide +kernel⟩
abbrev s_Disk__sync : Stmt := inClass (topS 8) 4
theorem sc_Disk__sync : FnScope ["self"] ["self"] (defScope s_Disk__sync) := ⟨rfl, rfl, rfl, by decide +kernel, rfl, by decide +kernel, by decide +kernel⟩
abbrev s_Disk__pending : Stmt := inClass (topS 8) 5
theorem sc_Disk__pending : FnScope ["self", "index", "_"] ["self"] (defScope s_Disk__pending) := ⟨rfl, rfl, rfl, by decide +kernel, rfl, by decide +kernel, by decide +kernel⟩
abbrev s_Disk__arm : Stmt := inClass (topS 8) 6
theorem sc_Disk__arm : FnScope ["self", "operations"] ["self", "operations"] (defScope s_Disk__arm) := ⟨rfl, rfl, rfl, by decide +kernel, rfl, by decide +kernel, by decide +kernel⟩
abbrev s_Disk__crash : Stmt := inClass (topS 8) 7
theorem sc_Disk__crash : FnScope ["self", "survivors", "index", "text", "survives"] ["self", "survivors"] (defScope s_Disk__crash) := ⟨rfl, rfl, rfl, by decide +kernel, rfl, by decide +kernel, by decide +kernel⟩
abbrev s_Disk__image : Stmt := inClass (topS 8) 8
theorem sc_Disk__image : FnScope ["self"] ["self"] (defScope s_Disk__image) := ⟨rfl, rfl, rfl, by decide +kernel, rfl, by decide +kernel, by decide +kernel⟩
abbrev s_Disk___check_running : Stmt := inClass (topS 8) 9
theorem sc_Disk___check_running : FnScope ["self"] ["self"] (defScope s_Disk___check_running) := ⟨rfl, rfl, rfl, by decide +kernel, rfl, by decide +kernel, by decide +kernel⟩
abbrev s_Disk___check_sector : Stmt := inClass (topS 8) 10
theorem sc_Disk___check_sector : FnScope ["self", "index"] ["self", "index"] (defScope s_Disk___check_sector) := ⟨rfl, rfl, rfl, by decide +kernel, rfl, by decide +kernel, by decide +kernel⟩
abbrev s_Disk___begin_operation : Stmt := inClass (topS 8) 11
theorem sc_Disk___begin_operation : FnScope ["self"] ["self"] (defScope s_Disk___begin_operation) := ⟨rfl, rfl, rfl, by decide +kernel, rfl, by decide +kernel, by decide +kernel⟩
abbrev s__law_cell : Stmt := topS 10
theorem sc__law_cell : FnScope ["script", "k"] ["script", "k"] (defScope s__law_cell) := ⟨rfl, rfl, rfl, by decide +kernel, rfl, by decide +kernel, by decide +kernel⟩
abbrev s__law_text : Stmt := topS 11
theorem sc__law_text : FnScope ["cell", "size", "chars", "k"] ["cell", "size"] (defScope s__law_text) := ⟨rfl, rfl, rfl, by decide +kernel, rfl, by decide +kernel, by decide +kernel⟩
abbrev s__law_survivors : Stmt := topS 12
theorem sc__law_survivors : FnScope ["cell", "many", "survivors", "k"] ["cell", "many"] (defScope s__law_survivors) := ⟨rfl, rfl, rfl, by decide +kernel, rfl, by decide +kernel, by decide +kernel⟩
abbrev s__law_act : Stmt := topS 13
theorem sc__law_act : FnScope ["disk", "deed", "error"] ["disk", "deed"] (defScope s__law_act) := ⟨rfl, rfl, rfl, by decide +kernel, rfl, by decide +kernel, by decide +kernel⟩
abbrev s__law_operate : Stmt := topS 14
theorem sc__law_operate : FnScope ["state"] ["state"] (defScope s__law_operate) := ⟨rfl, rfl, rfl, by decide +kernel, rfl, by decide +kernel, by decide +kernel⟩
abbrev s__law_expect : Stmt := topS 15
theorem sc__law_expect : FnScope ["state", "deed", "k"] ["state", "deed"] (defScope s__law_expect) := ⟨rfl, rfl, rfl, by decide +kernel, rfl, by decide +kernel, by decide +kernel⟩
abbrev s__law_deed : Stmt := topS 16
theorem sc__law_deed : FnScope ["cell", "size", "kind", "index", "length"] ["cell", "size"] (defScope s__law_deed) := ⟨rfl, rfl, rfl, by decide +kernel, rfl, by decide +kernel, by decide +kernel⟩
abbrev s__law_agrees : Stmt := topS 17
theorem sc__law_agrees : FnScope ["disk", "state", "size", "write"] ["disk", "state", "size"] (defScope s__law_agrees) := ⟨rfl, rfl, rfl, by decide +kernel, rfl, by decide +kernel, by decide +kernel⟩
abbrev s__law_refuses : Stmt := topS 18
theorem sc__law_refuses : FnScope ["size"] ["size"] (defScope s__law_refuses) := ⟨rfl, rfl, rfl, by decide +kernel, rfl, by decide +kernel, by decide +kernel⟩
abbrev s_law : Stmt := topS 19
theorem sc_law : FnScope ["script", "size", "disk", "state", "cell", "deed", "expected", "actual", "handed"] ["script"] (defScope s_law) := ⟨rfl, rfl, rfl, by decide +kernel, rfl, by decide +kernel, by decide +kernel⟩
structure Txt (K : PySem.W.Frag) (mg : Str → Option Value) (C_Disk : Addr) (C_DiskError : Addr) (C_DiskCrashed : Addr) : Prop where
  d_is_integer : DefOk K mg "is_integer" s_is_integer ["value", "least", "greatest"]
  d__law_cell : DefOk K mg "_law_cell" s__law_cell ["script", "k"]
  d__law_text : DefOk K mg "_law_text" s__law_text ["cell", "size"]
  d__law_survivors : DefOk K mg "_law_survivors" s__law_survivors ["cell", "many"]
  d__law_act : DefOk K mg "_law_act" s__law_act ["disk", "deed"]
  d__law_operate : DefOk K mg "_law_operate" s__law_operate ["state"]
  d__law_expect : DefOk K mg "_law_expect" s__law_expect ["state", "deed"]
  d__law_deed : DefOk K mg "_law_deed" s__law_deed ["cell", "size"]
  d__law_agrees : DefOk K mg "_law_agrees" s__law_agrees ["disk", "state", "size"]
  d__law_refuses : DefOk K mg "_law_refuses" s__law_refuses ["size"]
  d_law : DefOk K mg "law" s_law ["script"]
  cl_Disk : Cls K C_Disk
  g_Disk : mg "Disk" = some (.ref C_Disk)
  na_Disk__durable : NoAttr K C_Disk "_durable"
  na_Disk__current : NoAttr K C_Disk "_current"
  na_Disk__writes : NoAttr K C_Disk "_writes"
  na_Disk__passing : NoAttr K C_Disk "_passing"
  na_Disk__crashed : NoAttr K C_Disk "_crashed"
  mk_Disk : MakOk K C_Disk "Disk.__init__" s_Disk____init__ ["self", "size"]
  me_Disk__size : MethOk K C_Disk "size" "Disk.size" s_Disk__size ["self"]
  me_Disk__read : MethOk K C_Disk "read" "Disk.read" s_Disk__read ["self", "index"]
  me_Disk__write : MethOk K C_Disk "write" "Disk.write" s_Disk__write ["self", "index", "text"]
  me_Disk__sync : MethOk K C_Disk "sync" "Disk.sync" s_Disk__sync ["self"]
  me_Disk__pending : MethOk K C_Disk "pending" "Disk.pending" s_Disk__pending ["self"]
  me_Disk__arm : MethOk K C_Disk "arm" "Disk.arm" s_Disk__arm ["self", "operations"]
  me_Disk__crash : MethOk K C_Disk "crash" "Disk.crash" s_Disk__crash ["self", "survivors"]
  me_Disk__image : MethOk K C_Disk "image" "Disk.image" s_Disk__image ["self"]
  me_Disk___check_running : MethOk K C_Disk "_check_running" "Disk._check_running" s_Disk___check_running ["self"]
  me_Disk___check_sector : MethOk K C_Disk "_check_sector" "Disk._check_sector" s_Disk___check_sector ["self", "index"]
  me_Disk___begin_operation : MethOk K C_Disk "_begin_operation" "Disk._begin_operation" s_Disk___begin_operation ["self"]
  x_DiskError : ExOk K mg "DiskError" C_DiskError
  x_DiskCrashed : ExOk K mg "DiskCrashed" C_DiskCrashed
  ec_DiskCrashed : ExcC K C_DiskCrashed
  kt_DiskCrashed_DiskError : PySem.W.kitOne K (.ref C_DiskCrashed) (.ref C_DiskError) = some false
  u_DiskError_DiskError : PySem.W.subIn K (.ref C_DiskError) (.ref C_DiskError) = some true
  u_DiskCrashed_DiskCrashed : PySem.W.subIn K (.ref C_DiskCrashed) (.ref C_DiskCrashed) = some true
  u_DiskError_DiskCrashed : PySem.W.subIn K (.ref C_DiskError) (.ref C_DiskCrashed) = some false
  u_DiskCrashed_DiskError : PySem.W.subIn K (.ref C_DiskCrashed) (.ref C_DiskError) = some false
  c_SECTOR_SIZE : ∃ u, mg "SECTOR_SIZE" = some u ∧ RelV (.int 96) u
  z_bool : mg "bool" = none
  z_int : mg "int" = none
  z_isinstance : mg "isinstance" = none
  z_len : mg "len" = none
  z_list : mg "list" = none
  z_min : mg "min" = none
  z_range : mg "range" = none
  z_str : mg "str" = none
  z_zip : mg "zip" = none
set_option pp.maxSteps 150
/-! ### the draws of a script -/
def Dr (H : Hp) (D A : Addr) : Prop := D ≠ A ∧ ∃ (ds : List Int) (n : Nat), H D = some (.lst (ds.map V.int)) ∧ H A = some (.lst [.int n]) ∧ (∀ d ∈ ds, 0 ≤ d ∧ d < 1000) ∧ ds.length ≤ 2520
/-- all that was tracked but A is as it was -/
def Mod (A : Addr) (H H' : Hp) : Prop := ∀ b o, b ≠ A → H b = some o → H' b = some o
theorem Mod.refl {A : Addr} {H : Hp} : Mod A H H := fun _ _ _ h => h
theorem Mod.trans {A : Addr} {H H1 H2 : Hp} (a : Mod A H H1) (b : Mod A H1 H2) : Mod A H H2 := fun c o n h => b c o n (a c o n h)
theorem Same.mod {A : Addr} {H H' : Hp} (s : Same H H') : Mod A H H' := fun b o _ h => s b o h
theorem Mod.new {A p : Addr} {o : HO} {H H' : Hp} (s : Mod A H H') (h : H' p = none) : Mod A H (upd H' p o) := fun b u n e => by
  rw [upd_ne (ne_of_none (s b u n e) h)]
  exact s b u n e
theorem Dr.new {D A p : Addr} {o : HO} {H : Hp} (d : Dr H D A) (h : H p = none) : Dr (upd H p o) D A := by
  obtain ⟨ne, ds, n, h1, h2, h3⟩ := d
  exact ⟨ne, ds, n, by rw [upd_ne (ne_of_none h1 h)]; exact h1, by rw [upd_ne (ne_of_none h2 h)]; exact h2, h3⟩
theorem Dr.same {D A : Addr} {H H' : Hp} (d : Dr H D A) (s : Same H H') : Dr H' D A := by
  obtain ⟨ne, ds, n, h1, h2, h3⟩ := d
  exact ⟨ne, ds, n, s _ _ h1, s _ _ h2, h3⟩
/-- an object that is neither D nor A is changed -/
theorem Dr.put {D A p : Addr} {o : HO} {H : Hp} (d : Dr H D A) (h1 : p ≠ D) (h2 : p ≠ A) : Dr (upd H p o) D A := by
  obtain ⟨ne, ds, n, e1, e2, h3⟩ := d
  exact ⟨ne, ds, n, by rw [upd_ne h1.symm]; exact e1, by rw [upd_ne h2.symm]; exact e2, h3⟩
theorem Dr.freshA {D A p : Addr} {H : Hp} (d : Dr H D A) (h : H p = none) : p ≠ A := by
  obtain ⟨_, _, _, _, e, _⟩ := d
  exact (ne_of_none e h).symm
theorem Dr.freshD {D A p : Addr} {H : Hp} (d : Dr H D A) (h : H p = none) : p ≠ D := by
  obtain ⟨_, _, _, e, _⟩ := d
  exact (ne_of_none e h).symm
theorem Mod.free {A p : Addr} {H H' : Hp} (s : Mod A H H') (d : ∃ o, H' A = some o) (h : H' p = none) : H p = none := by
  cases e : H p with
  | none => rfl
  | some o =>
    by_cases hp : p = A
    · subst hp
      obtain ⟨o', e'⟩ := d
      rw [e'] at h; cases h
    · rw [s p o hp e] at h; cases h
theorem Dr.A_in {D A : Addr} {H : Hp} (d : Dr H D A) : ∃ o, H A = some o := by
  obtain ⟨_, _, _, _, e, _⟩ := d
  exact ⟨_, e⟩
theorem rng_app {ds : List Int} {x : Int} (h : ∀ d ∈ ds, 0 ≤ d ∧ d < 1000) (h0 : 0 ≤ x) (h1 : x < 1000) : ∀ d ∈ ds ++ [x], 0 ≤ d ∧ d < 1000 := fun d hd => by
  rcases List.mem_append.mp hd with hd | hd
  · exact h d hd
  · rw [List.mem_singleton.mp hd]; exact ⟨h0, h1⟩

/-! ### drawn numbers and strings -/
def prC (c : Nat) : Bool := decide (32 ≤ c) && decide (c ≤ 126) && decide (c ≠ 37)
def isPr (z : Str) : Bool := z.cps.toList.all prC
theorem app_tl (a b : Str) : (a ++ b).cps.toList = a.cps.toList ++ b.cps.toList := by
  show (a.cps ++ b.cps).toList = _
  rw [Array.toList_append]
theorem len_tl (z : Str) : z.cps.toList.length = z.length := Array.length_toList
theorem isPr_app (a b : Str) : isPr (a ++ b) = (isPr a && isPr b) := by
  unfold isPr
  rw [app_tl, List.all_append]

/-! ### values as data: what stands at them does not change -/
def TupAt (K : PySem.W.Frag) (H : Hp) (a : Addr) (xs : List V) : Prop := H a = some (.tup xs) ∨ KTup K a xs
section
variable {K : PySem.W.Frag}
theorem TupAt.sq {H : Hp} {a : Addr} {xs : List V} (h : TupAt K H a xs) : SqT K H a xs := h.elim SqT.of .inr
theorem TupAt.ty {H : Hp} {a : Addr} {xs : List V} (h : TupAt K H a xs) : TyX K H (.ref a) (.type "tuple") := h.elim (fun h => .base (.tup h)) (fun ⟨_, _, _, h1, h2, _⟩ => .kTuple h1 h2)
theorem TupAt.same {H H' : Hp} {a : Addr} {xs : List V} (h : TupAt K H a xs) (s : Same H H') : TupAt K H' a xs := h.imp (s _ _) id
/-- none of those at A (none: no matter) -/
def NeA (A : Option Addr) (a : Addr) : Prop := match A with | some b => a ≠ b | none => True
mutual
/-- v is the data d; the lists in it are none of those at A -/
inductive Dt (K : PySem.W.Frag) (H : Hp) (A : Option Addr) : V → PyData → Prop
  | non : Dt K H A .non .none
  | bl (b : Bool) : Dt K H A (.bl b) (.bool b)
  | int (i : Int) : Dt K H A (.int i) (.int i)
  | str (z : Str) (h : z.length ≤ 1000000) : Dt K H A (.str z) (.str z)
  | lst {a : Addr} {xs : List V} {ds : List PyData} : NeA A a → H a = some (.lst xs) → DtAll K H A xs ds → Dt K H A (.ref a) (.list ds)
  | tup {a : Addr} {xs : List V} {ds : List PyData} : TupAt K H a xs → DtAll K H A xs ds → Dt K H A (.ref a) (.tuple ds)
inductive DtAll (K : PySem.W.Frag) (H : Hp) (A : Option Addr) : List V → List PyData → Prop
  | nil : DtAll K H A [] []
  | cons {v : V} {vs : List V} {d : PyData} {ds : List PyData} : Dt K H A v d → DtAll K H A vs ds → DtAll K H A (v :: vs) (d :: ds)
end
theorem DtAll.length {H : Hp} {A : Option Addr} : ∀ {xs : List V} {ds : List PyData}, DtAll K H A xs ds → xs.length = ds.length
  | _, _, .nil => rfl
  | _, _, .cons _ r => by rw [List.length_cons, List.length_cons, r.length]
theorem DtAll.get {H : Hp} {A : Option Addr} : ∀ {xs : List V} {ds : List PyData} {i : Nat} {x : V}, DtAll K H A xs ds → xs[i]? = some x → ∃ d, ds[i]? = some d ∧ Dt K H A x d
  | _, _, _, _, .nil, e => by simp at e
  | _, _, 0, x, .cons h _, e => by simp at e; subst e; exact ⟨_, rfl, h⟩
  | _, _, i + 1, x, .cons _ r, e => by
    obtain ⟨d, h1, h2⟩ := r.get (i := i) (x := x) (by simpa using e)
    exact ⟨d, by simpa using h1, h2⟩
theorem DtAll.getD {H : Hp} {A : Option Addr} {xs : List V} {ds : List PyData} {i : Nat} {d : PyData} (h : DtAll K H A xs ds) (e : ds[i]? = some d) : ∃ x, xs[i]? = some x ∧ Dt K H A x d := by
  have hi : i < ds.length := (List.getElem?_eq_some_iff.mp e).1
  have hi' : i < xs.length := by rw [h.length]; exact hi
  obtain ⟨d', h1, h2⟩ := h.get (List.getElem?_eq_getElem hi')
  rw [e] at h1
  cases h1
  exact ⟨_, List.getElem?_eq_getElem hi', h2⟩
mutual
theorem Dt.mod {H H' : Hp} {A D : Addr} (s : Mod A H H') (dr : Dr H D A) : ∀ (d : PyData) (v : V), Dt K H (some A) v d → Dt K H' (some A) v d
  | .none, _, h => by cases h; exact .non
  | .bool b, _, h => by cases h; exact .bl b
  | .int i, _, h => by cases h; exact .int i
  | .str z, _, h => by cases h with | str _ hz => exact .str z hz
  | .list ds, _, h => by cases h with | lst hn ha hd => exact .lst hn (s _ _ hn ha) (DtAll.mod s dr ds _ hd)
  | .tuple ds, _, h => by
    cases h with
    | tup ha hd =>
      obtain ⟨_, _, _, _, e, _⟩ := id dr
      exact .tup (ha.imp (fun ha => s _ _ (ne_of ha e (by intro z; cases z)) ha) id) (DtAll.mod s dr ds _ hd)
  | .dict _, _, h => by cases h
theorem DtAll.mod {H H' : Hp} {A D : Addr} (s : Mod A H H') (dr : Dr H D A) : ∀ (ds : List PyData) (xs : List V), DtAll K H (some A) xs ds → DtAll K H' (some A) xs ds
  | [], _, h => by cases h; exact .nil
  | d :: ds, _, h => by cases h with | cons h1 h2 => exact .cons (Dt.mod s dr d _ h1) (DtAll.mod s dr ds _ h2)
end
mutual
theorem Dt.same {H H' : Hp} {A : Option Addr} (s : Same H H') : ∀ (d : PyData) (v : V), Dt K H A v d → Dt K H' A v d
  | .none, _, h => by cases h; exact .non
  | .bool b, _, h => by cases h; exact .bl b
  | .int i, _, h => by cases h; exact .int i
  | .str z, _, h => by cases h with | str _ hz => exact .str z hz
  | .list ds, _, h => by cases h with | lst hn ha hd => exact .lst hn (s _ _ ha) (DtAll.same s ds _ hd)
  | .tuple ds, _, h => by cases h with | tup ha hd => exact .tup (ha.same s) (DtAll.same s ds _ hd)
  | .dict _, _, h => by cases h
theorem DtAll.same {H H' : Hp} {A : Option Addr} (s : Same H H') : ∀ (ds : List PyData) (xs : List V), DtAll K H A xs ds → DtAll K H' A xs ds
  | [], _, h => by cases h; exact .nil
  | d :: ds, _, h => by cases h with | cons h1 h2 => exact .cons (Dt.same s d _ h1) (DtAll.same s ds _ h2)
end
mutual
/-- data for a comparison -/
theorem Dt.dp {H : Hp} {A : Option Addr} : ∀ (d : PyData) (v : V), Dt K H A v d → Dp K H v d
  | .none, _, h => by cases h; exact .non
  | .bool b, _, h => by cases h; exact .bl b
  | .int i, _, h => by cases h; exact .int i
  | .str z, _, h => by cases h; exact .str z
  | .list ds, _, h => by cases h with | lst hn ha hd => exact .lst (SqL.of ha) (DtAll.dp ds _ hd)
  | .tuple ds, _, h => by cases h with | tup ha hd => exact .tup ha.sq (DtAll.dp ds _ hd)
  | .dict _, _, h => by cases h
theorem DtAll.dp {H : Hp} {A : Option Addr} : ∀ (ds : List PyData) (xs : List V), DtAll K H A xs ds → DpAll K H xs ds
  | [], _, h => by cases h; exact .nil
  | d :: ds, _, h => by cases h with | cons h1 h2 => exact .cons (Dt.dp d _ h1) (DtAll.dp ds _ h2)
end
theorem Dt.on {H H' : Hp} {A : Option Addr} {v : V} {d : PyData} (h : Dt K H A v d) (s : Same H H') : Dt K H' A v d := Dt.same s d v h
theorem DtAll.on {H H' : Hp} {A : Option Addr} {xs : List V} {ds : List PyData} (h : DtAll K H A xs ds) (s : Same H H') : DtAll K H' A xs ds := DtAll.same s ds xs h
theorem Dt.by {H H' : Hp} {A D : Addr} {v : V} {d : PyData} (h : Dt K H (some A) v d) (s : Mod A H H') (dr : Dr H D A) : Dt K H' (some A) v d := Dt.mod s dr d v h
theorem DtAll.by {H H' : Hp} {A D : Addr} {xs : List V} {ds : List PyData} (h : DtAll K H (some A) xs ds) (s : Mod A H H') (dr : Dr H D A) : DtAll K H' (some A) xs ds := DtAll.mod s dr ds xs h
theorem Dt.two {H : Hp} {A : Option Addr} {v : V} {d : PyData} (h : Dt K H A v d) : (∃ a xs ds, v = .ref a ∧ d = .tuple ds ∧ TupAt K H a xs ∧ DtAll K H A xs ds) ∨ (∃ T, TyX K H v (.type T) ∧ kitB T "tuple" = some false ∧ ∀ ds, d ≠ .tuple ds) := by
  cases h with
  | tup ha hx => exact .inl ⟨_, _, _, rfl, rfl, ha, hx⟩
  | str z hz => exact .inr ⟨_, .base (.str z), by decide +kernel, fun _ z => nomatch z⟩
  | int i => exact .inr ⟨_, .base (.int i), by decide +kernel, fun _ z => nomatch z⟩
  | non => exact .inr ⟨_, .base .non, by decide +kernel, fun _ z => nomatch z⟩
  | bl b => exact .inr ⟨_, .base (.bl b), by decide +kernel, fun _ z => nomatch z⟩
  | lst _ ha _ => exact .inr ⟨_, .base (.lst ha), by decide +kernel, fun _ z => nomatch z⟩
/-- the kind of a value -/
def dTy : PyData → String
  | .none => "NoneType" | .bool _ => "bool" | .int _ => "int" | .str _ => "str" | .list _ => "list" | .tuple _ => "tuple" | .dict _ => "dict"
theorem Dt.ty {H : Hp} {A : Option Addr} {v : V} {d : PyData} (h : Dt K H A v d) : TyX K H v (.type (dTy d)) := by
  cases h with
  | non => exact .base .non
  | bl b => exact .base (.bl b)
  | int i => exact .base (.int i)
  | str z _ => exact .base (.str z)
  | lst _ ha _ => exact .base (.lst ha)
  | tup ha _ => exact ha.ty
/-! the predicates of the program, upon data -/
def dInt (lo hi : Int) : PyData → Bool
  | .int i => decide (lo ≤ i ∧ i ≤ hi)
  | _ => false
def dShort (m : Int) : PyData → Bool
  | .str z => isPr z && decide ((z.length : Int) ≤ m)
  | _ => false
def dCmd : PyData → Bool
  | .tuple [c, n, t] => dInt (-100) (-1) c && dInt 1 1000000000000 n && dShort 240 t
  | _ => false
def dClient : PyData → Int
  | .tuple (.int c :: _) => c
  | _ => 0
def dAfter : Option Int → PyData → Bool
  | some k, d => decide (k < dClient d)
  | none, _ => true
def befV : Option Int → V
  | some k => .int k
  | none => .non
def dCmdsFrom : Option Int → List PyData → Bool
  | _, [] => true
  | b, d :: r => dCmd d && dAfter b d && dCmdsFrom (some (dClient d)) r
theorem dCmdsFrom_cons (b : Option Int) (d : PyData) (r : List PyData) : dCmdsFrom b (d :: r) = (dCmd d && dAfter b d && dCmdsFrom (some (dClient d)) r) := by cases b <;> rfl
theorem dCmdsFrom_nil (b : Option Int) : dCmdsFrom b [] = true := by cases b <;> rfl
def dCmds : PyData → Bool
  | .tuple ds => dCmdsFrom none ds
  | _ => false
def dHeight (parent : Int) (h : PyData) : Bool := if parent = 0 then dInt 1 1 h else dInt 2 (parent + 1) h
def dBlock4 (e p h cs : PyData) : Bool := match e, p with
  | .int e, .int p => dInt 1 1000000000000 (.int e) && dInt 0 (e - 1) (.int p) && dHeight p h && dCmds cs
  | _, _ => false
def dBlock : PyData → Bool
  | .tuple [e, p, h, cs] => dBlock4 e p h cs
  | _ => false
def dEmpty : PyData → Bool
  | .tuple [] => true
  | _ => false
def dGen : PyData → Bool
  | .tuple [e, p, h, cs] => dInt 0 0 e && dInt 0 0 p && dInt 0 0 h && dEmpty cs
  | _ => false
theorem DtAll.four {H : Hp} {A : Option Addr} {xs : List V} {ds : List PyData} (h : DtAll K H A xs ds) (hl : xs.length = 4) :
    ∃ x1 x2 x3 x4 d1 d2 d3 d4, xs = [x1, x2, x3, x4] ∧ ds = [d1, d2, d3, d4] ∧ Dt K H A x1 d1 ∧ Dt K H A x2 d2 ∧ Dt K H A x3 d3 ∧ Dt K H A x4 d4 := by
  match xs, ds, h with
  | [_, _, _, _], _, .cons h1 (.cons h2 (.cons h3 (.cons h4 .nil))) => exact ⟨_, _, _, _, _, _, _, _, rfl, rfl, h1, h2, h3, h4⟩
theorem dBlock4_e1 {e p h cs : PyData} (z : dInt 1 1000000000000 e = false) : dBlock4 e p h cs = false := by
  unfold dBlock4
  split
  · rw [z]; rfl
  · rfl
theorem dBlock4_e2 {e : Int} {p h cs : PyData} (z : dInt 0 (e - 1) p = false) : dBlock4 (.int e) p h cs = false := by
  unfold dBlock4
  split
  · rename_i h1
    cases h1
    rw [z, Bool.and_false]; rfl
  · rfl
/-- a predicate of one value, kept by growing heaps -/
def spPred (K : PySem.W.Frag) (A : Option Addr) (f : PyData → Bool) : Sp := fun vs H Q _ => ∃ (v : V) (d : PyData), vs = [v] ∧ Dt K H A v d ∧ ∀ H', Same H H' → Q (.bl (f d)) H'
def spIntD (K : PySem.W.Frag) (A : Option Addr) : Sp := fun vs H Q _ => ∃ (v : V) (d : PyData) (lo hi : Int), vs = [v, .int lo, .int hi] ∧ Dt K H A v d ∧ Q (.bl (dInt lo hi d)) H
def spShortD (K : PySem.W.Frag) (A : Option Addr) : Sp := fun vs H Q _ => ∃ (v : V) (d : PyData) (m : Int), vs = [v, .int m] ∧ Dt K H A v d ∧ ∀ H', Same H H' → Q (.bl (dShort m d)) H'
theorem dInt_inv {lo hi : Int} {d : PyData} (h : dInt lo hi d = true) : ∃ i, d = .int i ∧ lo ≤ i ∧ i ≤ hi := by
  cases d with
  | int i =>
    have h : decide (lo ≤ i ∧ i ≤ hi) = true := h
    exact ⟨i, rfl, (of_decide_eq_true h).1, (of_decide_eq_true h).2⟩
  | none => cases h
  | bool b => cases h
  | str z => cases h
  | list ds => cases h
  | tuple ds => cases h
  | dict k => cases h
theorem dShort_inv {m : Int} {d : PyData} (h : dShort m d = true) : ∃ z : Str, d = .str z ∧ isPr z = true ∧ (z.length : Int) ≤ m := by
  cases d with
  | str z =>
    have h : (isPr z && decide ((z.length : Int) ≤ m)) = true := h
    obtain ⟨h1, h2⟩ := Bool.and_eq_true_iff.mp h
    exact ⟨z, rfl, h1, of_decide_eq_true h2⟩
  | none => cases h
  | bool b => cases h
  | int i => cases h
  | list ds => cases h
  | tuple ds => cases h
  | dict k => cases h
theorem dCmd_inv {d : PyData} (h : dCmd d = true) : ∃ (c n : Int) (t : Str), d = .tuple [.int c, .int n, .str t] ∧ -100 ≤ c ∧ c ≤ -1 ∧ 1 ≤ n ∧ n ≤ 1000000000000 ∧ isPr t = true ∧ (t.length : Int) ≤ 240 := by
  unfold dCmd at h
  split at h
  · rename_i c n t
    rw [Bool.and_eq_true, Bool.and_eq_true] at h
    obtain ⟨⟨h1, h2⟩, h3⟩ := h
    obtain ⟨c, rfl, c0, c1⟩ := dInt_inv h1
    obtain ⟨n, rfl, n0, n1⟩ := dInt_inv h2
    obtain ⟨t, rfl, t0, t1⟩ := dShort_inv h3
    exact ⟨c, n, t, rfl, c0, c1, n0, n1, t0, t1⟩
  · cases h
/-- what a tuple of three ints, ints, texts stands for -/
theorem Dt.three {H : Hp} {A : Option Addr} {v : V} {d1 d2 d3 : PyData} (h : Dt K H A v (.tuple [d1, d2, d3])) : ∃ a x1 x2 x3, v = .ref a ∧ TupAt K H a [x1, x2, x3] ∧ Dt K H A x1 d1 ∧ Dt K H A x2 d2 ∧ Dt K H A x3 d3 := by
  cases h with
  | tup ha hd =>
    cases hd with
    | cons h1 hd =>
      cases hd with
      | cons h2 hd =>
        cases hd with
        | cons h3 hd =>
          cases hd
          exact ⟨_, _, _, _, rfl, ha, h1, h2, h3⟩
mutual
theorem Dt.any {H : Hp} {A : Option Addr} : ∀ (d : PyData) (v : V), Dt K H A v d → Dt K H none v d
  | .none, _, h => by cases h; exact .non
  | .bool b, _, h => by cases h; exact .bl b
  | .int i, _, h => by cases h; exact .int i
  | .str z, _, h => by cases h with | str _ hz => exact .str z hz
  | .list ds, _, h => by cases h with | lst hn ha hd => exact .lst trivial ha (DtAll.any ds _ hd)
  | .tuple ds, _, h => by cases h with | tup ha hd => exact .tup ha (DtAll.any ds _ hd)
  | .dict _, _, h => by cases h
theorem DtAll.any {H : Hp} {A : Option Addr} : ∀ (ds : List PyData) (xs : List V), DtAll K H A xs ds → DtAll K H none xs ds
  | [], _, h => by cases h; exact .nil
  | d :: ds, _, h => by cases h with | cons h1 h2 => exact .cons (Dt.any d _ h1) (DtAll.any ds _ h2)
end
theorem Dt.an {H : Hp} {A : Option Addr} {v : V} {d : PyData} (h : Dt K H A v d) : Dt K H none v d := Dt.any d v h
/-! data without lists -/
mutual
def noL : PyData → Bool
  | .list _ => false
  | .tuple ds => noLs ds
  | _ => true
def noLs : List PyData → Bool
  | [] => true
  | d :: r => noL d && noLs r
end
/-- tracked tuples stay -/
def Tp (H H' : Hp) : Prop := ∀ a xs, H a = some (.tup xs) → H' a = some (.tup xs)
mutual
theorem Dt.keep {H H' : Hp} {A B : Option Addr} (t : Tp H H') : ∀ (d : PyData) (v : V), noL d = true → Dt K H A v d → Dt K H' B v d
  | .none, _, _, h => by cases h; exact .non
  | .bool b, _, _, h => by cases h; exact .bl b
  | .int i, _, _, h => by cases h; exact .int i
  | .str z, _, _, h => by cases h with | str _ hz => exact .str z hz
  | .list ds, _, n, _ => by cases n
  | .tuple ds, _, n, h => by cases h with | tup ha hd => exact .tup (ha.imp (t _ _) id) (DtAll.keep t ds _ n hd)
  | .dict _, _, _, h => by cases h
theorem DtAll.keep {H H' : Hp} {A B : Option Addr} (t : Tp H H') : ∀ (ds : List PyData) (xs : List V), noLs ds = true → DtAll K H A xs ds → DtAll K H' B xs ds
  | [], _, _, h => by cases h; exact .nil
  | d :: ds, _, n, h => by
    have n : (noL d && noLs ds) = true := n
    rw [Bool.and_eq_true] at n
    cases h with | cons h1 h2 => exact .cons (Dt.keep t d _ n.1 h1) (DtAll.keep t ds _ n.2 h2)
end
theorem DtAll.snoc {H : Hp} {A : Option Addr} : ∀ {xs : List V} {ds : List PyData} {x : V} {d : PyData}, DtAll K H A xs ds → Dt K H A x d → DtAll K H A (xs ++ [x]) (ds ++ [d])
  | _, _, _, _, .nil, h => .cons h .nil
  | _, _, _, _, .cons h r, h2 => .cons h (r.snoc h2)
theorem TupAt.tp {H H' : Hp} {a : Addr} {xs : List V} (h : TupAt K H a xs) (t : Tp H H') : TupAt K H' a xs := h.imp (t _ _) id
theorem Same.tp {H H' : Hp} (s : Same H H') : Tp H H' := fun _ _ h => s _ _ h
theorem Mod.tp {H H' : Hp} {A D : Addr} (s : Mod A H H') (dr : Dr H D A) : Tp H H' := fun a xs h => by
  obtain ⟨_, _, _, _, e, _⟩ := id dr
  exact s _ _ (ne_of h e (by intro z; cases z)) h
theorem tp_put {H : Hp} {l : Addr} {xs ys : List V} (h : H l = some (.lst xs)) : Tp H (upd H l (.lst ys)) := fun a zs e => by
  rw [upd_ne (ne_of e h (by intro z; cases z))]; exact e
theorem dCmd_noL {d : PyData} (h : dCmd d = true) : noL d = true := by
  obtain ⟨c, n, t, rfl, _⟩ := dCmd_inv h
  rfl
theorem dCmdsFrom_noL : ∀ {ds : List PyData} {b : Option Int}, dCmdsFrom b ds = true → noLs ds = true
  | [], _, _ => rfl
  | d :: r, b, h => by
    rw [dCmdsFrom_cons, Bool.and_eq_true, Bool.and_eq_true] at h
    show (noL d && noLs r) = true
    rw [dCmd_noL h.1.1, dCmdsFrom_noL h.2]; rfl
theorem dCmdsFrom_all : ∀ {ds : List PyData} {b : Option Int}, dCmdsFrom b ds = true → ∀ d ∈ ds, dCmd d = true
  | [], _, _, _, m => nomatch m
  | d :: r, b, h, e, m => by
    rw [dCmdsFrom_cons, Bool.and_eq_true, Bool.and_eq_true] at h
    rcases List.mem_cons.mp m with rfl | m
    · exact h.1.1
    · exact dCmdsFrom_all h.2 e m
def lastC : Option Int → List PyData → Option Int
  | b, [] => b
  | _, d :: r => lastC (some (dClient d)) r
theorem lastC_snoc : ∀ (ds : List PyData) (b : Option Int) (d : PyData), lastC b (ds ++ [d]) = some (dClient d)
  | [], _, _ => rfl
  | _ :: r, _, d => lastC_snoc r _ d
theorem dCmdsFrom_snoc : ∀ (ds : List PyData) (b : Option Int) (d : PyData), dCmdsFrom b (ds ++ [d]) = (dCmdsFrom b ds && (dCmd d && dAfter (lastC b ds) d))
  | [], b, d => by
    show dCmdsFrom b [d] = _
    rw [dCmdsFrom_cons, dCmdsFrom_nil, dCmdsFrom_nil, Bool.and_true, Bool.true_and]; rfl
  | e :: r, b, d => by
    show dCmdsFrom b (e :: (r ++ [d])) = _
    rw [dCmdsFrom_cons, dCmdsFrom_snoc r, dCmdsFrom_cons, Bool.and_assoc, Bool.and_assoc, Bool.and_assoc]; rfl
end
theorem noLs_all : ∀ {ds : List PyData}, (∀ d ∈ ds, noL d = true) → noLs ds = true
  | [], _ => rfl
  | d :: r, h => by
    show (noL d && noLs r) = true
    rw [h d List.mem_cons_self, noLs_all (fun e he => h e (List.mem_cons_of_mem _ he))]; rfl

/-! ### is_integer -/
/-- no int, told by its type -/
def NoInt (K : PySem.W.Frag) (H : Hp) (v : V) : Prop := ∃ T, TyX K H v (.type T) ∧ (kitB T "int" = some false ∨ (kitB T "int" = some true ∧ kitB T "bool" = some true))
def spInt (K : PySem.W.Frag) : Sp := fun vs H Q _ => ∃ (v : V) (lo hi : Int), vs = [v, .int lo, .int hi] ∧ ((∃ i, v = .int i ∧ Q (.bl (decide (lo ≤ i ∧ i ≤ hi))) H) ∨ (NoInt K H v ∧ Q (.bl false) H))
section
variable {P : Program} {w : World} {K : PySem.W.Frag} {mg : Str → Option Value} {base : Heap}
theorem c_is_integer {C_Disk : Addr} {C_DiskError : Addr} {C_DiskCrashed : Addr} (T : Txt K mg C_Disk C_DiskError C_DiskCrashed) : Cal P w K mg base 1 "is_integer" (spInt K) [] := by
  refine cal T.d_is_integer sc_is_integer (fun vs H Q E h => ?_) (fun f cdv A outer s H vs Q E hr h => ?_)
  · obtain ⟨v, lo, hi, rfl, _⟩ := h; rfl
  obtain ⟨v, lo, hi, rfl, h⟩ := h
  refine ⟨_, (pss_one (ps_ret (pe_and (pe_callB (kisi (K := K)) (by rfl) T.z_isinstance (by decide +kernel) (pa_cons (pv 0) (pa_cons (pe_bltn (v := .ty "int") (by rfl) T.z_int (by decide +kernel) rfl) pa_nil))) (pe_and (pe_not (pe_callB (kisi (K := K)) (by rfl) T.z_isinstance (by decide +kernel) (pa_cons (pv 0) (pa_cons (pe_bltn (v := .ty "bool") (by rfl) T.z_bool (by decide +kernel) rfl) pa_nil)))) (pe_one (pe_chain op_le op_le (pv 1) (pv 0) (pv 2))))))), ?_⟩
  rcases h with ⟨i, rfl, q⟩ | ⟨⟨T, ty, hk⟩, q⟩
  · walk_at "rds"
    walk_at "isi"
    walk_at "rds"
    walk_at "isi"
    walk_at "rds"
    refine ite2 (fun e => ?_) (fun e => ?_)
    · have e := of_decide_eq_true e
      walk_at "rds"
      have e2 : decide (lo ≤ i ∧ i ≤ hi) = decide (i ≤ hi) := by simp [e]
      rw [e2] at q
      exact q
    · have e : ¬ lo ≤ i := fun z => e (decide_eq_true z)
      have e2 : decide (lo ≤ i ∧ i ≤ hi) = false := by simp [e]
      rw [e2] at q
      exact q
  · walk_at "rds"
    rcases hk with hk | ⟨hk, hb⟩
    · refine ⟨_, .ty _, _, _, false, rfl, .ty _, ty, kit_ty hk, ?_⟩
      walk_at "rds"
      exact q
    · refine ⟨_, .ty _, _, _, true, rfl, .ty _, ty, kit_ty hk, ?_⟩
      walk_at "rds"
      refine ⟨_, .ty _, _, _, true, rfl, .ty _, ty, kit_ty hb, ?_⟩
      walk_at "rds"
      exact q
end

/-! ### all but some addresses stand -/
def But (S : List Addr) (H H' : Hp) : Prop := ∀ b o, b ∉ S → H b = some o → H' b = some o
theorem Same.but {S : List Addr} {H H' : Hp} (s : Same H H') : But S H H' := fun b o _ h => s b o h
theorem But.trans {S : List Addr} {H H1 H2 : Hp} (a : But S H H1) (b : But S H1 H2) : But S H H2 := fun c o n h => b c o n (a c o n h)
theorem but_upd {S : List Addr} {a : Addr} {o : HO} {H : Hp} (h : a ∈ S) : But S H (upd H a o) := fun b u n e => by
  rw [upd_ne (fun z => n (by rw [z]; exact h))]; exact e
theorem tp_upd {H : Hp} {a : Addr} {o u : HO} (e : H a = some u) (n : ∀ xs, u ≠ .tup xs) : Tp H (upd H a o) := fun b xs f => by
  rw [upd_ne (fun z => by rw [z, e] at f; exact n xs (Option.some.inj f))]; exact f

theorem atI_lt {α : Type} {xs : List α} {i : Int} (h0 : 0 ≤ i) (h1 : i < xs.length) : ∃ v, v ∈ xs ∧ atI xs i = some v := by
  obtain ⟨j, rfl⟩ := Int.eq_ofNat_of_zero_le h0
  have hj : j < xs.length := Int.ofNat_lt.mp h1
  exact ⟨xs[j], List.getElem_mem hj, atI_nat (List.getElem?_eq_getElem hj)⟩

theorem same_none {H H' : Hp} {a : Addr} (s : Same H H') (z : H' a = none) : H a = none := by
  cases e : H a with
  | none => rfl
  | some u => rw [s _ _ e] at z; cases z
/-! ### the disk -/
structure DS where
  dur : List Str
  cur : List Str
  wr : List (Nat × Str)
  pas : Option Nat
  cra : Bool
inductive Rs | done (v : Option Str) | crashed | error
inductive Deed | write (i : Int) (z : Str) | read (i : Int) | sync | arm (n : Nat) | crash (bs : List Bool)
def pasV : Option Nat → V
  | none => .non
  | some n => .int n
def ovV : Option Str → V
  | none => .non
  | some z => .str z
def opB (s : DS) : Option DS := match s.pas with
  | none => some s
  | some 0 => none
  | some (n + 1) => some { s with pas := some n }
def inR (s : DS) (i : Int) : Bool := decide (0 ≤ i) && decide (i ≤ (s.dur.length : Int) - 1)
def crF : List Str → List (Nat × Str) → List Bool → List Str
  | d, x :: r, b :: bs => crF (if b = true then d.set x.1 x.2 else d) r bs
  | d, _, _ => d
def dWrite (s : DS) (i : Int) (z : Str) : Rs × DS := if s.cra = true then (.crashed, s) else if inR s i = true then (if 96 < z.length then (.error, s) else match opB s with
  | none => (.crashed, { s with cra := true })
  | some s1 => (.done none, { s1 with cur := s1.cur.set i.toNat z, wr := s1.wr ++ [(i.toNat, z)] })) else (.error, s)
def dRead (s : DS) (i : Int) : Rs × DS := if s.cra = true then (.crashed, s) else if inR s i = true then (.done (some (s.cur.getD i.toNat ⟨#[]⟩)), s) else (.error, s)
def dSync (s : DS) : Rs × DS := if s.cra = true then (.crashed, s) else match opB s with
  | none => (.crashed, { s with cra := true })
  | some s1 => (.done none, { s1 with dur := s1.cur, wr := [] })
def dCrash (s : DS) (bs : List Bool) : DS := ⟨crF s.dur s.wr bs, crF s.dur s.wr bs, [], none, false⟩
def dStep (s : DS) : Deed → Rs × DS
  | .write i z => dWrite s i z
  | .read i => dRead s i
  | .sync => dSync s
  | .arm n => (.done none, { s with pas := some n })
  | .crash bs => (.done none, dCrash s bs)
structure DOk (s : DS) (n : Nat) (m : Nat) : Prop where
  ld : s.dur.length = n
  lc : s.cur.length = n
  n1 : 1 ≤ n
  n6 : n ≤ 6
  wi : ∀ x ∈ s.wr, x.1 < n
  wm : s.wr.length ≤ m
  mm : m ≤ 1000
def dkF (d c l : Addr) (pas : Option Nat) (cra : Bool) : List (Str × V) := [("_durable", .ref d), ("_current", .ref c), ("_writes", .ref l), ("_passing", pasV pas), ("_crashed", .bl cra)]
def TwAt (H : Hp) (ts : List Addr) (wr : List (Nat × Str)) : Prop := ts.length = wr.length ∧ ∀ (i : Nat) (t : Addr) (x : Nat × Str), ts[i]? = some t → wr[i]? = some x → H t = some (.tup [.int x.1, .str x.2])
structure DkAt (C : Addr) (H : Hp) (p d c l : Addr) (ts : List Addr) (s : DS) : Prop where
  ins : ∃ dx, H p = some (.ins C dx (dkF d c l s.pas s.cra))
  du : H d = some (.lst (s.dur.map V.str))
  cu : H c = some (.lst (s.cur.map V.str))
  wl : H l = some (.lst (ts.map V.ref))
  tw : TwAt H ts s.wr
  dc : d ≠ c
  dl : d ≠ l
  cl : c ≠ l
theorem TwAt.keep {H H' : Hp} {ts : List Addr} {wr : List (Nat × Str)} (h : TwAt H ts wr) (k : ∀ a xs, H a = some (.tup xs) → H' a = some (.tup xs)) : TwAt H' ts wr := ⟨h.1, fun i t x e1 e2 => k _ _ (h.2 i t x e1 e2)⟩
theorem TwAt.nil {H : Hp} : TwAt H [] [] := ⟨rfl, fun _ _ _ e => by cases e⟩
theorem TwAt.snoc {H : Hp} {ts : List Addr} {wr : List (Nat × Str)} {t : Addr} {x : Nat × Str} (h : TwAt H ts wr) (e : H t = some (.tup [.int x.1, .str x.2])) : TwAt H (ts ++ [t]) (wr ++ [x]) := by
  refine ⟨by simp [h.1], fun i u y e1 e2 => ?_⟩
  by_cases hi : i < ts.length
  · rw [List.getElem?_append_left hi] at e1
    rw [List.getElem?_append_left (by have := h.1; omega)] at e2
    exact h.2 i u y e1 e2
  · rw [List.getElem?_append_right (by omega)] at e1
    rw [List.getElem?_append_right (by have := h.1; omega)] at e2
    have ei : i = ts.length := by
      have := (List.getElem?_eq_some_iff.mp e1).1
      simp at this; omega
    subst ei
    rw [Nat.sub_self] at e1
    rw [h.1, Nat.sub_self] at e2
    obtain rfl := Option.some.inj e1
    obtain rfl := Option.some.inj e2
    exact e
theorem DkAt.on {C : Addr} {H H' : Hp} {p d c l : Addr} {ts : List Addr} {s : DS} (h : DkAt C H p d c l ts s) (k : Same H H') : DkAt C H' p d c l ts s := by
  obtain ⟨⟨dx, h1⟩, h2, h3, h4, h5, h6, h7, h8⟩ := h
  exact ⟨⟨dx, k _ _ h1⟩, k _ _ h2, k _ _ h3, k _ _ h4, h5.keep fun a xs e => k _ _ e, h6, h7, h8⟩
/-- other cells than the disk's change, or new ones come -/
theorem DkAt.but {C : Addr} {S : List Addr} {H H' : Hp} {p d c l : Addr} {ts : List Addr} {s : DS} (h : DkAt C H p d c l ts s) (k : But S H H') (hp : p ∉ S) (hd : d ∉ S) (hc : c ∉ S) (hl : l ∉ S) (ht : ∀ a ∈ S, ∀ xs, H a ≠ some (.tup xs)) : DkAt C H' p d c l ts s := by
  obtain ⟨⟨dx, h1⟩, h2, h3, h4, h5, h6, h7, h8⟩ := h
  exact ⟨⟨dx, k _ _ hp h1⟩, k _ _ hd h2, k _ _ hc h3, k _ _ hl h4, h5.keep fun a xs e => k _ _ (fun m => ht a m xs e) e, h6, h7, h8⟩
theorem DkAt.pne {C : Addr} {H : Hp} {p d c l : Addr} {ts : List Addr} {s : DS} (h : DkAt C H p d c l ts s) : p ≠ d ∧ p ≠ c ∧ p ≠ l := by
  obtain ⟨dx, h1⟩ := h.ins
  refine ⟨fun z => ?_, fun z => ?_, fun z => ?_⟩
  · rw [z, h.du] at h1; cases h1
  · rw [z, h.cu] at h1; cases h1
  · rw [z, h.wl] at h1; cases h1
def Bt (S : List Addr) (H H' : Hp) : Prop := But S H H' ∧ ∀ a, H' a = none → H a = none
theorem Same.bt {S : List Addr} {H H' : Hp} (s : Same H H') : Bt S H H' := ⟨Same.but s, fun _ e => same_none s e⟩
theorem Bt.trans {S : List Addr} {H H1 H2 : Hp} (a : Bt S H H1) (b : Bt S H1 H2) : Bt S H H2 := ⟨But.trans a.1 b.1, fun x e => a.2 x (b.2 x e)⟩
def DkOut (C : Addr) (H : Hp) (p d c l : Addr) (s' : DS) (R : Hp → Prop) : Prop := ∀ H' d' c' l' ts', Bt [p, d, c, l] H H' → (d' = d ∨ H d' = none) → (c' = c ∨ H c' = none) → (l' = l ∨ H l' = none) → DkAt C H' p d' c' l' ts' s' → R H'
def Fin (C CC CE : Addr) (H : Hp) (p d c l : Addr) (Q : VK) (E : XK) (r : Rs × DS) : Prop := match r.1 with
  | .done v => DkOut C H p d c l r.2 fun H' => Q (ovV v) H'
  | .crashed => DkOut C H p d c l r.2 fun H' => E (.ref CC) none H'
  | .error => DkOut C H p d c l r.2 fun H' => E (.ref CE) none H'
theorem DkOut.here {C : Addr} {H : Hp} {p d c l : Addr} {ts : List Addr} {s : DS} {R : Hp → Prop} (o : DkOut C H p d c l s R) (h : DkAt C H p d c l ts s) : R H := o H d c l ts ⟨fun _ _ _ e => e, fun _ e => e⟩ (.inl rfl) (.inl rfl) (.inl rfl) h
theorem DkOut.at {C : Addr} {H H' : Hp} {p d c l : Addr} {ts : List Addr} {s : DS} {R : Hp → Prop} (o : DkOut C H p d c l s R) (k : Bt [p, d, c, l] H H') (h : DkAt C H' p d c l ts s) : R H' := o H' d c l ts k (.inl rfl) (.inl rfl) (.inl rfl) h
theorem put_pas (d c l : Addr) (a b : Option Nat) (x : Bool) : putF "_passing" (pasV b) (dkF d c l a x) = dkF d c l b x := rfl
theorem put_cra (d c l : Addr) (a : Option Nat) (x y : Bool) : putF "_crashed" (.bl y) (dkF d c l a x) = dkF d c l a y := rfl
theorem put_dur (d e c l : Addr) (a : Option Nat) (x : Bool) : putF "_durable" (.ref e) (dkF d c l a x) = dkF e c l a x := rfl
theorem put_cur (d e c l : Addr) (a : Option Nat) (x : Bool) : putF "_current" (.ref e) (dkF d c l a x) = dkF d e l a x := rfl
theorem put_wri (d e c l : Addr) (a : Option Nat) (x : Bool) : putF "_writes" (.ref e) (dkF d c l a x) = dkF d c e a x := rfl
/-- the disk's own cell written anew -/
theorem DkAt.own {C : Addr} {H : Hp} {p d c l dx : Addr} {ts : List Addr} {s : DS} (h : DkAt C H p d c l ts s) (pas : Option Nat) (cra : Bool) : DkAt C (upd H p (.ins C dx (dkF d c l pas cra))) p d c l ts { s with pas := pas, cra := cra } := by
  obtain ⟨n1, n2, n3⟩ := h.pne
  obtain ⟨dx0, g⟩ := h.ins
  refine ⟨⟨dx, upd_same⟩, ?_, ?_, ?_, ?_, h.dc, h.dl, h.cl⟩
  · rw [upd_ne n1.symm]; exact h.du
  · rw [upd_ne n2.symm]; exact h.cu
  · rw [upd_ne n3.symm]; exact h.wl
  · refine h.tw.keep fun a xs e => ?_
    rw [upd_ne (fun z => by rw [z, g] at e; cases e)]; exact e
theorem bt_next {S : List Addr} {H H' : Hp} {x : Addr} {o : HO} (k : Bt S H H') (h : x ∈ S ∨ H x = none) : Bt S H (upd H' x o) := by
  refine ⟨fun b u n e => ?_, fun a e => ?_⟩
  · have nb : b ≠ x := fun z => by
      rcases h with h | h
      · exact n (z ▸ h)
      · rw [z, h] at e; cases e
    rw [upd_ne nb]; exact k.1 b u n e
  · by_cases z : a = x
    · rw [z, upd_same] at e; cases e
    · rw [upd_ne z] at e; exact k.2 a e
theorem Bt.refl {S : List Addr} {H : Hp} : Bt S H H := ⟨fun _ _ _ e => e, fun _ e => e⟩
theorem but_p {H : Hp} {p d c l : Addr} {o : HO} : Bt [p, d, c, l] H (upd H p o) := bt_next .refl (.inl (by simp))
theorem opB_eq {s s1 : DS} (h : opB s = some s1) : s1.dur = s.dur ∧ s1.cur = s.cur ∧ s1.wr = s.wr ∧ s1.cra = s.cra := by
  unfold opB at h
  split at h
  · rw [← Option.some.inj h]; exact ⟨rfl, rfl, rfl, rfl⟩
  · cases h
  · rw [← Option.some.inj h]; exact ⟨rfl, rfl, rfl, rfl⟩
theorem inR_nat {s : DS} {i : Int} (h : inR s i = true) : ∃ k : Nat, i = (k : Int) ∧ k < s.dur.length := by
  unfold inR at h
  rw [Bool.and_eq_true] at h
  have a := of_decide_eq_true h.1
  have b := of_decide_eq_true h.2
  obtain ⟨k, rfl⟩ := Int.eq_ofNat_of_zero_le a
  exact ⟨k, rfl, by omega⟩
theorem ixN_in {l i : Nat} (h : i < l) : ixN l (i : Int) = some i := by
  unfold ixN
  rw [if_pos (by omega), if_pos (by omega)]; rfl
theorem old {S : List Addr} {H : Hp} {x y : Addr} (m : y ∈ S) (h : x = y ∨ H x = none) : x ∈ S ∨ H x = none := by
  rcases h with h | h
  · rw [h]; exact .inl m
  · exact .inr h
theorem crF_end {du : List Str} {wr : List (Nat × Str)} {bs : List Bool} : crF du (wr.drop (min wr.length bs.length)) (bs.drop (min wr.length bs.length)) = du := by
  by_cases h : wr.length ≤ bs.length
  · rw [Nat.min_eq_left h, List.drop_length]
    simp [crF]
  · rw [Nat.min_eq_right (by omega), List.drop_length]
    cases wr.drop bs.length <;> simp [crF]

section
variable {P : Program} {w : World} {K : PySem.W.Frag} {mg : Str → Option Value} {base : Heap}
def spDkInit (C CE : Addr) : Sp := fun vs H Q E => ∃ (p dx : Addr) (n : Int), vs = [.ref p, .int n] ∧ H p = some (.ins C dx []) ∧ n ≤ 1000 ∧ (n < 1 → E (.ref CE) none H) ∧
  (1 ≤ n → ∀ (H' : Hp) (d c l : Addr), (∀ b o, H b = some o → b ≠ p → H' b = some o) → H d = none → H c = none → H l = none → DkAt C H' p d c l [] ⟨List.replicate n.toNat ⟨#[]⟩, List.replicate n.toNat ⟨#[]⟩, [], none, false⟩ → Q .non H')
theorem k_Disk {C_Disk : Addr} {C_DiskError : Addr} {C_DiskCrashed : Addr} (T : Txt K mg C_Disk C_DiskError C_DiskCrashed) : MakX P w K mg base 1 "Disk" C_Disk (spDkInit C_Disk C_DiskError) := by
  refine makX T.g_Disk T.mk_Disk sc_Disk____init__ (fun vs H Q E h => ?_) (fun f cdv A outer s H vs Q E hr h => ?_)
  · obtain ⟨p, dx, n, rfl, _⟩ := h; rfl
  obtain ⟨p, dx, n, rfl, hp, n6, e, q⟩ := h
  refine ⟨_, (pss_cons (ps_if (pt_cmpR op_lt (pv 1) pe_int (nomark _)) (pss_one (ps_raise rfl (takes_of rfl rfl rfl rfl) (pmk_ok T.x_DiskError (by rfl)))) pss_nil)
      (pss_cons (ps_fld (pv 0) (pe_op op_rep (pe_lst (pa_cons pe_str pa_nil)) (pv 1)) rfl)
      (pss_cons (ps_fld (pv 0) (pe_op op_rep (pe_lst (pa_cons pe_str pa_nil)) (pv 1)) rfl)
      (pss_cons (ps_fld (pv 0) (pe_lst pa_nil) rfl)
      (pss_cons (ps_fld (pv 0) pe_non rfl)
      (pss_one (ps_fld (pv 0) pe_bl rfl))))))), ?_⟩
  walk_at "rds"
  refine ite2 (fun h1 => ?_) (fun h1 => ?_)
  · have h1 : n < 1 := of_decide_eq_true h1
    exact e h1
  have h1 : ¬ n < 1 := fun z => h1 (decide_eq_true z)
  have q := q (by omega)
  obtain ⟨k, rfl⟩ := Int.eq_ofNat_of_zero_le (show 0 ≤ n by omega)
  walk_at "rds"
  intro a0 n0
  have sl := sizeLine_eq
  have fl : ∀ k : Nat, (List.replicate k [V.str (Str.ofString "")]).flatten = (List.replicate k (⟨#[]⟩ : Str)).map V.str := fun k => by
    induction k with
    | zero => rfl
    | succ k ih => rw [List.replicate_succ, List.flatten_cons, ih, List.replicate_succ, List.map_cons]; rfl
  walk_at "rds"
  refine ⟨a0, (k : Int), _, rfl, rfl, upd_same, by omega, by omega, by show 1 * k ≤ sizeLine; omega, fun d nd => ?_⟩
  walk_at "rds"
  have s1 := same_upd (o := .lst [V.str (Str.ofString "")]) n0
  have hp1 := s1 _ _ hp
  have nap : a0 ≠ p := fun z => by rw [z, hp] at n0; cases n0
  generalize upd H a0 (.lst [V.str (Str.ofString "")]) = H1 at s1 hp1 nd ⊢
  have s2 := s1.trans (same_upd (o := .lst (List.replicate (k : Int).toNat [V.str (Str.ofString "")]).flatten) nd)
  have hp2 := (same_upd (o := .lst (List.replicate (k : Int).toNat [V.str (Str.ofString "")]).flatten) nd) _ _ hp1
  have hd2 : upd H1 d (.lst (List.replicate (k : Int).toNat [V.str (Str.ofString "")]).flatten) d = some (.lst ((List.replicate (k : Int).toNat (⟨#[]⟩ : Str)).map V.str)) := by rw [upd_same, fl]
  generalize upd H1 d (.lst (List.replicate (k : Int).toNat [V.str (Str.ofString "")]).flatten) = H2 at s2 hp2 hd2 ⊢
  refine ⟨p, C_Disk, dx, _, rfl, hp2, T.cl_Disk, T.na_Disk__durable, by decide, ?_⟩
  have npd : d ≠ p := fun z => by rw [z, hp1] at nd; cases nd
  have b3 : ∀ b o, H b = some o → b ≠ p → upd H2 p (.ins C_Disk dx (putF "_durable" (.ref d) [])) b = some o := fun b o e n => by rw [upd_ne n]; exact s2 _ _ e
  have hp3 : upd H2 p (.ins C_Disk dx (putF "_durable" (.ref d) [])) p = some (.ins C_Disk dx (putF "_durable" (.ref d) [])) := upd_same
  have hd3 : upd H2 p (.ins C_Disk dx (putF "_durable" (.ref d) [])) d = some (.lst ((List.replicate (k : Int).toNat (⟨#[]⟩ : Str)).map V.str)) := by rw [upd_ne npd]; exact hd2
  generalize upd H2 p (.ins C_Disk dx (putF "_durable" (.ref d) [])) = H3 at b3 hp3 hd3 ⊢
  walk_at "rds"
  intro a1 n1
  walk_at "rds"
  refine ⟨a1, (k : Int), _, rfl, rfl, upd_same, by omega, by omega, by show 1 * k ≤ sizeLine; omega, fun c nc => ?_⟩
  walk_at "rds"
  have s4 := same_upd (o := .lst [V.str (Str.ofString "")]) n1
  have s5 := s4.trans (same_upd (o := .lst (List.replicate (k : Int).toNat [V.str (Str.ofString "")]).flatten) nc)
  have hp5 := s5 _ _ hp3
  have hd5 := s5 _ _ hd3
  have hc5 : upd (upd H3 a1 (.lst [V.str (Str.ofString "")])) c (.lst (List.replicate (k : Int).toNat [V.str (Str.ofString "")]).flatten) c = some (.lst ((List.replicate (k : Int).toNat (⟨#[]⟩ : Str)).map V.str)) := by rw [upd_same, fl]
  have nc3 := same_none s4 nc
  have npc : c ≠ p := fun z => by rw [z, hp3] at nc3; cases nc3
  have ndc : d ≠ c := fun z => by rw [← z, hd3] at nc3; cases nc3
  have b5 : ∀ b o, H b = some o → b ≠ p → upd (upd H3 a1 (.lst [V.str (Str.ofString "")])) c (.lst (List.replicate (k : Int).toNat [V.str (Str.ofString "")]).flatten) b = some o := fun b o e n => s5 _ _ (b3 b o e n)
  generalize upd (upd H3 a1 (.lst [V.str (Str.ofString "")])) c (.lst (List.replicate (k : Int).toNat [V.str (Str.ofString "")]).flatten) = H5 at hp5 hd5 hc5 b5 ⊢
  refine ⟨p, C_Disk, dx, _, rfl, hp5, T.cl_Disk, T.na_Disk__current, by show (1 : Nat) < 1000; decide, ?_⟩
  have b6 : ∀ b o, H b = some o → b ≠ p → upd H5 p (.ins C_Disk dx (putF "_current" (.ref c) (putF "_durable" (.ref d) []))) b = some o := fun b o e n => by rw [upd_ne n]; exact b5 b o e n
  have hp6 : upd H5 p (.ins C_Disk dx (putF "_current" (.ref c) (putF "_durable" (.ref d) []))) p = some (.ins C_Disk dx (putF "_current" (.ref c) (putF "_durable" (.ref d) []))) := upd_same
  have hd6 : upd H5 p (.ins C_Disk dx (putF "_current" (.ref c) (putF "_durable" (.ref d) []))) d = some (.lst ((List.replicate (k : Int).toNat (⟨#[]⟩ : Str)).map V.str)) := by rw [upd_ne npd]; exact hd5
  have hc6 : upd H5 p (.ins C_Disk dx (putF "_current" (.ref c) (putF "_durable" (.ref d) []))) c = some (.lst ((List.replicate (k : Int).toNat (⟨#[]⟩ : Str)).map V.str)) := by rw [upd_ne npc]; exact hc5
  generalize upd H5 p (.ins C_Disk dx (putF "_current" (.ref c) (putF "_durable" (.ref d) []))) = H6 at b6 hp6 hd6 hc6 ⊢
  walk_at "rds"
  intro l nl
  walk_at "rds"
  have s7 := same_upd (o := .lst []) nl
  have hp7 := s7 _ _ hp6
  have hd7 := s7 _ _ hd6
  have hc7 := s7 _ _ hc6
  have hl7 : upd H6 l (.lst []) l = some (.lst []) := upd_same
  have npl : l ≠ p := fun z => by rw [z, hp6] at nl; cases nl
  have ndl : d ≠ l := fun z => by rw [← z, hd6] at nl; cases nl
  have ncl : c ≠ l := fun z => by rw [← z, hc6] at nl; cases nl
  have b7 : ∀ b o, H b = some o → b ≠ p → upd H6 l (.lst []) b = some o := fun b o e n => s7 _ _ (b6 b o e n)
  generalize upd H6 l (.lst []) = H7 at hp7 hd7 hc7 hl7 b7 ⊢
  refine ⟨p, C_Disk, dx, _, rfl, hp7, T.cl_Disk, T.na_Disk__writes, by show (2 : Nat) < 1000; decide, ?_⟩
  walk_at "rds"
  refine ⟨p, C_Disk, dx, _, rfl, upd_same, T.cl_Disk, T.na_Disk__passing, by show (3 : Nat) < 1000; decide, ?_⟩
  walk_at "rds"
  refine ⟨p, C_Disk, dx, _, rfl, upd_same, T.cl_Disk, T.na_Disk__crashed, by show (4 : Nat) < 1000; decide, ?_⟩
  have all : ∀ a, a ≠ p → ∀ F1 F2 F3 : HO, upd (upd (upd H7 p F1) p F2) p F3 a = H7 a := fun a n F1 F2 F3 => by rw [upd_ne n, upd_ne n, upd_ne n]
  have fresh : ∀ a, a ≠ p → (∀ b o, H b = some o → b ≠ p → (b ≠ a)) → H a = none := fun a n h => by
    cases e : H a with
    | none => rfl
    | some o => exact absurd rfl (h a o e n)
  refine q _ d c l (fun b o e n => (all b n _ _ _).trans (b7 b o e n)) ?_ ?_ ?_ ⟨⟨dx, upd_same⟩, (all d npd _ _ _).trans hd7, (all c npc _ _ _).trans hc7, (all l npl _ _ _).trans hl7, TwAt.nil, ndc, ndl, ncl⟩
  · exact same_none s1 nd
  · exact fresh c npc fun b o e n z => by
      rw [z] at e
      have := b3 c o e npc
      rw [nc3] at this; cases this
  · exact fresh l npl fun b o e n z => by
      rw [z] at e
      have := b6 l o e npl
      rw [nl] at this; cases this
def spDk0 (C : Addr) (R : DS → VK → XK → Hp → Prop) : Sp := fun vs H Q E => ∃ (p d c l : Addr) (ts : List Addr) (s : DS) (n m : Nat), vs = [.ref p] ∧ DkAt C H p d c l ts s ∧ DOk s n m ∧ R s Q E H
theorem m_Disk__size {C_Disk : Addr} {C_DiskError : Addr} {C_DiskCrashed : Addr} (T : Txt K mg C_Disk C_DiskError C_DiskCrashed) : Met P w K mg base 1 C_Disk "size" (spDk0 C_Disk fun s Q _ H => Q (.int s.dur.length) H) [] := by
  refine met T.cl_Disk T.me_Disk__size sc_Disk__size (fun vs H Q E h => ?_) (fun f cdv A outer s H vs Q E hr h => ?_)
  · obtain ⟨p, d, c, l, ts, s, n, m, rfl, _⟩ := h; rfl
  obtain ⟨p, d, c, l, ts, s, n, m, rfl, at_, ok, q⟩ := h
  obtain ⟨dx, g⟩ := at_.ins
  refine ⟨_, (pss_one (ps_ret (pe_callB (klen (K := K)) (by rfl) T.z_len (by decide +kernel) (pa_cons (pe_fld (pv 0) rfl) pa_nil)))), ?_⟩
  walk_at "rds"
  refine ⟨p, C_Disk, dx, _, _, rfl, g, T.cl_Disk, T.na_Disk__durable, rfl, ?_⟩
  walk_at "rds"
  refine ⟨d, _, rfl, .inl (sq at_.du), ?_⟩
  rw [List.length_map]
  exact q
theorem m_Disk___check_running {C_Disk : Addr} {C_DiskError : Addr} {C_DiskCrashed : Addr} (T : Txt K mg C_Disk C_DiskError C_DiskCrashed) : MetX P w K mg base 1 C_Disk "_check_running" (spDk0 C_Disk fun s Q E H => (s.cra = true → E (.ref C_DiskCrashed) none H) ∧ (s.cra = false → Q .non H)) := by
  refine metX T.cl_Disk T.me_Disk___check_running sc_Disk___check_running (fun vs H Q E h => ?_) (fun f cdv A outer s H vs Q E hr h => ?_)
  · obtain ⟨p, d, c, l, ts, s, n, m, rfl, _⟩ := h; rfl
  obtain ⟨p, d, c, l, ts, s, n, m, rfl, at_, ok, e, q⟩ := h
  obtain ⟨dx, g⟩ := at_.ins
  refine ⟨_, (pss_one (ps_if (pt_val (pe_fld (pv 0) rfl)) (pss_one (ps_raise rfl (takes_of rfl rfl rfl rfl) (pmk_ok T.x_DiskCrashed (by rfl)))) pss_nil)), ?_⟩
  walk_at "rds"
  refine ⟨p, C_Disk, dx, _, _, rfl, g, T.cl_Disk, T.na_Disk__crashed, rfl, ?_⟩
  refine ⟨_, rfl, ?_⟩
  cases hc : s.cra with
  | true => exact ifT rfl (e hc)
  | false => exact ifF rfl (q hc)
theorem m_Disk___begin_operation {C_Disk : Addr} {C_DiskError : Addr} {C_DiskCrashed : Addr} (T : Txt K mg C_Disk C_DiskError C_DiskCrashed) : MetX P w K mg base 1 C_Disk "_begin_operation" (fun vs H Q E => ∃ (p d c l : Addr) (ts : List Addr) (s : DS), vs = [.ref p] ∧ DkAt C_Disk H p d c l ts s ∧ (match opB s with
    | none => DkOut C_Disk H p d c l { s with cra := true } fun H' => E (.ref C_DiskCrashed) none H'
    | some s1 => DkOut C_Disk H p d c l s1 fun H' => Q .non H')) := by
  refine metX T.cl_Disk T.me_Disk___begin_operation sc_Disk___begin_operation (fun vs H Q E h => ?_) (fun f cdv A outer s H vs Q E hr h => ?_)
  · obtain ⟨p, d, c, l, ts, s, rfl, _⟩ := h; rfl
  obtain ⟨p, d, c, l, ts, s, rfl, at_, q⟩ := h
  obtain ⟨dx, g⟩ := at_.ins
  refine ⟨_, (pss_cons (ps_if (pt_cmpR op_isN (pe_fld (pv 0) rfl) pe_non (nomark _)) (pss_one ps_retN) pss_nil)
      (pss_cons (ps_if (pt_cmpR op_eq (pe_fld (pv 0) rfl) pe_int (nomark _)) (pss_cons (ps_fld (pv 0) pe_bl rfl)
      (pss_one (ps_raise rfl (takes_of rfl rfl rfl rfl) (pmk_ok T.x_DiskCrashed (by rfl))))) pss_nil)
      (pss_one (ps_fld (pv 0) (pe_op op_sub (pe_fld (pv 0) rfl) pe_int) rfl)))), ?_⟩
  walk_at "rds"
  refine ⟨p, C_Disk, dx, _, _, rfl, g, T.cl_Disk, T.na_Disk__passing, rfl, ?_⟩
  walk_at "rds"
  unfold opB at q
  cases hp : s.pas with
  | none =>
    rw [hp] at q
    refine ifT rfl ?_
    exact q.here at_
  | some k =>
  refine ifF rfl ?_
  walk_at "rds"
  refine ⟨p, C_Disk, dx, _, _, rfl, g, T.cl_Disk, T.na_Disk__passing, rfl, ?_⟩
  rw [hp]
  walk_at "rds"
  cases k with
  | zero =>
    rw [hp] at q
    refine ifT rfl ?_
    walk_at "rds"
    refine ⟨p, C_Disk, dx, _, rfl, g, T.cl_Disk, T.na_Disk__crashed, by show (5 : Nat) < 1000; decide, ?_⟩
    rw [put_cra, hp]
    exact q.at but_p (at_.own (some 0) true)
  | succ k =>
    rw [hp] at q
    refine ifF (decide_eq_false (fun z => by injection z with z; omega)) ?_
    walk_at "rds"
    refine ⟨p, C_Disk, dx, _, _, rfl, g, T.cl_Disk, T.na_Disk__passing, rfl, ?_⟩
    rw [hp]
    walk_at "rds"
    refine ⟨p, C_Disk, dx, _, rfl, g, T.cl_Disk, T.na_Disk__passing, by show (5 : Nat) < 1000; decide, ?_⟩
    have e1 : V.int (((k + 1 : Nat) : Int) - 1) = pasV (some k) := congrArg V.int (by omega)
    show Q .non (upd H p (.ins C_Disk dx (putF "_passing" (V.int (((k + 1 : Nat) : Int) - 1)) _)))
    rw [e1, put_pas]
    exact q.at but_p (at_.own (some k) s.cra)
theorem m_Disk__image {C_Disk : Addr} {C_DiskError : Addr} {C_DiskCrashed : Addr} (T : Txt K mg C_Disk C_DiskError C_DiskCrashed) : Met P w K mg base 1 C_Disk "image" (spDk0 C_Disk fun s Q _ H => ∀ r, H r = none → Q (.ref r) (upd H r (.lst (s.dur.map V.str)))) [] := by
  refine met T.cl_Disk T.me_Disk__image sc_Disk__image (fun vs H Q E h => ?_) (fun f cdv A outer s H vs Q E hr h => ?_)
  · obtain ⟨p, d, c, l, ts, s, n, m, rfl, _⟩ := h; rfl
  obtain ⟨p, d, c, l, ts, s, n, m, rfl, at_, ok, q⟩ := h
  obtain ⟨dx, g⟩ := at_.ins
  refine ⟨_, (pss_one (ps_ret (pe_callTy call_list_of (by rfl) T.z_list (by decide +kernel) (pa_cons (pe_fld (pv 0) rfl) pa_nil)))), ?_⟩
  walk_at "rds"
  refine ⟨p, C_Disk, dx, _, _, rfl, g, T.cl_Disk, T.na_Disk__durable, rfl, ?_⟩
  walk_at "rds"
  delta tNil
  exact ⟨d, _, rfl, .inl (sq at_.du), q⟩
theorem m_Disk__pending {C_Disk : Addr} {C_DiskError : Addr} {C_DiskCrashed : Addr} (T : Txt K mg C_Disk C_DiskError C_DiskCrashed) : Met P w K mg base 1 C_Disk "pending" (spDk0 C_Disk fun s Q _ H => ∀ H' r, Same H H' → H r = none → H' r = some (.lst (s.wr.map fun x => V.int x.1)) → Q (.ref r) H') [] := by
  refine met T.cl_Disk T.me_Disk__pending sc_Disk__pending (fun vs H Q E h => ?_) (fun f cdv A outer s H vs Q E hr h => ?_)
  · obtain ⟨p, d, c, l, ts, s, n, m, rfl, _⟩ := h; rfl
  obtain ⟨p, d, c, l, ts, s, n, m, rfl, at_, ok, q⟩ := h
  obtain ⟨dx, g⟩ := at_.ins
  refine ⟨_, (pss_one (ps_ret (pe_lc (own := [("index", 1), ("_", 2)]) (g := _) (by rfl) sc_Disk__pending.nd (pi_list (pe_fld (pv 0) rfl)) (blkOk_by (own := [("index", 1), ("_", 2)]) (N := ["self", "index", "_"]) (sc := defScope s_Disk__pending) (by decide +kernel)) (fun _ _ _ _ _ => kgtup (K := K) (n := 2) (by rfl) (pgs_cons (pg_name (i := 1) sc_Disk__pending.nd rfl (Or.inl rfl)) (pgs_cons (pg_name (i := 2) sc_Disk__pending.nd rfl (Or.inl rfl)) pgs_nil))) (fun _ _ _ _ _ => pts_nil) (fun _ _ _ _ _ => (pv 1))))), ?_⟩
  walk_at "rds"
  refine ⟨p, C_Disk, dx, _, _, rfl, g, T.cl_Disk, T.na_Disk__writes, rfl, ?_⟩
  have ltw := at_.tw.1
  refine ⟨l, rfl, ⟨_, sq at_.wl⟩, fun D hD => ?_⟩
  refine lc_it (walk_list (K := K) (a := l) (xs := ts.map V.ref)) (Pv := fun k H' => Same H H' ∧ H' D = some (.lst ((s.wr.take k).map fun x => V.int x.1))) ⟨same_upd hD, upd_same⟩ (fun _ _ _ h => sq (h.1 _ _ at_.wl)) (fun k x H6 H7 hk hp hy => ?_) (fun H6 hp => ?_)
  · obtain ⟨s6, hD6⟩ := hp
    obtain ⟨rfl, e5⟩ := hy
    rw [List.length_map] at hk
    have g1 : ts[k]? = some ts[k] := List.getElem?_eq_getElem hk
    have g2 : s.wr[k]? = some s.wr[k] := List.getElem?_eq_getElem (by omega)
    have ex : x = .ref ts[k] := by rw [List.getElem?_map, g1] at e5; exact (Option.some.inj e5).symm
    subst ex
    have ht := s6 _ _ (at_.tw.2 k _ _ g1 g2)
    have e : (s.wr.take (k + 1)).map (fun x => V.int x.1) = (s.wr.take k).map (fun x => V.int x.1) ++ [V.int s.wr[k].1] := by rw [List.take_add_one, g2, List.map_append]; rfl
    have wm := ok.wm
    have mm := ok.mm
    refine ⟨_, _, rfl, .inl (.inl ht), rfl, _, _, rfl, _, _, rfl, rfl, rfl, tyes ?_⟩
    walk_at "rds"
    refine ⟨_, hD6, by rw [List.length_map, List.length_take]; exact sz1000' (by omega), same_mut s6 hD, ?_⟩
    rw [upd_same, e]
  · obtain ⟨s6, hD6⟩ := hp
    rw [List.length_map, ltw, List.take_length] at hD6
    exact q _ D s6 hD hD6
theorem m_Disk__arm {C_Disk : Addr} {C_DiskError : Addr} {C_DiskCrashed : Addr} (T : Txt K mg C_Disk C_DiskError C_DiskCrashed) : Met P w K mg base 1 C_Disk "arm" (fun vs H Q _ => ∃ (p d c l : Addr) (ts : List Addr) (s : DS) (k : Nat), vs = [.ref p, .int k] ∧ DkAt C_Disk H p d c l ts s ∧ DkOut C_Disk H p d c l { s with pas := some k } fun H' => Q .non H') [] := by
  refine met T.cl_Disk T.me_Disk__arm sc_Disk__arm (fun vs H Q E h => ?_) (fun f cdv A outer s H vs Q E hr h => ?_)
  · obtain ⟨p, d, c, l, ts, s, k, rfl, _⟩ := h; rfl
  obtain ⟨p, d, c, l, ts, s, k, rfl, at_, q⟩ := h
  obtain ⟨dx, g⟩ := at_.ins
  refine ⟨_, (pss_one (ps_fld (pv 0) (pv 1) rfl)), ?_⟩
  walk_at "rds"
  refine ⟨p, C_Disk, dx, _, rfl, g, T.cl_Disk, T.na_Disk__passing, by show (5 : Nat) < 1000; decide, ?_⟩
  exact q.at but_p (at_.own (some k) s.cra)
theorem m_Disk___check_sector {C_Disk : Addr} {C_DiskError : Addr} {C_DiskCrashed : Addr} (T : Txt K mg C_Disk C_DiskError C_DiskCrashed) : MetX P w K mg base 2 C_Disk "_check_sector" (fun vs H Q E => ∃ (p d c l : Addr) (ts : List Addr) (s : DS) (n m : Nat) (i : Int), vs = [.ref p, .int i] ∧ DkAt C_Disk H p d c l ts s ∧ DOk s n m ∧ (inR s i = false → E (.ref C_DiskError) none H) ∧ (inR s i = true → Q .non H)) := by
  have c_is_integer := c_is_integer (P := P) (w := w) (K := K) (base := base) T
  refine metX T.cl_Disk T.me_Disk___check_sector sc_Disk___check_sector (fun vs H Q E h => ?_) (fun f cdv A outer s H vs Q E hr h => ?_)
  · obtain ⟨p, d, c, l, ts, s, n, m, i, rfl, _⟩ := h; rfl
  obtain ⟨p, d, c, l, ts, s, n, m, i, rfl, at_, ok, e, q⟩ := h
  obtain ⟨dx, g⟩ := at_.ins
  refine ⟨_, (pss_one (ps_if (pt_not (pt_val (pe_c c_is_integer hr (by decide) (by rfl) (pa_cons (pv 1) (pa_cons pe_int (pa_cons (pe_op op_sub (pe_callB (klen (K := K)) (by rfl) T.z_len (by decide +kernel) (pa_cons (pe_fld (pv 0) rfl) pa_nil)) pe_int) pa_nil)))))) (pss_one (ps_raise rfl (takes_of rfl rfl rfl rfl) (pmk_ok T.x_DiskError (by rfl)))) pss_nil)), ?_⟩
  walk_at "rds"
  refine ⟨p, C_Disk, dx, _, _, rfl, g, T.cl_Disk, T.na_Disk__durable, rfl, ?_⟩
  walk_at "rds"
  refine ⟨d, _, rfl, .inl (sq at_.du), ?_⟩
  rw [List.length_map]
  walk_at "rds"
  delta tNil
  refine ⟨.int i, 0, _, rfl, .inl ⟨i, rfl, ?_⟩⟩
  refine ⟨_, rfl, ?_⟩
  have e1 : inR s i = decide (0 ≤ i ∧ i ≤ (s.dur.length : Int) - 1) := by unfold inR; rw [← Bool.decide_and]
  rw [e1] at e q
  cases hd : decide (0 ≤ i ∧ i ≤ (s.dur.length : Int) - 1) with
  | false => exact ifT rfl (e hd)
  | true => exact ifF rfl (q hd)
theorem m_Disk__read {C_Disk : Addr} {C_DiskError : Addr} {C_DiskCrashed : Addr} (T : Txt K mg C_Disk C_DiskError C_DiskCrashed) : MetX P w K mg base 3 C_Disk "read" (fun vs H Q E => ∃ (p d c l : Addr) (ts : List Addr) (s : DS) (n m : Nat) (i : Int), vs = [.ref p, .int i] ∧ DkAt C_Disk H p d c l ts s ∧ DOk s n m ∧ Fin C_Disk C_DiskCrashed C_DiskError H p d c l Q E (dRead s i)) := by
  have m_Disk___check_running := m_Disk___check_running (P := P) (w := w) (base := base) T
  have m_Disk___check_sector := m_Disk___check_sector (P := P) (w := w) (K := K) (base := base) T
  refine metX T.cl_Disk T.me_Disk__read sc_Disk__read (fun vs H Q E h => ?_) (fun f cdv A outer s H vs Q E hr h => ?_)
  · obtain ⟨p, d, c, l, ts, s, n, m, i, rfl, _⟩ := h; rfl
  obtain ⟨p, d, c, l, ts, s, n, m, i, rfl, at_, ok, q⟩ := h
  obtain ⟨dx, g⟩ := at_.ins
  refine ⟨_, (pss_cons (ps_expr (pe_mtX0 m_Disk___check_running hr (by decide) (fun σ => passAt (takes_of rfl rfl rfl rfl) σ) (pv 0)))
      (pss_cons (ps_expr (pe_mtX m_Disk___check_sector hr (by decide) (fun σ => passAt (takes_of rfl rfl rfl rfl) σ) (pv 0) (pa_cons (pv 1) pa_nil)))
      (pss_one (ps_ret (pe_ix (kixl (K := K)) (pe_fld (pv 0) rfl) (pv 1) (fun _ _ => rfl)))))), ?_⟩
  walk_at "rds"
  unfold dRead at q
  refine ⟨p, dx, _, rfl, g, rfl, ?_⟩
  walk_at "rds"
  refine ⟨p, d, c, l, ts, s, n, m, rfl, at_, ok, fun hc => ?_, fun hc => ?_⟩
  · rw [if_pos hc] at q
    exact DkOut.here q at_
  rw [if_neg (by rw [hc]; decide)] at q
  walk_at "rds"
  refine ⟨p, dx, _, rfl, g, rfl, ?_⟩
  walk_at "rds"
  refine ⟨p, d, c, l, ts, s, n, m, i, rfl, at_, ok, fun hi => ?_, fun hi => ?_⟩
  · rw [if_neg (by rw [hi]; decide)] at q
    exact DkOut.here q at_
  rw [if_pos hi] at q
  walk_at "rds"
  refine ⟨p, C_Disk, dx, _, _, rfl, g, T.cl_Disk, T.na_Disk__current, rfl, ?_⟩
  walk_at "rds"
  obtain ⟨k, rfl, hk⟩ := inR_nat hi
  have hc : k < s.cur.length := by have := ok.ld; have := ok.lc; omega
  refine ⟨c, _, ((k : Nat) : Int), _, rfl, rfl, sq at_.cu, atI_nat (by rw [List.getElem?_map, List.getElem?_eq_getElem hc]; rfl), ?_⟩
  have q := DkOut.here q at_
  have q : Q (ovV (some (s.cur.getD k ⟨#[]⟩))) H := q
  rw [List.getD_eq_getElem?_getD, List.getElem?_eq_getElem hc] at q
  exact q
theorem m_Disk__write {C_Disk : Addr} {C_DiskError : Addr} {C_DiskCrashed : Addr} (T : Txt K mg C_Disk C_DiskError C_DiskCrashed) : MetX P w K mg base 3 C_Disk "write" (fun vs H Q E => ∃ (p d c l : Addr) (ts : List Addr) (s : DS) (n m : Nat) (i : Int) (z : Str), vs = [.ref p, .int i, .str z] ∧ DkAt C_Disk H p d c l ts s ∧ DOk s n m ∧ z.length ≤ 1000 ∧ Fin C_Disk C_DiskCrashed C_DiskError H p d c l Q E (dWrite s i z)) := by
  have m_Disk___check_running := m_Disk___check_running (P := P) (w := w) (base := base) T
  have m_Disk___check_sector := m_Disk___check_sector (P := P) (w := w) (K := K) (base := base) T
  have m_Disk___begin_operation := m_Disk___begin_operation (P := P) (w := w) (K := K) (base := base) T
  refine metX T.cl_Disk T.me_Disk__write sc_Disk__write (fun vs H Q E h => ?_) (fun f cdv A outer s H vs Q E hr h => ?_)
  · obtain ⟨p, d, c, l, ts, s, n, m, i, z, rfl, _⟩ := h; rfl
  obtain ⟨p, d, c, l, ts, s, n, m, i, z, rfl, at_, ok, hz, q⟩ := h
  obtain ⟨dx, g⟩ := at_.ins
  refine ⟨_, (pss_cons (ps_expr (pe_mtX0 m_Disk___check_running hr (by decide) (fun σ => passAt (takes_of rfl rfl rfl rfl) σ) (pv 0)))
      (pss_cons (ps_expr (pe_mtX m_Disk___check_sector hr (by decide) (fun σ => passAt (takes_of rfl rfl rfl rfl) σ) (pv 0) (pa_cons (pv 1) pa_nil)))
      (pss_cons (ps_if (PW.pt (pw_or (pt_not (pt_val (pe_callB (kisi (K := K)) (by rfl) T.z_isinstance (by decide +kernel) (pa_cons (pv 2) (pa_cons (pe_bltn (v := .ty "str") (by rfl) T.z_str (by decide +kernel) rfl) pa_nil))))) (pw_or1 (pt_cmpR op_gt (pe_callB call_len_str (by rfl) T.z_len (by decide +kernel) (pa_cons (pv 2) pa_nil)) (pe_gc (by rfl) T.c_SECTOR_SIZE) (nomark _))))) (pss_one (ps_raise rfl (takes_of rfl rfl rfl rfl) (pmk_ok T.x_DiskError (by rfl)))) pss_nil)
      (pss_cons (ps_expr (pe_mtX0 m_Disk___begin_operation hr (by decide) (fun σ => passAt (takes_of rfl rfl rfl rfl) σ) (pv 0)))
      (pss_cons (ps_asg (pv 2) (pg_sub (pe_fld (pv 0) rfl) (pv 1) set_list))
      (pss_one (ps_expr (pe_bm PySem.F.plainAttrs_list PySem.F.slot_list_append PySem.F.type_list_append mt_append (pe_fld (pv 0) rfl) (pa_cons (pe_tup (pa_cons (pv 1) (pa_cons (pv 2) pa_nil))) pa_nil))))))))), ?_⟩
  walk_at "rds"
  unfold dWrite at q
  refine ⟨p, dx, _, rfl, g, rfl, ?_⟩
  walk_at "rds"
  refine ⟨p, d, c, l, ts, s, n, m, rfl, at_, ok, fun hc => ?_, fun hc => ?_⟩
  · rw [if_pos hc] at q
    exact DkOut.here q at_
  rw [if_neg (by rw [hc]; decide)] at q
  walk_at "rds"
  refine ⟨p, dx, _, rfl, g, rfl, ?_⟩
  walk_at "rds"
  refine ⟨p, d, c, l, ts, s, n, m, i, rfl, at_, ok, fun hi => ?_, fun hi => ?_⟩
  · rw [if_neg (by rw [hi]; decide)] at q
    exact DkOut.here q at_
  rw [if_pos hi] at q
  obtain ⟨k, rfl, hk⟩ := inR_nat hi
  walk_at "rds"
  walk_at "isi"
  walk_at "rds"
  by_cases h96 : 96 < z.length
  · rw [if_pos h96] at q
    refine ifT (decide_eq_true (by omega)) ?_
    walk_at "rds"
    exact DkOut.here q at_
  rw [if_neg h96] at q
  refine ifF (decide_eq_false (by omega)) ?_
  walk_at "rds"
  refine ⟨p, dx, _, rfl, g, rfl, ?_⟩
  walk_at "rds"
  refine ⟨p, d, c, l, ts, s, rfl, at_, ?_⟩
  cases ho : opB s with
  | none => rw [ho] at q; exact q
  | some s1 =>
  rw [ho] at q
  obtain ⟨e1, e2, e3, e4⟩ := opB_eq ho
  intro H1 d1 c1 l1 ts1 b1 hd1 hc1 hl1 at1
  obtain ⟨dx1, g1⟩ := at1.ins
  walk_at "rds"
  obtain ⟨n1, n2, n3⟩ := at1.pne
  have hs := at1.tw
  refine ⟨p, C_Disk, dx1, _, _, rfl, g1, T.cl_Disk, T.na_Disk__current, rfl, ?_⟩
  walk_at "rds"
  have hk1 : k < s1.cur.length := by rw [e2]; have := ok.ld; have := ok.lc; omega
  refine ⟨c1, _, ((k : Nat) : Int), k, rfl, rfl, at1.cu, ixN_in (by rw [List.length_map]; exact hk1), ?_⟩
  rw [← List.map_set]
  have b2 := bt_next (o := .lst ((s1.cur.set k z).map V.str)) b1 (old (by simp) hc1)
  have g2 : upd H1 c1 (.lst ((s1.cur.set k z).map V.str)) p = some (.ins C_Disk dx1 (dkF d1 c1 l1 s1.pas s1.cra)) := by rw [upd_ne n2]; exact g1
  have du2 : upd H1 c1 (.lst ((s1.cur.set k z).map V.str)) d1 = some (.lst (s1.dur.map V.str)) := by rw [upd_ne at1.dc]; exact at1.du
  have cu2 : upd H1 c1 (.lst ((s1.cur.set k z).map V.str)) c1 = some (.lst ((s1.cur.set k z).map V.str)) := upd_same
  have wl2 : upd H1 c1 (.lst ((s1.cur.set k z).map V.str)) l1 = some (.lst (ts1.map V.ref)) := by rw [upd_ne at1.cl.symm]; exact at1.wl
  have tw2 : TwAt (upd H1 c1 (.lst ((s1.cur.set k z).map V.str))) ts1 s1.wr := at1.tw.keep fun a xs e => by rw [upd_ne (fun z => by rw [z, at1.cu] at e; cases e)]; exact e
  generalize upd H1 c1 (.lst ((s1.cur.set k z).map V.str)) = H2 at b2 g2 du2 cu2 wl2 tw2 ⊢
  walk_at "rds"
  refine ⟨p, C_Disk, dx1, _, _, rfl, g2, T.cl_Disk, T.na_Disk__writes, rfl, ?_⟩
  walk_at "rds"
  refine ⟨.inl ⟨rfl, _, sq wl2⟩, ?_⟩
  walk_at "rds"
  intro t ht
  walk_at "rds"
  have s3 := same_upd (o := .tup [.int ((k : Nat) : Int), .str z]) ht
  have ht3 : upd H2 t (.tup [.int ((k : Nat) : Int), .str z]) t = some (.tup [.int ((k : Nat) : Int), .str z]) := upd_same
  have b3 : Bt [p, d, c, l] H (upd H2 t (.tup [.int ((k : Nat) : Int), .str z])) := b2.trans (Same.bt s3)
  have g3 := s3 _ _ g2
  have du3 := s3 _ _ du2
  have cu3 := s3 _ _ cu2
  have wl3 := s3 _ _ wl2
  have tw3 := (tw2.keep fun a xs e => s3 _ _ e).snoc (x := (k, z)) ht3
  generalize upd H2 t (.tup [.int ((k : Nat) : Int), .str z]) = H3 at s3 b3 g3 du3 cu3 wl3 tw3 ⊢
  have lts : ts1.length ≤ 1000 := by rw [hs.1, e3]; have := ok.wm; have := ok.mm; omega
  refine ⟨l1, _, _, rfl, rfl, wl3, by rw [List.length_map]; exact sz1000' (by omega), ?_⟩
  have em : ts1.map V.ref ++ [V.ref t] = (ts1 ++ [t]).map V.ref := by rw [List.map_append]; rfl
  rw [em]
  refine q _ d1 c1 l1 (ts1 ++ [t]) (bt_next b3 (old (by simp) hl1)) hd1 hc1 hl1 ⟨⟨dx1, by rw [upd_ne n3]; exact g3⟩, by rw [upd_ne at1.dl]; exact du3, by rw [upd_ne at1.cl]; exact cu3, upd_same, tw3.keep fun a xs e => ?_, at1.dc, at1.dl, at1.cl⟩
  rw [upd_ne (fun z => by rw [z, wl3] at e; cases e)]; exact e
theorem m_Disk__sync {C_Disk : Addr} {C_DiskError : Addr} {C_DiskCrashed : Addr} (T : Txt K mg C_Disk C_DiskError C_DiskCrashed) : MetX P w K mg base 3 C_Disk "sync" (fun vs H Q E => ∃ (p d c l : Addr) (ts : List Addr) (s : DS) (n m : Nat), vs = [.ref p] ∧ DkAt C_Disk H p d c l ts s ∧ DOk s n m ∧ Fin C_Disk C_DiskCrashed C_DiskError H p d c l Q E (dSync s)) := by
  have m_Disk___check_running := m_Disk___check_running (P := P) (w := w) (base := base) T
  have m_Disk___begin_operation := m_Disk___begin_operation (P := P) (w := w) (K := K) (base := base) T
  refine metX T.cl_Disk T.me_Disk__sync sc_Disk__sync (fun vs H Q E h => ?_) (fun f cdv A outer s H vs Q E hr h => ?_)
  · obtain ⟨p, d, c, l, ts, s, n, m, rfl, _⟩ := h; rfl
  obtain ⟨p, d, c, l, ts, s, n, m, rfl, at_, ok, q⟩ := h
  obtain ⟨dx, g⟩ := at_.ins
  refine ⟨_, (pss_cons (ps_expr (pe_mtX0 m_Disk___check_running hr (by decide) (fun σ => passAt (takes_of rfl rfl rfl rfl) σ) (pv 0)))
      (pss_cons (ps_expr (pe_mtX0 m_Disk___begin_operation hr (by decide) (fun σ => passAt (takes_of rfl rfl rfl rfl) σ) (pv 0)))
      (pss_cons (ps_fld (pv 0) (pe_callTy call_list_of (by rfl) T.z_list (by decide +kernel) (pa_cons (pe_fld (pv 0) rfl) pa_nil)) rfl)
      (pss_one (ps_fld (pv 0) (pe_lst pa_nil) rfl))))), ?_⟩
  walk_at "rds"
  unfold dSync at q
  refine ⟨p, dx, _, rfl, g, rfl, ?_⟩
  walk_at "rds"
  refine ⟨p, d, c, l, ts, s, n, m, rfl, at_, ok, fun hc => ?_, fun hc => ?_⟩
  · rw [if_pos hc] at q
    exact DkOut.here q at_
  rw [if_neg (by rw [hc]; decide)] at q
  walk_at "rds"
  refine ⟨p, dx, _, rfl, g, rfl, ?_⟩
  walk_at "rds"
  refine ⟨p, d, c, l, ts, s, rfl, at_, ?_⟩
  cases ho : opB s with
  | none => rw [ho] at q; exact q
  | some s1 =>
  rw [ho] at q
  obtain ⟨e1, e2, e3, e4⟩ := opB_eq ho
  intro H1 d1 c1 l1 ts1 b1 hd1 hc1 hl1 at1
  obtain ⟨dx1, g1⟩ := at1.ins
  obtain ⟨n1, n2, n3⟩ := at1.pne
  walk_at "rds"
  refine ⟨p, C_Disk, dx1, _, _, rfl, g1, T.cl_Disk, T.na_Disk__current, rfl, ?_⟩
  walk_at "rds"
  (try delta tNil)
  refine ⟨c1, _, rfl, .inl (sq at1.cu), fun d2 nd2 => ?_⟩
  have s2 := same_upd (o := .lst (s1.cur.map V.str)) nd2
  have g2 := s2 _ _ g1
  have cu2 := s2 _ _ at1.cu
  have d2h : upd H1 d2 (.lst (s1.cur.map V.str)) d2 = some (.lst (s1.cur.map V.str)) := upd_same
  have b2 := b1.trans (Same.bt s2)
  have pd2 : p ≠ d2 := fun z => by rw [← z, g1] at nd2; cases nd2
  have dc2 : d2 ≠ c1 := fun z => by rw [z, at1.cu] at nd2; cases nd2
  generalize upd H1 d2 (.lst (s1.cur.map V.str)) = H2 at s2 g2 cu2 d2h b2 ⊢
  walk_at "rds"
  refine ⟨p, C_Disk, dx1, _, rfl, g2, T.cl_Disk, T.na_Disk__durable, by show (5 : Nat) < 1000; decide, ?_⟩
  rw [put_dur]
  have b3 := bt_next (x := p) (o := .ins C_Disk dx1 (dkF d2 c1 l1 s1.pas s1.cra)) b2 (.inl (by simp))
  have g3 : upd H2 p (.ins C_Disk dx1 (dkF d2 c1 l1 s1.pas s1.cra)) p = some (.ins C_Disk dx1 (dkF d2 c1 l1 s1.pas s1.cra)) := upd_same
  have d3 : upd H2 p (.ins C_Disk dx1 (dkF d2 c1 l1 s1.pas s1.cra)) d2 = some (.lst (s1.cur.map V.str)) := by rw [upd_ne pd2.symm]; exact d2h
  have c3 : upd H2 p (.ins C_Disk dx1 (dkF d2 c1 l1 s1.pas s1.cra)) c1 = some (.lst (s1.cur.map V.str)) := by rw [upd_ne n2.symm]; exact cu2
  generalize upd H2 p (.ins C_Disk dx1 (dkF d2 c1 l1 s1.pas s1.cra)) = H3 at b3 g3 d3 c3 ⊢
  walk_at "rds"
  intro l2 nl2
  have s4 := same_upd (o := .lst []) nl2
  have b4 := b3.trans (Same.bt s4)
  have g4 := s4 _ _ g3
  have d4 := s4 _ _ d3
  have c4 := s4 _ _ c3
  have l4 : upd H3 l2 (.lst []) l2 = some (.lst []) := upd_same
  have npl : p ≠ l2 := fun z => by rw [← z, g3] at nl2; cases nl2
  have ndl : d2 ≠ l2 := fun z => by rw [← z, d3] at nl2; cases nl2
  have ncl : c1 ≠ l2 := fun z => by rw [← z, c3] at nl2; cases nl2
  generalize upd H3 l2 (.lst []) = H4 at b4 g4 d4 c4 l4 ⊢
  walk_at "rds"
  refine ⟨p, C_Disk, dx1, _, rfl, g4, T.cl_Disk, T.na_Disk__writes, by show (5 : Nat) < 1000; decide, ?_⟩
  rw [put_wri]
  refine q _ d2 c1 l2 [] (bt_next (x := p) b4 (.inl (by simp))) (.inr (b1.2 _ nd2)) hc1 (.inr (b3.2 _ nl2)) ⟨⟨dx1, upd_same⟩, ?_, ?_, ?_, TwAt.nil, dc2, ndl, ncl⟩
  · rw [upd_ne pd2.symm]; exact d4
  · rw [upd_ne n2.symm]; exact c4
  · rw [upd_ne npl.symm]; exact l4
end

section
variable {P : Program} {w : World} {K : PySem.W.Frag} {mg : Str → Option Value} {base : Heap}
theorem m_Disk__crash {C_Disk : Addr} {C_DiskError : Addr} {C_DiskCrashed : Addr} (T : Txt K mg C_Disk C_DiskError C_DiskCrashed) : Met P w K mg base 1 C_Disk "crash" (fun vs H Q _ => ∃ (p d c l b : Addr) (ts : List Addr) (s : DS) (n m : Nat) (bs : List Bool), vs = [.ref p, .ref b] ∧ DkAt C_Disk H p d c l ts s ∧ DOk s n m ∧ H b = some (.lst (bs.map V.bl)) ∧ b ∉ [p, d, c, l] ∧ bs.length ≤ 100 ∧ DkOut C_Disk H p d c l (dCrash s bs) fun H' => Q .non H') [] := by
  refine met T.cl_Disk T.me_Disk__crash sc_Disk__crash (fun vs H Q E h => ?_) (fun f cdv A outer s H vs Q E hr h => ?_)
  · obtain ⟨p, d, c, l, b, ts, s, n, m, bs, rfl, _⟩ := h; rfl
  obtain ⟨p, d, c, l, b, ts, s, n, m, bs, rfl, at_, ok, hb, nb, hbs, q⟩ := h
  obtain ⟨dx, g⟩ := at_.ins
  refine ⟨_, (pss_cons (ps_for PassesOwn.never rfl (pi_zip (by rfl) T.z_zip (pa_cons (pe_fld (pv 0) rfl) (pa_cons (pv 1) pa_nil))) (pg_tup (by rfl) (pgs_cons (pg_tup (by rfl) (pgs_cons (pg_name (i := 2) sc_Disk__crash.nd rfl (Or.inl rfl)) (pgs_cons (pg_name (i := 3) sc_Disk__crash.nd rfl (Or.inl rfl)) pgs_nil))) (pgs_cons (pg_name (i := 4) sc_Disk__crash.nd rfl (Or.inl rfl)) pgs_nil))) (pss_one (ps_if (pt_val (pv 4)) (pss_one (ps_asg (pv 3) (pg_sub (pe_fld (pv 0) rfl) (pv 2) set_list))) pss_nil)))
      (pss_cons (ps_fld (pv 0) (pe_callTy call_list_of (by rfl) T.z_list (by decide +kernel) (pa_cons (pe_fld (pv 0) rfl) pa_nil)) rfl)
      (pss_cons (ps_fld (pv 0) (pe_lst pa_nil) rfl)
      (pss_cons (ps_fld (pv 0) pe_non rfl)
      (pss_one (ps_fld (pv 0) pe_bl rfl)))))), ?_⟩
  walk_at "rds"
  refine ⟨p, C_Disk, dx, _, _, rfl, g, T.cl_Disk, T.na_Disk__writes, rfl, ?_⟩
  walk_at "rds"
  (try delta tNil)
  have wi := ok.wi
  have ltw := at_.tw.1
  simp only [List.mem_cons, List.not_mem_nil, or_false, not_or] at nb
  obtain ⟨bp, bd, bc, bl⟩ := nb
  refine ⟨l, b, _, _, rfl, sq at_.wl, sq hb, ?_⟩
  refine for_it (walk_zip (K := K) (a := l) (b := b) (xs := ts.map V.ref) (ys := bs.map V.bl) rfl) (Pv := fun i σ H' => ∃ (du : List Str) (y2 y3 y4 : Option V), σ = [some (.ref p), some (.ref b), y2, y3, y4] ∧ Bt [p, d, c, l] H H' ∧ DkAt C_Disk H' p d c l ts { s with dur := du } ∧ H' b = some (.lst (bs.map V.bl)) ∧ du.length = n ∧ crF s.dur s.wr bs = crF du (s.wr.drop i) (bs.drop i)) ⟨s.dur, none, none, none, rfl, .refl, at_, hb, ok.ld, rfl⟩ (fun _ _ _ _ h => by obtain ⟨_, _, _, _, _, _, h1, h2, _⟩ := h; exact ⟨sq h1.wl, sq h2⟩) (fun i x σ H6 H7 hi hp hy => ?_) (fun σ H6 hp => ?_)
  · obtain ⟨du, y2, y3, y4, rfl, b6, at6, hb6, ldu, ecr⟩ := hp
    obtain ⟨t, v1, v2, e1, e2, e3, e4, e5⟩ := hy
    subst e1
    subst e3
    have e4 : (ts.map V.ref)[i]? = some v1 := e4
    have e5 : (bs.map V.bl)[i]? = some v2 := e5
    rw [List.length_map, List.length_map] at hi
    have g1 : ts[i]? = some ts[i] := List.getElem?_eq_getElem (by omega)
    have g2 : bs[i]? = some bs[i] := List.getElem?_eq_getElem (by omega)
    have g3 : s.wr[i]? = some s.wr[i] := List.getElem?_eq_getElem (by omega)
    have hiw : i < s.wr.length := by omega
    have hib : i < bs.length := by omega
    rw [List.drop_eq_getElem_cons hiw, List.drop_eq_getElem_cons hib, crF] at ecr
    have x1 : v1 = .ref ts[i] := by rw [List.getElem?_map, g1] at e4; exact (Option.some.inj e4).symm
    have x2 : v2 = .bl bs[i] := by rw [List.getElem?_map, g2] at e5; exact (Option.some.inj e5).symm
    subst x1; subst x2
    have htp := at6.tw.2 i _ _ g1 g3
    have hwi := wi _ (List.getElem_mem hiw)
    have s7 : Same H6 (upd H6 t (.tup [.ref ts[i], .bl bs[i]])) := same_upd e2
    have ht7 : upd H6 t (.tup [.ref ts[i], .bl bs[i]]) t = some (.tup [.ref ts[i], .bl bs[i]]) := upd_same
    have b7 := b6.trans (Same.bt s7)
    have at7 := at6.on s7
    have hb7 := s7 _ _ hb6
    have hp7 := s7 _ _ htp
    generalize upd H6 t (.tup [.ref ts[i], .bl bs[i]]) = H7 at s7 ht7 b7 at7 hb7 hp7 ⊢
    refine ⟨t, _, rfl, .inl (.inl ht7), rfl, ?_⟩
    generalize ts[i] = ti at hp7
    generalize s.wr[i] = wx at hp7 hwi ecr
    generalize bs[i] = bb at ecr
    obtain ⟨ix, tx⟩ := wx
    have hwi : ix < n := hwi
    refine ⟨_, _, rfl, ⟨ti, _, rfl, .inl (.inl hp7), rfl, _, _, rfl, _, _, rfl, rfl, ?_⟩⟩
    refine ⟨_, _, rfl, rfl, ?_⟩
    walk_at "rds"
    cases bb with
    | false =>
      refine ifF rfl ?_
      exact ⟨du, _, _, _, rfl, b7, at7, hb7, ldu, ecr⟩
    | true =>
      refine ifT rfl ?_
      walk_at "rds"
      obtain ⟨dx7, g7⟩ := at7.ins
      obtain ⟨n1, n2, n3⟩ := at7.pne
      refine ⟨p, C_Disk, dx7, _, _, rfl, g7, T.cl_Disk, T.na_Disk__durable, rfl, ?_⟩
      walk_at "rds"
      refine ⟨d, _, ((ix : Nat) : Int), ix, rfl, rfl, at7.du, ixN_in (by rw [List.length_map]; show ix < du.length; omega), ?_⟩
      have em : (du.map V.str).set ix (.str tx) = (du.set ix tx).map V.str := List.map_set.symm
      show ∃ _, _
      rw [em]
      refine ⟨du.set ix tx, _, _, _, rfl, bt_next b7 (.inl (by simp)), ⟨⟨dx7, by rw [upd_ne n1]; exact g7⟩, upd_same, by rw [upd_ne at7.dc.symm]; exact at7.cu, by rw [upd_ne at7.dl.symm]; exact at7.wl, at7.tw.keep fun a xs e => by rw [upd_ne (fun z => by rw [z, at7.du] at e; cases e)]; exact e, at7.dc, at7.dl, at7.cl⟩, by rw [upd_ne bd]; exact hb7, by rw [List.length_set]; exact ldu, ecr⟩
  · obtain ⟨du, y2, y3, y4, rfl, b6, at6, hb6, ldu, ecr⟩ := hp
    have edu : crF s.dur s.wr bs = du := by
      rw [ecr]
      rw [List.length_map, List.length_map, ltw]
      exact crF_end
    have q : DkOut C_Disk H p d c l ⟨du, du, [], none, false⟩ fun H' => Q .non H' := by
      have e : dCrash s bs = ⟨du, du, [], none, false⟩ := by unfold dCrash; rw [edu]
      rw [← e]; exact q
    obtain ⟨dx6, g6⟩ := at6.ins
    obtain ⟨n1, n2, n3⟩ := at6.pne
    walk_at "rds"
    refine ⟨p, C_Disk, dx6, _, _, rfl, g6, T.cl_Disk, T.na_Disk__durable, rfl, ?_⟩
    walk_at "rds"
    (try delta tNil)
    refine ⟨d, _, rfl, .inl (sq at6.du), fun c2 nc2 => ?_⟩
    have s7 := same_upd (o := .lst (du.map V.str)) nc2
    have g7 := s7 _ _ g6
    have d7 := s7 _ _ at6.du
    have c7 : upd H6 c2 (.lst (du.map V.str)) c2 = some (.lst (du.map V.str)) := upd_same
    have b7 := b6.trans (Same.bt s7)
    have pc2 : p ≠ c2 := fun z => by rw [← z, g6] at nc2; cases nc2
    have dc2 : d ≠ c2 := fun z => by rw [← z, at6.du] at nc2; cases nc2
    generalize upd H6 c2 (.lst (du.map V.str)) = H7 at s7 g7 d7 c7 b7 ⊢
    walk_at "rds"
    refine ⟨p, C_Disk, dx6, _, rfl, g7, T.cl_Disk, T.na_Disk__current, by show (5 : Nat) < 1000; decide, ?_⟩
    rw [put_cur]
    have b8 := bt_next (x := p) (o := .ins C_Disk dx6 (dkF d c2 l s.pas s.cra)) b7 (.inl (by simp))
    have g8 : upd H7 p (.ins C_Disk dx6 (dkF d c2 l s.pas s.cra)) p = some (.ins C_Disk dx6 (dkF d c2 l s.pas s.cra)) := upd_same
    have d8 : upd H7 p (.ins C_Disk dx6 (dkF d c2 l s.pas s.cra)) d = some (.lst (du.map V.str)) := by rw [upd_ne n1.symm]; exact d7
    have c8 : upd H7 p (.ins C_Disk dx6 (dkF d c2 l s.pas s.cra)) c2 = some (.lst (du.map V.str)) := by rw [upd_ne pc2.symm]; exact c7
    generalize upd H7 p (.ins C_Disk dx6 (dkF d c2 l s.pas s.cra)) = H8 at b8 g8 d8 c8 ⊢
    walk_at "rds"
    intro l2 nl2
    have s9 := same_upd (o := .lst []) nl2
    have b9 := b8.trans (Same.bt s9)
    have g9 := s9 _ _ g8
    have d9 := s9 _ _ d8
    have c9 := s9 _ _ c8
    have l9 : upd H8 l2 (.lst []) l2 = some (.lst []) := upd_same
    have npl : p ≠ l2 := fun z => by rw [← z, g8] at nl2; cases nl2
    have ndl : d ≠ l2 := fun z => by rw [← z, d8] at nl2; cases nl2
    have ncl : c2 ≠ l2 := fun z => by rw [← z, c8] at nl2; cases nl2
    generalize upd H8 l2 (.lst []) = H9 at b9 g9 d9 c9 l9 ⊢
    walk_at "rds"
    refine ⟨p, C_Disk, dx6, _, rfl, g9, T.cl_Disk, T.na_Disk__writes, by show (5 : Nat) < 1000; decide, ?_⟩
    rw [put_wri]
    walk_at "rds"
    refine ⟨p, C_Disk, dx6, _, rfl, upd_same, T.cl_Disk, T.na_Disk__passing, by show (5 : Nat) < 1000; decide, ?_⟩
    walk_at "rds"
    refine ⟨p, C_Disk, dx6, _, rfl, upd_same, T.cl_Disk, T.na_Disk__crashed, by show (5 : Nat) < 1000; decide, ?_⟩
    refine q _ d c2 l2 [] (bt_next (x := p) (bt_next (x := p) (bt_next (x := p) b9 (.inl (by simp))) (.inl (by simp))) (.inl (by simp))) (.inl rfl) (.inr (b6.2 _ nc2)) (.inr (b8.2 _ nl2)) ⟨⟨dx6, upd_same⟩, ?_, ?_, ?_, TwAt.nil, dc2, ndl, ncl⟩
    · rw [upd_ne n1.symm, upd_ne n1.symm, upd_ne n1.symm]; exact d9
    · rw [upd_ne pc2.symm, upd_ne pc2.symm, upd_ne pc2.symm]; exact c9
    · rw [upd_ne npl.symm, upd_ne npl.symm, upd_ne npl.symm]; exact l9
theorem c__law_cell {C_Disk : Addr} {C_DiskError : Addr} {C_DiskCrashed : Addr} (T : Txt K mg C_Disk C_DiskError C_DiskCrashed) : Cal P w K mg base 1 "_law_cell" (fun vs H Q _ => ∃ (a : Addr) (ns : List Int) (k : Nat), vs = [.ref a, .int k] ∧ SqL K H a (ns.map V.int) ∧ Q (.int (ns.getD k 0)) H) [] := by
  refine cal T.d__law_cell sc__law_cell (fun vs H Q E h => ?_) (fun f cdv A outer s H vs Q E hr h => ?_)
  · obtain ⟨a, ns, k, rfl, _⟩ := h; rfl
  obtain ⟨a, ns, k, rfl, hS, q⟩ := h
  refine ⟨_, (pss_cons (ps_if (pt_cmpR op_lt (pv 1) (pe_callB (klen (K := K)) (by rfl) T.z_len (by decide +kernel) (pa_cons (pv 0) pa_nil)) (nomark _)) (pss_one (ps_ret (pe_ix (kixl (K := K)) (pv 0) (pv 1) (fun _ _ => rfl)))) pss_nil)
      (pss_one (ps_ret pe_int))), ?_⟩
  walk_at "rds"
  refine ⟨a, _, rfl, .inl hS, ?_⟩
  rw [List.length_map]
  walk_at "rds"
  by_cases hk : k < ns.length
  · refine ifT (decide_eq_true (by omega)) ?_
    walk_at "rds"
    rw [List.getD_eq_getElem?_getD, List.getElem?_eq_getElem hk] at q
    exact ⟨a, _, ((k : Nat) : Int), _, rfl, rfl, hS, atI_nat (by rw [List.getElem?_map, List.getElem?_eq_getElem hk]; rfl), q⟩
  · refine ifF (decide_eq_false (by omega)) ?_
    walk_at "rds"
    rw [List.getD_eq_getElem?_getD, List.getElem?_eq_none (by omega)] at q
    exact q
theorem c__law_survivors {C_Disk : Addr} {C_DiskError : Addr} {C_DiskCrashed : Addr} (T : Txt K mg C_Disk C_DiskError C_DiskCrashed) : Cal P w K mg base 1 "_law_survivors" (fun vs H Q _ => ∃ (c : Int) (k : Nat), vs = [.int c, .int k] ∧ k ≤ 100 ∧ ∀ H' r (bs : List Bool), Same H H' → H r = none → H' r = some (.lst (bs.map V.bl)) → bs.length = k → Q (.ref r) H') [] := by
  refine cal T.d__law_survivors sc__law_survivors (fun vs H Q E h => ?_) (fun f cdv A outer s H vs Q E hr h => ?_)
  · obtain ⟨c, k, rfl, _⟩ := h; rfl
  obtain ⟨c, k, rfl, hk, q⟩ := h
  refine ⟨_, (pss_cons (ps_set (i := 2) sc__law_survivors.nd rfl (Or.inl rfl) (pe_lst pa_nil))
      (pss_cons (ps_for PassesOwn.never rfl (pi_range1 (by rfl) T.z_range (pa_cons (pv 1) pa_nil)) (pg_name (i := 3) sc__law_survivors.nd rfl (Or.inl rfl)) (pss_cons (ps_expr (pe_bm PySem.F.plainAttrs_list PySem.F.slot_list_append PySem.F.type_list_append mt_append (pv 2) (pa_cons (pe_cmpR op_eq (pe_op op_mod (pv 0) pe_int) pe_int (nomark _)) pa_nil)))
      (pss_one (ps_set (i := 0) sc__law_survivors.nd rfl (Or.inl rfl) (pe_op op_fdiv (pv 0) pe_int)))))
      (pss_one (ps_ret (pv 2))))), ?_⟩
  walk_at "rds"
  intro r nr
  walk_at "rds"
  refine for_it walk_range (Pv := fun i σ H' => ∃ (c' : Int) (y : Option V) (bs : List Bool), σ = [some (.int c'), some (.int k), some (.ref r), y] ∧ Same H H' ∧ H' r = some (.lst (bs.map V.bl)) ∧ bs.length = i) ⟨c, none, [], rfl, same_upd nr, upd_same, rfl⟩ (fun _ _ _ _ _ => trivial) (fun i x σ H6 H7 hi hp hy => ?_) (fun σ H6 hp => ?_)
  · obtain ⟨c', y, bs, rfl, s6, h6, lb⟩ := hp
    obtain ⟨rfl, rfl⟩ := hy
    walk_at "rds"
    refine ⟨.inl ⟨rfl, _, sq h6⟩, ?_⟩
    walk_at "rds"
    (try delta tNil)
    refine ⟨r, _, _, rfl, rfl, h6, by rw [List.length_map]; exact sz1000' (by omega), ?_⟩
    walk_at "rds"
    exact ⟨_, _, bs ++ [_], rfl, same_mut s6 nr, by rw [upd_same, List.map_append]; rfl, by simp [lb]⟩
  · obtain ⟨c', y, bs, rfl, s6, h6, lb⟩ := hp
    walk_at "rds"
    exact q _ r bs s6 nr h6 (by omega)
end

/-! ### texts joined by nothing -/
theorem len_app2 (a b : Str) : (a ++ b).length = a.length + b.length := Str.length_append a b
def jn (ys : List Str) : Str := Txt.join (Str.ofString "") ys
theorem jn_one (z : Str) : jn [z] = z := eq_of_beq (join_closes (sep' := Str.ofString "") (ys := [z]) rfl)
theorem strjoin_cons (x : Str) : ∀ (l : List Str), Str.join (Str.ofString "") (x :: l) = x ++ Str.join (Str.ofString "") l
  | [] => (PySem.Str.append_empty x).symm
  | y :: r => by
    show x ++ Str.empty ++ Str.join (Str.ofString "") (y :: r) = _
    rw [PySem.Str.append_empty]
theorem strjoin_snoc (z : Str) : ∀ (l : List Str), Str.join (Str.ofString "") (l ++ [z]) = Str.join (Str.ofString "") l ++ z
  | [] => (PySem.Str.empty_append z).symm
  | x :: r => by rw [List.cons_append, strjoin_cons, strjoin_cons, strjoin_snoc z r, Str.append_assoc]
theorem jn_snoc (ys : List Str) (z : Str) : jn (ys ++ [z]) = jn ys ++ z := by
  have e : ∀ l, jn l = Str.join (Str.ofString "") l := fun l => eq_of_beq (join_closes rfl)
  rw [e, e, strjoin_snoc]
theorem jn_len : ∀ ys : List Str, (jn ys).length = (ys.map (·.length)).sum := by
  have e : ∀ l, jn l = Str.join (Str.ofString "") l := fun l => eq_of_beq (join_closes rfl)
  intro ys
  rw [e]
  induction ys with
  | nil => rfl
  | cons y r ih => rw [strjoin_cons, len_app2, ih, List.map_cons, List.sum_cons]

theorem strOk_app {a b : Str} (h : PyData.strOk a = true) (k : PyData.strOk b = true) : PyData.strOk (a ++ b) = true := by
  unfold PyData.strOk at *
  rw [← Array.all_toList] at *
  rw [app_tl, List.all_append, h, k]; rfl
theorem strOk_jn : ∀ {ys : List Str}, (∀ y ∈ ys, PyData.strOk y = true) → PyData.strOk (jn ys) = true := by
  have e : ∀ l, jn l = Str.join (Str.ofString "") l := fun l => eq_of_beq (join_closes rfl)
  intro ys h
  rw [e]
  induction ys with
  | nil => decide +kernel
  | cons y r ih => rw [strjoin_cons]; exact strOk_app (h y List.mem_cons_self) (ih fun x m => h x (List.mem_cons_of_mem _ m))
def spTextO : Sp := fun vs H Q _ => ∃ (c : Int) (n : Nat), vs = [.int c, .int n] ∧ n ≤ 1000 ∧ ∀ H' z, Same H H' → z.length = n → PyData.strOk z = true → Q (.str z) H'
/-! ### the law's own disk: a list -/
structure LsAt (H : Hp) (q a b l : Addr) (ts : List Addr) (s : DS) : Prop where
  st : H q = some (.lst [.ref a, .ref b, .ref l, pasV s.pas, .bl s.cra])
  du : H a = some (.lst (s.dur.map V.str))
  cu : H b = some (.lst (s.cur.map V.str))
  wl : H l = some (.lst (ts.map V.ref))
  tw : TwAt H ts s.wr
  ab : a ≠ b
  al : a ≠ l
  bl : b ≠ l
  qa : q ≠ a
  qb : q ≠ b
  ql : q ≠ l
theorem LsAt.on {H H' : Hp} {q a b l : Addr} {ts : List Addr} {s : DS} (h : LsAt H q a b l ts s) (k : Same H H') : LsAt H' q a b l ts s :=
  ⟨k _ _ h.st, k _ _ h.du, k _ _ h.cu, k _ _ h.wl, h.tw.keep fun a xs e => k _ _ e, h.ab, h.al, h.bl, h.qa, h.qb, h.ql⟩
theorem LsAt.but {S : List Addr} {H H' : Hp} {q a b l : Addr} {ts : List Addr} {s : DS} (h : LsAt H q a b l ts s) (k : But S H H') (hq : q ∉ S) (ha : a ∉ S) (hb : b ∉ S) (hl : l ∉ S) (ht : ∀ a ∈ S, ∀ xs, H a ≠ some (.tup xs)) : LsAt H' q a b l ts s :=
  ⟨k _ _ hq h.st, k _ _ ha h.du, k _ _ hb h.cu, k _ _ hl h.wl, h.tw.keep fun a xs e => k _ _ (fun m => ht a m xs e) e, h.ab, h.al, h.bl, h.qa, h.qb, h.ql⟩
def LsOut (H : Hp) (q a b l : Addr) (s' : DS) (R : Hp → Prop) : Prop := ∀ H' a' b' l' ts', Bt [q, a, b, l] H H' → (a' = a ∨ H a' = none) → (b' = b ∨ H b' = none) → (l' = l ∨ H l' = none) → LsAt H' q a' b' l' ts' s' → R H'
theorem LsAt.lst {H : Hp} {q a b l : Addr} {ts : List Addr} {s : DS} (h : LsAt H q a b l ts s) : ∀ x ∈ [q, a, b, l], ∃ xs, H x = some (.lst xs) := by
  intro x m
  simp only [List.mem_cons, List.not_mem_nil, or_false] at m
  rcases m with rfl | rfl | rfl | rfl
  · exact ⟨_, h.st⟩
  · exact ⟨_, h.du⟩
  · exact ⟨_, h.cu⟩
  · exact ⟨_, h.wl⟩
theorem tw_upd {H : Hp} {x : Addr} {xs : List V} {o : HO} {ts : List Addr} {wr : List (Nat × Str)} (h : TwAt H ts wr) (e : H x = some (.lst xs)) : TwAt (upd H x o) ts wr := h.keep fun a ys e2 => by
  rw [upd_ne (fun z => by rw [z, e] at e2; cases e2)]; exact e2
/-- the list's cells 3 and 4 written anew -/
theorem LsAt.own {H : Hp} {q a b l : Addr} {ts : List Addr} {s : DS} (h : LsAt H q a b l ts s) (pas : Option Nat) (cra : Bool) : LsAt (upd H q (.lst [.ref a, .ref b, .ref l, pasV pas, .bl cra])) q a b l ts { s with pas := pas, cra := cra } :=
  ⟨upd_same, by rw [upd_ne h.qa.symm]; exact h.du, by rw [upd_ne h.qb.symm]; exact h.cu, by rw [upd_ne h.ql.symm]; exact h.wl, tw_upd h.tw h.st, h.ab, h.al, h.bl, h.qa, h.qb, h.ql⟩
def rsT : Rs → List V
  | .done v => [.str "done", ovV v]
  | .crashed => [.str "crashed", .non]
  | .error => [.str "error", .non]
def DeedAt (H : Hp) (t : Addr) : Deed → Prop
  | .write i z => H t = some (.tup [.str "write", .int i, .str z])
  | .read i => H t = some (.tup [.str "read", .int i])
  | .sync => H t = some (.tup [.str "sync", .int 0])
  | .arm n => H t = some (.tup [.str "arm", .int n])
  | .crash bs => ∃ l, H t = some (.tup [.str "crash", .ref l]) ∧ H l = some (.lst (bs.map V.bl))
/-- what the drawn deeds hold to -/
def DeedOk : Deed → Prop
  | .write _ z => z.length ≤ 1000 ∧ PyData.strOk z = true
  | .crash bs => bs.length ≤ 100
  | _ => True
theorem no_cr {k : Str} {r : List V} {l : Addr} {A : Prop} (h : (some (HO.tup (.str k :: r))) = some (.tup [.str (Str.ofString "crash"), .ref l])) (n : k ≠ Str.ofString "crash") : A := by
  injection h with h
  injection h with h
  injection h with h1 _
  exact absurd (V.str.inj h1) n
section
variable {P : Program} {w : World} {K : PySem.W.Frag} {mg : Str → Option Value} {base : Heap}
theorem c__law_text {C_Disk : Addr} {C_DiskError : Addr} {C_DiskCrashed : Addr} (T : Txt K mg C_Disk C_DiskError C_DiskCrashed) : Cal P w K mg base 1 "_law_text" spTextO [] := by
  refine cal T.d__law_text sc__law_text (fun vs H Q E h => ?_) (fun f cdv A outer s H vs Q E hr h => ?_)
  · obtain ⟨c, n, rfl, _⟩ := h; rfl
  obtain ⟨c, n, rfl, hn, q⟩ := h
  refine ⟨_, (pss_cons (ps_set (i := 2) sc__law_text.nd rfl (Or.inr rfl) pe_str)
      (pss_cons (ps_set (i := 2) sc__law_text.nd rfl (Or.inr rfl) (pe_op op_add_str (pv 2) pe_str))
      (pss_one (ps_ret (pe_join pe_str (pe_lc (own := [("k", 3)]) (g := gName 3) (by rfl) sc__law_text.nd (pi_range1 (by rfl) T.z_range (pa_cons (pv 1) pa_nil)) (blkOk_by (own := [("k", 3)]) (N := ["cell", "size", "chars", "k"]) (sc := defScope s__law_text) (by decide +kernel)) (fun _ _ _ _ _ => pg_name (i := 3) sc__law_text.nd rfl (Or.inl rfl)) (fun _ _ _ _ _ => pts_nil) (fun _ _ _ _ _ => (pe_ix ix_str (pv 2) (pe_op op_mod (pe_callTy call_int1 (by rfl) T.z_int (by decide +kernel) (pa_cons (pe_op op_add (pe_op op_add (pe_op op_fdiv (pv 0) pe_int) (pe_op op_mul (pe_op op_mul (pe_op op_mod (pv 0) pe_int) (pv 3)) pe_int)) (pe_op op_fdiv (pv 3) pe_int)) pa_nil)) pe_int) (fun _ _ => rfl))))))))), ?_⟩
  walk_at "rds"
  intro D hD
  refine lc_it walk_range (Pv := fun i H' => ∃ ys : List Str, Same H H' ∧ H' D = some (.lst (ys.map V.str)) ∧ ys.length = i ∧ ∀ y ∈ ys, y.length = 1 ∧ PyData.strOk y = true) ⟨[], same_upd hD, upd_same, rfl, by simp⟩ (fun _ _ _ _ => trivial) (fun i x H1 H2 hi hp hy => ?_) (fun H1 hp => ?_)
  · obtain ⟨ys, sm, hl, hn1, h1⟩ := hp
    obtain ⟨rfl, rfl⟩ := hy
    have hi' : i < n := by omega
    refine ⟨rfl, tyes ?_⟩
    walk_at "rds"
    have e94 : (Str.ofString " !\"#$&'()*+,-./0123456789:;<=>?@ABCDEFGHIJKLMNOPQRSTUVWXYZ[\\]^_`" ++ Str.ofString "abcdefghijklmnopqrstuvwxyz{|}~").length = 94 := by decide +kernel
    obtain ⟨ch, hm, hch⟩ := atI_lt (xs := (Str.ofString " !\"#$&'()*+,-./0123456789:;<=>?@ABCDEFGHIJKLMNOPQRSTUVWXYZ[\\]^_`" ++ Str.ofString "abcdefghijklmnopqrstuvwxyz{|}~").cps.toList) (i := (c / 3 + c % 3 * (0 + (i : Int)) * 7 + (0 + (i : Int)) / 5) % 94) (by omega) (by rw [len_tl, e94]; omega)
    have hso : PyData.strOk (⟨#[ch]⟩ : Str) = true := (show ∀ x ∈ (Str.ofString " !\"#$&'()*+,-./0123456789:;<=>?@ABCDEFGHIJKLMNOPQRSTUVWXYZ[\\]^_`" ++ Str.ofString "abcdefghijklmnopqrstuvwxyz{|}~").cps.toList, PyData.strOk (⟨#[x]⟩ : Str) = true by decide +kernel) ch hm
    refine ⟨_, _, ch, rfl, rfl, by decide +kernel, hch, _, hl, ?_, ys ++ [⟨#[ch]⟩], same_mut sm hD, lst_app, ?_, ?_⟩
    · rw [List.length_map]; exact sz1000' (by omega)
    · rw [List.length_append, hn1]; rfl
    · intro y hy
      rcases List.mem_append.mp hy with hy | hy
      · exact h1 y hy
      · rw [List.mem_singleton.mp hy]; exact ⟨rfl, hso⟩
  · obtain ⟨ys, sm, hl, hn1, h1⟩ := hp
    have e1 : ∀ y ∈ ys, y.length = 1 := fun y m => (h1 y m).1
    refine ⟨_, D, ys, rfl, rfl, .inl (sq hl), ?_, ?_⟩
    · have e : (Str.ofString "").length = 0 := by decide
      rw [e, sum_ones e1, hn1]; omega
    · refine q _ _ sm ?_ (strOk_jn fun y m => (h1 y m).2)
      rw [PySem.W.KT.join_ones ys e1, hn1]; omega
theorem c__law_deed {C_Disk : Addr} {C_DiskError : Addr} {C_DiskCrashed : Addr} (T : Txt K mg C_Disk C_DiskError C_DiskCrashed) : Cal P w K mg base 2 "_law_deed" (fun vs H Q _ => ∃ (c : Int) (n : Nat), vs = [.int c, .int n] ∧ n ≤ 6 ∧ ∀ H' t dd, Same H H' → H t = none → (∀ l, H' t = some (.tup [.str "crash", .ref l]) → H l = none) → DeedAt H' t dd → DeedOk dd → Q (.ref t) H') [] := by
  have c__law_text := c__law_text (P := P) (w := w) (base := base) T
  have c__law_survivors := c__law_survivors (P := P) (w := w) (base := base) T
  refine cal T.d__law_deed sc__law_deed (fun vs H Q E h => ?_) (fun f cdv A outer s H vs Q E hr h => ?_)
  · obtain ⟨c, n, rfl, _⟩ := h; rfl
  obtain ⟨c, n, rfl, hn, q⟩ := h
  refine ⟨_, (pss_cons (ps_set (i := 2) sc__law_deed.nd rfl (Or.inl rfl) (pe_op op_mod (pe_callTy call_int1 (by rfl) T.z_int (by decide +kernel) (pa_cons (pv 0) pa_nil)) pe_int))
      (pss_cons (ps_set (i := 0) sc__law_deed.nd rfl (Or.inl rfl) (pe_op op_fdiv (pv 0) pe_int))
      (pss_cons (ps_set (i := 3) sc__law_deed.nd rfl (Or.inl rfl) (pe_op op_sub (pe_op op_mod (pe_callTy call_int1 (by rfl) T.z_int (by decide +kernel) (pa_cons (pv 0) pa_nil)) (pe_op op_add (pv 1) pe_int)) pe_int))
      (pss_cons (ps_if (pt_cmpR op_lt (pv 2) pe_int (nomark _)) (pss_cons (ps_set (i := 4) sc__law_deed.nd rfl (Or.inl rfl) (pe_op op_mod (pe_callTy call_int1 (by rfl) T.z_int (by decide +kernel) (pa_cons (pe_op op_fdiv (pv 0) pe_int) pa_nil)) pe_int))
      (pss_cons (ps_if (pt_cmpR op_eq (pe_op op_mod (pe_callTy call_int1 (by rfl) T.z_int (by decide +kernel) (pa_cons (pe_op op_fdiv (pv 0) pe_int) pa_nil)) pe_int) pe_int (nomark _)) (pss_one (ps_set (i := 4) sc__law_deed.nd rfl (Or.inl rfl) (pe_op op_add pe_int (pe_op op_mod (pe_callTy call_int1 (by rfl) T.z_int (by decide +kernel) (pa_cons (pe_op op_fdiv (pv 0) pe_int) pa_nil)) pe_int)))) pss_nil)
      (pss_one (ps_ret (pe_tup (pa_cons pe_str (pa_cons (pv 3) (pa_cons (pe_c c__law_text hr (by decide) (by rfl) (pa_cons (pv 0) (pa_cons (pv 4) pa_nil))) pa_nil)))))))) pss_nil)
      (pss_cons (ps_if (pt_cmpR op_lt (pv 2) pe_int (nomark _)) (pss_one (ps_ret (pe_tup (pa_cons pe_str (pa_cons (pv 3) pa_nil))))) pss_nil)
      (pss_cons (ps_if (pt_cmpR op_lt (pv 2) pe_int (nomark _)) (pss_one (ps_ret (pe_tup (pa_cons pe_str (pa_cons pe_int pa_nil))))) pss_nil)
      (pss_cons (ps_if (pt_cmpR op_eq (pv 2) pe_int (nomark _)) (pss_one (ps_ret (pe_tup (pa_cons pe_str (pa_cons (pe_op op_mod (pe_callTy call_int1 (by rfl) T.z_int (by decide +kernel) (pa_cons (pv 0) pa_nil)) pe_int) pa_nil))))) pss_nil)
      (pss_one (ps_ret (pe_tup (pa_cons pe_str (pa_cons (pe_c c__law_survivors hr (by decide) (by rfl) (pa_cons (pe_op op_fdiv (pv 0) pe_int) (pa_cons (pe_op op_mod (pe_callTy call_int1 (by rfl) T.z_int (by decide +kernel) (pa_cons (pv 0) pa_nil)) pe_int) pa_nil))) pa_nil)))))))))))), ?_⟩
  walk_at "rds"
  have wr : ∀ (m : Nat) (j : Int), m ≤ 1000 → ∀ H' z, Same H H' → z.length = m → PyData.strOk z = true → ∀ t, H' t = none → Q (.ref t) (upd H' t (.tup [.str (Str.ofString "write"), .int j, .str z])) := fun m j hm H' z s hz so t ht =>
    q _ t (.write j z) (s.trans (same_upd ht)) (same_none s ht) (fun l e => by rw [upd_same] at e; exact no_cr e (by decide +kernel)) upd_same ⟨by omega, so⟩
  refine ite2 (fun _ => ?_) (fun _ => ?_)
  · walk_at "rds"
    refine ite2 (fun _ => ?_) (fun _ => ?_)
    · walk_at "rds"
      obtain ⟨m, hm⟩ := Int.eq_ofNat_of_zero_le (show 0 ≤ 96 + c / 10 / 378 % 2 by omega)
      delta tNil
      refine ⟨_, m, by rw [← hm]; rfl, by omega, fun H' z s hz so => ?_⟩
      walk_at "rds"
      exact wr m _ (by omega) H' z s hz so
    · walk_at "rds"
      obtain ⟨m, hm⟩ := Int.eq_ofNat_of_zero_le (show 0 ≤ c / 10 / 9 % 6 by omega)
      delta tNil
      refine ⟨_, m, by rw [← hm]; rfl, by omega, fun H' z s hz so => ?_⟩
      walk_at "rds"
      exact wr m _ (by omega) H' z s hz so
  walk_at "rds"
  refine ite2 (fun _ => ?_) (fun _ => ?_)
  · walk_at "rds"
    exact fun t ht => q _ t (.read _) (same_upd ht) ht (fun l e => by rw [upd_same] at e; exact no_cr e (by decide +kernel)) upd_same trivial
  walk_at "rds"
  refine ite2 (fun _ => ?_) (fun _ => ?_)
  · walk_at "rds"
    exact fun t ht => q _ t .sync (same_upd ht) ht (fun l e => by rw [upd_same] at e; exact no_cr e (by decide +kernel)) upd_same trivial
  walk_at "rds"
  refine ite2 (fun _ => ?_) (fun _ => ?_)
  · walk_at "rds"
    obtain ⟨m, hm⟩ := Int.eq_ofNat_of_zero_le (show 0 ≤ c / 10 % 5 by omega)
    intro t ht
    have e : V.int (c / 10 % 5) = V.int (m : Int) := congrArg V.int hm
    show Q (.ref t) (upd H t (.tup [.str (Str.ofString "arm"), V.int (c / 10 % 5)]))
    rw [e]
    exact q _ t (.arm m) (same_upd ht) ht (fun l e => by rw [upd_same] at e; exact no_cr e (by decide +kernel)) upd_same trivial
  walk_at "rds"
  obtain ⟨m, hm⟩ := Int.eq_ofNat_of_zero_le (show 0 ≤ c / 10 % 13 by omega)
  delta tNil
  refine ⟨_, m, by rw [← hm]; rfl, by omega, fun H' r bs s hr hr2 lb => ?_⟩
  walk_at "rds"
  intro t ht
  refine q _ t (.crash bs) (s.trans (same_upd ht)) (same_none s ht) (fun l e => ?_) ⟨r, upd_same, same_upd ht _ _ hr2⟩ (by show bs.length ≤ 100; omega)
  rw [upd_same] at e
  injection e with e
  injection e with e
  injection e with _ e
  injection e with e _
  rw [← V.ref.inj e]; exact hr
theorem c__law_operate {C_Disk : Addr} {C_DiskError : Addr} {C_DiskCrashed : Addr} (T : Txt K mg C_Disk C_DiskError C_DiskCrashed) : Cal P w K mg base 1 "_law_operate" (fun vs H Q _ => ∃ (q a b l : Addr) (ts : List Addr) (s : DS), vs = [.ref q] ∧ LsAt H q a b l ts s ∧ (match opB s with
    | none => LsOut H q a b l { s with cra := true } fun H' => Q (.bl false) H'
    | some s1 => LsOut H q a b l s1 fun H' => Q (.bl true) H')) [] := by
  refine cal T.d__law_operate sc__law_operate (fun vs H Q E h => ?_) (fun f cdv A outer s H vs Q E hr h => ?_)
  · obtain ⟨q, a, b, l, ts, s, rfl, _⟩ := h; rfl
  obtain ⟨q, a, b, l, ts, s, rfl, at_, out⟩ := h
  refine ⟨_, (pss_cons (ps_if (pt_cmpR op_isN (pe_ix (kixl (K := K)) (pv 0) pe_int (fun _ _ => rfl)) pe_non (nomark _)) (pss_one (ps_ret pe_bl)) pss_nil)
      (pss_cons (ps_if (pt_cmpR op_eq (pe_ix (kixl (K := K)) (pv 0) pe_int (fun _ _ => rfl)) pe_int (nomark _)) (pss_cons (ps_asg pe_bl (pg_sub (pv 0) pe_int set_list))
      (pss_one (ps_ret pe_bl))) pss_nil)
      (pss_cons (ps_asg (pe_op op_sub (pe_ix (kixl (K := K)) (pv 0) pe_int (fun _ _ => rfl)) pe_int) (pg_sub (pv 0) pe_int set_list))
      (pss_one (ps_ret pe_bl))))), ?_⟩
  walk_at "rds"
  refine ⟨q, _, ((3 : Nat) : Int), _, rfl, rfl, sq at_.st, atI_nat (by rfl), ?_⟩
  walk_at "rds"
  unfold opB at out
  cases hp : s.pas with
  | none =>
    rw [hp] at out
    refine ifT rfl ?_
    walk_at "rds"
    exact out H a b l ts .refl (.inl rfl) (.inl rfl) (.inl rfl) at_
  | some k =>
  refine ifF rfl ?_
  walk_at "rds"
  refine ⟨q, _, ((3 : Nat) : Int), _, rfl, rfl, sq at_.st, atI_nat (by rfl), ?_⟩
  rw [hp]
  walk_at "rds"
  cases k with
  | zero =>
    rw [hp] at out
    refine ifT rfl ?_
    walk_at "rds"
    refine ⟨q, _, ((4 : Nat) : Int), 4, rfl, rfl, at_.st, rfl, ?_⟩
    walk_at "rds"
    have e : ([V.ref a, .ref b, .ref l, pasV s.pas, .bl s.cra].set 4 (.bl true)) = [V.ref a, .ref b, .ref l, pasV (some 0), .bl true] := by rw [hp]; rfl
    rw [e]
    exact out _ a b l ts (bt_next .refl (.inl (by simp))) (.inl rfl) (.inl rfl) (.inl rfl) (at_.own (some 0) true)
  | succ k =>
    rw [hp] at out
    refine ifF (decide_eq_false (fun z => by injection z with z; omega)) ?_
    walk_at "rds"
    refine ⟨q, _, ((3 : Nat) : Int), _, rfl, rfl, sq at_.st, atI_nat (by rfl), ?_⟩
    rw [hp]
    walk_at "rds"
    refine ⟨q, _, ((3 : Nat) : Int), 3, rfl, rfl, at_.st, rfl, ?_⟩
    walk_at "rds"
    have e1 : V.int (((k + 1 : Nat) : Int) - 1) = pasV (some k) := congrArg V.int (by omega)
    have e : ([V.ref a, .ref b, .ref l, pasV s.pas, .bl s.cra].set 3 (V.int (((k + 1 : Nat) : Int) - 1))) = [V.ref a, .ref b, .ref l, pasV (some k), .bl s.cra] := by rw [e1]; rfl
    show Q (.bl true) (upd H q (.lst ([V.ref a, .ref b, .ref l, pasV s.pas, .bl s.cra].set 3 (V.int (((k + 1 : Nat) : Int) - 1)))))
    rw [e]
    exact out _ a b l ts (bt_next .refl (.inl (by simp))) (.inl rfl) (.inl rfl) (.inl rfl) (at_.own (some k) s.cra)
end

theorem LsAt.syn {H1 : Hp} {q a b l a2 l2 : Addr} {ts : List Addr} {s : DS} {du : List Str} {X : HO} (h : LsAt H1 q a b l ts s) (n1 : H1 a2 = none) (hX : X = .lst (s.cur.map V.str)) (n2 : upd (upd H1 a2 X) q (.lst [.ref a2, .ref b, .ref l, pasV s.pas, .bl s.cra]) l2 = none) :
    LsAt (upd (upd (upd (upd H1 a2 X) q (.lst [.ref a2, .ref b, .ref l, pasV s.pas, .bl s.cra])) l2 (.lst [])) q (.lst [.ref a2, .ref b, .ref l2, pasV s.pas, .bl s.cra])) q a2 b l2 [] { s with dur := s.cur, wr := [] } := by
  subst hX
  have qa : q ≠ a2 := fun z => by rw [← z, h.st] at n1; cases n1
  have ab : a2 ≠ b := fun z => by rw [z, h.cu] at n1; cases n1
  have lq : l2 ≠ q := fun z => by rw [z, upd_same] at n2; cases n2
  rw [upd_ne lq] at n2
  have la : l2 ≠ a2 := fun z => by rw [z, upd_same] at n2; cases n2
  rw [upd_ne la] at n2
  have lb : l2 ≠ b := fun z => by rw [z, h.cu] at n2; cases n2
  refine ⟨upd_same, ?_, ?_, ?_, TwAt.nil, ab, la.symm, lb.symm, qa, h.qb, lq.symm⟩
  · rw [upd_ne qa.symm, upd_ne la.symm, upd_ne qa.symm, upd_same]
  · rw [upd_ne h.qb.symm, upd_ne lb.symm, upd_ne h.qb.symm, upd_ne ab.symm]; exact h.cu
  · rw [upd_ne lq, upd_same]; rfl
theorem LsAt.wri {H1 : Hp} {q a b l t : Addr} {ts : List Addr} {s : DS} {k : Nat} {z : Str} (h : LsAt H1 q a b l ts s) (n1 : upd H1 b (.lst ((s.cur.set k z).map V.str)) t = none) :
    LsAt (upd (upd (upd H1 b (.lst ((s.cur.set k z).map V.str))) t (.tup [.int k, .str z])) l (.lst ((ts ++ [t]).map V.ref))) q a b l (ts ++ [t]) { s with cur := s.cur.set k z, wr := s.wr ++ [(k, z)] } := by
  have tb : t ≠ b := fun z => by rw [z, upd_same] at n1; cases n1
  rw [upd_ne tb] at n1
  have tq : t ≠ q := fun z => by rw [z, h.st] at n1; cases n1
  have ta : t ≠ a := fun z => by rw [z, h.du] at n1; cases n1
  have tl : t ≠ l := fun z => by rw [z, h.wl] at n1; cases n1
  have w1 : upd H1 b (.lst ((s.cur.set k z).map V.str)) l = some (.lst (ts.map V.ref)) := by rw [upd_ne h.bl.symm]; exact h.wl
  refine ⟨?_, ?_, ?_, upd_same, ?_, h.ab, h.al, h.bl, h.qa, h.qb, h.ql⟩
  · rw [upd_ne h.ql, upd_ne tq.symm, upd_ne h.qb]; exact h.st
  · rw [upd_ne h.al, upd_ne ta.symm, upd_ne h.ab]; exact h.du
  · rw [upd_ne h.bl, upd_ne tb.symm, upd_same]
  · have x1 := tw_upd (o := .lst ((s.cur.set k z).map V.str)) h.tw h.cu
    have s2 : Same (upd H1 b (.lst ((s.cur.set k z).map V.str))) (upd (upd H1 b (.lst ((s.cur.set k z).map V.str))) t (.tup [.int k, .str z])) := same_upd (by rw [upd_ne tb]; exact n1)
    have x2 := (x1.keep fun a xs e => s2 _ _ e).snoc (x := (k, z)) (t := t) upd_same
    exact tw_upd x2 (s2 _ _ w1)
section
variable {P : Program} {w : World} {K : PySem.W.Frag} {mg : Str → Option Value} {base : Heap}
def ExpOut (H : Hp) (q a b l : Addr) (Q : VK) (r : Rs × DS) : Prop := ∀ H' a' b' l' ts' t, Bt [q, a, b, l] H H' → (a' = a ∨ H a' = none) → (b' = b ∨ H b' = none) → (l' = l ∨ H l' = none) → LsAt H' q a' b' l' ts' r.2 → H t = none → H' t = some (.tup (rsT r.1)) → Q (.ref t) H'
theorem c__law_expect {C_Disk : Addr} {C_DiskError : Addr} {C_DiskCrashed : Addr} (T : Txt K mg C_Disk C_DiskError C_DiskCrashed) : Cal P w K mg base 2 "_law_expect" (fun vs H Q _ => ∃ (q a b l : Addr) (ts : List Addr) (s : DS) (n m : Nat) (u : Addr) (dd : Deed), vs = [.ref q, .ref u] ∧ LsAt H q a b l ts s ∧ DOk s n m ∧ DeedAt H u dd ∧ DeedOk dd ∧ (∀ e, H u = some (.tup [.str "crash", .ref e]) → e ∉ [q, a, b, l]) ∧ ExpOut H q a b l Q (dStep s dd)) [] := by
  have c__law_operate := c__law_operate (P := P) (w := w) (K := K) (base := base) T
  refine cal T.d__law_expect sc__law_expect (fun vs H Q E h => ?_) (fun f cdv A outer s H vs Q E hr h => ?_)
  · obtain ⟨q, a, b, l, ts, s, n, m, u, dd, rfl, _⟩ := h; rfl
  obtain ⟨q, a, b, l, ts, s, n, m, u, dd, rfl, at_, ok, du, dok, dcr, out⟩ := h
  have done : ∀ (rs : Rs) (H1 : Hp) (a' b' l' : Addr) (ts' : List Addr) (s' : DS), dStep s dd = (rs, s') → Bt [q, a, b, l] H H1 → (a' = a ∨ H a' = none) → (b' = b ∨ H b' = none) → (l' = l ∨ H l' = none) → LsAt H1 q a' b' l' ts' s' → ∀ t, H1 t = none → Q (.ref t) (upd H1 t (.tup (rsT rs))) := fun rs H1 a' b' l' ts' s' e bt ha hb hl at1 t ht => by
    rw [e] at out
    exact out _ a' b' l' ts' t (bt.trans (Same.bt (same_upd ht))) ha hb hl (at1.on (same_upd ht)) (bt.2 _ ht) upd_same
  refine ⟨_, (pss_cons (ps_if (pt_cmpR op_eq (pe_ix (kixt (K := K)) (pv 1) pe_int (fun _ _ => rfl)) pe_str (nomark _)) (pss_cons (ps_asg (pe_ix (kixt (K := K)) (pv 1) pe_int (fun _ _ => rfl)) (pg_sub (pv 0) pe_int set_list))
      (pss_one (ps_ret (pe_tup (pa_cons pe_str (pa_cons pe_non pa_nil)))))) pss_nil)
      (pss_cons (ps_if (pt_cmpR op_eq (pe_ix (kixt (K := K)) (pv 1) pe_int (fun _ _ => rfl)) pe_str (nomark _)) (pss_cons (ps_for PassesOwn.never rfl (pi_range1 (by rfl) T.z_range (pa_cons (pe_callB (call_min2 rfl) (by rfl) T.z_min (by decide +kernel) (pa_cons (pe_callB (klen (K := K)) (by rfl) T.z_len (by decide +kernel) (pa_cons (pe_ix (kixt (K := K)) (pv 1) pe_int (fun _ _ => rfl)) pa_nil)) (pa_cons (pe_callB (klen (K := K)) (by rfl) T.z_len (by decide +kernel) (pa_cons (pe_ix (kixl (K := K)) (pv 0) pe_int (fun _ _ => rfl)) pa_nil)) pa_nil))) pa_nil)) (pg_name (i := 2) sc__law_expect.nd rfl (Or.inl rfl)) (pss_one (ps_if (pt_val (pe_ix (kixl (K := K)) (pe_ix (kixt (K := K)) (pv 1) pe_int (fun _ _ => rfl)) (pv 2) (fun _ _ => rfl))) (pss_one (ps_asg (pe_ix (kixt (K := K)) (pe_ix (kixl (K := K)) (pe_ix (kixl (K := K)) (pv 0) pe_int (fun _ _ => rfl)) (pv 2) (fun _ _ => rfl)) pe_int (fun _ _ => rfl)) (pg_sub (pe_ix (kixl (K := K)) (pv 0) pe_int (fun _ _ => rfl)) (pe_ix (kixt (K := K)) (pe_ix (kixl (K := K)) (pe_ix (kixl (K := K)) (pv 0) pe_int (fun _ _ => rfl)) (pv 2) (fun _ _ => rfl)) pe_int (fun _ _ => rfl)) set_list))) pss_nil)))
      (pss_cons (ps_asg (pe_callTy call_list_of (by rfl) T.z_list (by decide +kernel) (pa_cons (pe_ix (kixl (K := K)) (pv 0) pe_int (fun _ _ => rfl)) pa_nil)) (pg_sub (pv 0) pe_int set_list))
      (pss_cons (ps_asg (pe_lst pa_nil) (pg_sub (pv 0) pe_int set_list))
      (pss_cons (ps_asg pe_non (pg_sub (pv 0) pe_int set_list))
      (pss_cons (ps_asg pe_bl (pg_sub (pv 0) pe_int set_list))
      (pss_one (ps_ret (pe_tup (pa_cons pe_str (pa_cons pe_non pa_nil)))))))))) pss_nil)
      (pss_cons (ps_if (pt_val (pe_ix (kixl (K := K)) (pv 0) pe_int (fun _ _ => rfl))) (pss_one (ps_ret (pe_tup (pa_cons pe_str (pa_cons pe_non pa_nil))))) pss_nil)
      (pss_cons (ps_if (PW.pt (pw_and (pt_cmpR op_ne (pe_ix (kixt (K := K)) (pv 1) pe_int (fun _ _ => rfl)) pe_str (nomark _)) (pw_and1 (pt_not (pt_chain op_le op_lt pe_int (pe_ix (kixt (K := K)) (pv 1) pe_int (fun _ _ => rfl)) (pe_callB (klen (K := K)) (by rfl) T.z_len (by decide +kernel) (pa_cons (pe_ix (kixl (K := K)) (pv 0) pe_int (fun _ _ => rfl)) pa_nil))))))) (pss_one (ps_ret (pe_tup (pa_cons pe_str (pa_cons pe_non pa_nil))))) pss_nil)
      (pss_cons (ps_if (pt_cmpR op_eq (pe_ix (kixt (K := K)) (pv 1) pe_int (fun _ _ => rfl)) pe_str (nomark _)) (pss_one (ps_ret (pe_tup (pa_cons pe_str (pa_cons (pe_ix (kixl (K := K)) (pe_ix (kixl (K := K)) (pv 0) pe_int (fun _ _ => rfl)) (pe_ix (kixt (K := K)) (pv 1) pe_int (fun _ _ => rfl)) (fun _ _ => rfl)) pa_nil))))) pss_nil)
      (pss_cons (ps_if (PW.pt (pw_and (pt_cmpR op_eq (pe_ix (kixt (K := K)) (pv 1) pe_int (fun _ _ => rfl)) pe_str (nomark _)) (pw_and1 (pt_cmpR op_gt (pe_callB call_len_str (by rfl) T.z_len (by decide +kernel) (pa_cons (pe_ix (kixt (K := K)) (pv 1) pe_int (fun _ _ => rfl)) pa_nil)) pe_int (nomark _))))) (pss_one (ps_ret (pe_tup (pa_cons pe_str (pa_cons pe_non pa_nil))))) pss_nil)
      (pss_cons (ps_if (pt_not (pt_val (pe_c c__law_operate hr (by decide) (by rfl) (pa_cons (pv 0) pa_nil)))) (pss_one (ps_ret (pe_tup (pa_cons pe_str (pa_cons pe_non pa_nil))))) pss_nil)
      (pss_cons (ps_if (pt_cmpR op_eq (pe_ix (kixt (K := K)) (pv 1) pe_int (fun _ _ => rfl)) pe_str (nomark _)) (pss_cons (ps_asg (pe_callTy call_list_of (by rfl) T.z_list (by decide +kernel) (pa_cons (pe_ix (kixl (K := K)) (pv 0) pe_int (fun _ _ => rfl)) pa_nil)) (pg_sub (pv 0) pe_int set_list))
      (pss_cons (ps_asg (pe_lst pa_nil) (pg_sub (pv 0) pe_int set_list))
      (pss_one (ps_ret (pe_tup (pa_cons pe_str (pa_cons pe_non pa_nil))))))) pss_nil)
      (pss_cons (ps_asg (pe_ix (kixt (K := K)) (pv 1) pe_int (fun _ _ => rfl)) (pg_sub (pe_ix (kixl (K := K)) (pv 0) pe_int (fun _ _ => rfl)) (pe_ix (kixt (K := K)) (pv 1) pe_int (fun _ _ => rfl)) set_list))
      (pss_cons (ps_expr (pe_bm PySem.F.plainAttrs_list PySem.F.slot_list_append PySem.F.type_list_append mt_append (pe_ix (kixl (K := K)) (pv 0) pe_int (fun _ _ => rfl)) (pa_cons (pe_tup (pa_cons (pe_ix (kixt (K := K)) (pv 1) pe_int (fun _ _ => rfl)) (pa_cons (pe_ix (kixt (K := K)) (pv 1) pe_int (fun _ _ => rfl)) pa_nil))) pa_nil)))
      (pss_one (ps_ret (pe_tup (pa_cons pe_str (pa_cons pe_non pa_nil))))))))))))))), ?_⟩
  walk_at "rds"
  cases dd with
  | arm k =>
    have du : H u = some (.tup [.str (Str.ofString "arm"), .int k]) := du
    refine ⟨u, _, ((0 : Nat) : Int), _, rfl, rfl, .inl (.inl du), atI_nat (by rfl), ?_⟩
    walk_at "rds"
    refine ⟨u, _, ((1 : Nat) : Int), _, rfl, rfl, .inl (.inl du), atI_nat (by rfl), ?_⟩
    walk_at "rds"
    refine ⟨q, _, ((3 : Nat) : Int), 3, rfl, rfl, at_.st, rfl, ?_⟩
    have e : ([V.ref a, .ref b, .ref l, pasV s.pas, .bl s.cra].set 3 (.int (k : Nat))) = [V.ref a, .ref b, .ref l, pasV (some k), .bl s.cra] := rfl
    rw [e]
    walk_at "rds"
    exact done (.done none) _ a b l ts _ rfl (bt_next .refl (.inl (by simp))) (.inl rfl) (.inl rfl) (.inl rfl) (at_.own (some k) s.cra)
  | crash bs =>
    obtain ⟨e, du, he⟩ := du
    have ne := dcr e du
    simp only [List.mem_cons, List.not_mem_nil, or_false, not_or] at ne
    obtain ⟨eq, ea, eb, el⟩ := ne
    have lbs : bs.length ≤ 100 := dok
    refine ⟨u, _, ((0 : Nat) : Int), _, rfl, rfl, .inl (.inl du), atI_nat (by rfl), ?_⟩
    walk_at "rds"
    refine ⟨u, _, ((0 : Nat) : Int), _, rfl, rfl, .inl (.inl du), atI_nat (by rfl), ?_⟩
    walk_at "rds"
    refine ⟨u, _, ((1 : Nat) : Int), _, rfl, rfl, .inl (.inl du), atI_nat (by rfl), ?_⟩
    walk_at "rds"
    refine ⟨e, _, rfl, .inl (sq he), ?_⟩
    walk_at "rds"
    refine ⟨q, _, ((2 : Nat) : Int), _, rfl, rfl, sq at_.st, atI_nat (by rfl), ?_⟩
    walk_at "rds"
    refine ⟨l, _, rfl, .inl (sq at_.wl), ?_⟩
    walk_at "rds"
    have ltw := at_.tw.1
    have emin : (if ((ts.map V.ref).length : Int) < ((bs.map V.bl).length : Int) then ((ts.map V.ref).length : Int) else ((bs.map V.bl).length : Int)) = ((min s.wr.length bs.length : Nat) : Int) := by
      rw [List.length_map, List.length_map, ltw]
      split <;> omega
    walk_at "rds"
    (try delta tNil)
    refine ⟨_, _, rfl, ?_⟩
    rw [emin]
    walk_at "rds"
    have wi := ok.wi
    refine for_it walk_range (Pv := fun i σ H' => ∃ (du' : List Str) (y : Option V), σ = [some (.ref q), some (.ref u), y] ∧ Bt [q, a, b, l] H H' ∧ LsAt H' q a b l ts { s with dur := du' } ∧ H' u = some (.tup [.str (Str.ofString "crash"), .ref e]) ∧ H' e = some (.lst (bs.map V.bl)) ∧ du'.length = n ∧ crF s.dur s.wr bs = crF du' (s.wr.drop i) (bs.drop i)) ⟨s.dur, none, rfl, .refl, at_, du, he, ok.ld, rfl⟩ (fun _ _ _ _ _ => trivial) (fun i x σ H6 H7 hi hp hy => ?_) (fun σ H6 hp => ?_)
    · obtain ⟨dl, y, rfl, b6, at6, du6, he6, ldl, ecr⟩ := hp
      obtain ⟨rfl, rfl⟩ := hy
      show gName 2 (V.int (0 + (i : Int))) _ H7 _
      rw [Int.zero_add]
      have hi : i < min s.wr.length bs.length := by omega
      have hiw : i < s.wr.length := by omega
      have hib : i < bs.length := by omega
      have g1 : ts[i]? = some ts[i] := List.getElem?_eq_getElem (by omega)
      have g2 : bs[i]? = some bs[i] := List.getElem?_eq_getElem hib
      have g3 : s.wr[i]? = some s.wr[i] := List.getElem?_eq_getElem hiw
      rw [List.drop_eq_getElem_cons hiw, List.drop_eq_getElem_cons hib, crF] at ecr
      have htp := at6.tw.2 i _ _ g1 g3
      have hwi := wi _ (List.getElem_mem hiw)
      generalize s.wr[i] = wx at htp hwi ecr
      generalize bs[i] = bb at g2 ecr
      generalize ts[i] = ti at g1 htp
      obtain ⟨ix, tx⟩ := wx
      have hwi : ix < n := hwi
      have htp : H7 ti = some (.tup [.int ix, .str tx]) := htp
      walk_at "rds"
      refine ⟨u, _, ((1 : Nat) : Int), _, rfl, rfl, .inl (.inl du6), atI_nat (by rfl), ?_⟩
      walk_at "rds"
      refine ⟨e, _, ((i : Nat) : Int), _, rfl, rfl, sq he6, atI_nat (by rw [List.getElem?_map, g2]; rfl), ?_⟩
      refine ⟨_, rfl, ?_⟩
      cases bb with
      | false =>
        refine ifF rfl ?_
        exact ⟨dl, _, rfl, b6, at6, du6, he6, ldl, ecr⟩
      | true =>
        refine ifT rfl ?_
        walk_at "rds"
        refine ⟨q, _, ((2 : Nat) : Int), _, rfl, rfl, sq at6.st, atI_nat (by rfl), ?_⟩
        walk_at "rds"
        refine ⟨l, _, ((i : Nat) : Int), _, rfl, rfl, sq at6.wl, atI_nat (by rw [List.getElem?_map, g1]; rfl), ?_⟩
        walk_at "rds"
        refine ⟨ti, _, ((1 : Nat) : Int), _, rfl, rfl, .inl (.inl htp), atI_nat (by rfl), ?_⟩
        walk_at "rds"
        refine ⟨q, _, ((0 : Nat) : Int), _, rfl, rfl, sq at6.st, atI_nat (by rfl), ?_⟩
        walk_at "rds"
        refine ⟨q, _, ((2 : Nat) : Int), _, rfl, rfl, sq at6.st, atI_nat (by rfl), ?_⟩
        walk_at "rds"
        refine ⟨l, _, ((i : Nat) : Int), _, rfl, rfl, sq at6.wl, atI_nat (by rw [List.getElem?_map, g1]; rfl), ?_⟩
        walk_at "rds"
        refine ⟨ti, _, ((0 : Nat) : Int), _, rfl, rfl, .inl (.inl htp), atI_nat (by rfl), ?_⟩
        walk_at "rds"
        refine ⟨a, _, ((ix : Nat) : Int), ix, rfl, rfl, at6.du, ixN_in (by rw [List.length_map]; show ix < dl.length; omega), ?_⟩
        have em : (dl.map V.str).set ix (.str tx) = (dl.set ix tx).map V.str := List.map_set.symm
        show ∃ _, _
        rw [em]
        have un : u ≠ a := fun z => by rw [z, at6.du] at du6; cases du6
        refine ⟨dl.set ix tx, _, rfl, bt_next b6 (.inl (by simp)), ⟨by rw [upd_ne at6.qa]; exact at6.st, upd_same, by rw [upd_ne at6.ab.symm]; exact at6.cu, by rw [upd_ne at6.al.symm]; exact at6.wl, tw_upd at6.tw at6.du, at6.ab, at6.al, at6.bl, at6.qa, at6.qb, at6.ql⟩, by rw [upd_ne un]; exact du6, by rw [upd_ne ea]; exact he6, by rw [List.length_set]; exact ldl, ecr⟩
    · obtain ⟨dl, y, rfl, b6, at6, du6, he6, ldl, ecr⟩ := hp
      have edu : crF s.dur s.wr bs = dl := by rw [ecr, Int.toNat_natCast]; exact crF_end
      have st : dStep s (.crash bs) = (.done none, ⟨dl, dl, [], none, false⟩) := by show (Rs.done none, dCrash s bs) = _; unfold dCrash; rw [edu]
      walk_at "rds"
      refine ⟨q, _, ((0 : Nat) : Int), _, rfl, rfl, sq at6.st, atI_nat (by rfl), ?_⟩
      walk_at "rds"
      (try delta tNil)
      refine ⟨a, _, rfl, .inl (sq at6.du), fun b2 nb2 => ?_⟩
      walk_at "rds"
      have qb2 : q ≠ b2 := fun z => by rw [← z, at6.st] at nb2; cases nb2
      have ab2 : a ≠ b2 := fun z => by rw [← z, at6.du] at nb2; cases nb2
      have s7 := same_upd (o := .lst (dl.map V.str)) nb2
      have b7 := b6.trans (Same.bt s7)
      have st7 := s7 _ _ at6.st
      have a7 := s7 _ _ at6.du
      have c7 : upd H6 b2 (.lst (dl.map V.str)) b2 = some (.lst (dl.map V.str)) := upd_same
      generalize upd H6 b2 (.lst (dl.map V.str)) = H7 at s7 b7 st7 a7 c7 ⊢
      refine ⟨q, _, ((1 : Nat) : Int), 1, rfl, rfl, st7, rfl, ?_⟩
      walk_at "rds"
      intro l2 nl2
      walk_at "rds"
      have lq : l2 ≠ q := fun z => by rw [z, upd_same] at nl2; cases nl2
      have nl7 := nl2
      rw [upd_ne lq] at nl7
      have la : l2 ≠ a := fun z => by rw [z, a7] at nl7; cases nl7
      have lb : l2 ≠ b2 := fun z => by rw [z, c7] at nl7; cases nl7
      refine ⟨q, _, ((2 : Nat) : Int), 2, rfl, rfl, by rw [upd_ne lq.symm, upd_same], rfl, ?_⟩
      walk_at "rds"
      refine ⟨q, _, ((3 : Nat) : Int), 3, rfl, rfl, upd_same, rfl, ?_⟩
      walk_at "rds"
      refine ⟨q, _, ((4 : Nat) : Int), 4, rfl, rfl, upd_same, rfl, ?_⟩
      walk_at "rds"
      refine done (.done none) _ a b2 l2 [] _ st (bt_next (x := q) (bt_next (x := q) (bt_next (x := q) (bt_next (x := l2) (bt_next (x := q) b7 (.inl (by simp))) (.inr (b7.2 _ nl7))) (.inl (by simp))) (.inl (by simp))) (.inl (by simp))) (.inl rfl) (.inr (b6.2 _ nb2)) (.inr (b7.2 _ nl7)) ⟨upd_same, ?_, ?_, ?_, TwAt.nil, ab2, la.symm, lb.symm, at6.qa, qb2, lq.symm⟩
      · rw [upd_ne at6.qa.symm, upd_ne at6.qa.symm, upd_ne at6.qa.symm, upd_ne la.symm, upd_ne at6.qa.symm]; exact a7
      · rw [upd_ne qb2.symm, upd_ne qb2.symm, upd_ne qb2.symm, upd_ne lb.symm, upd_ne qb2.symm]; exact c7
      · rw [upd_ne lq, upd_ne lq, upd_ne lq, upd_same]; rfl
  | sync =>
    have du : H u = some (.tup [.str (Str.ofString "sync"), .int 0]) := du
    have st : dStep s .sync = dSync s := rfl
    unfold dSync at st
    refine ⟨u, _, ((0 : Nat) : Int), _, rfl, rfl, .inl (.inl du), atI_nat (by rfl), ?_⟩
    walk_at "rds"
    refine ⟨u, _, ((0 : Nat) : Int), _, rfl, rfl, .inl (.inl du), atI_nat (by rfl), ?_⟩
    walk_at "rds"
    refine ⟨q, _, ((4 : Nat) : Int), _, rfl, rfl, sq at_.st, atI_nat (by rfl), ?_⟩
    walk_at "rds"
    have un : u ∉ [q, a, b, l] := fun m => by
      obtain ⟨xs, e⟩ := at_.lst u m
      rw [du] at e; cases e
    cases hc : s.cra with
    | true =>
      refine ifT rfl ?_
      walk_at "rds"
      exact done .crashed H a b l ts s (by rw [st, if_pos hc]) .refl (.inl rfl) (.inl rfl) (.inl rfl) at_
    | false =>
    rw [if_neg (by rw [hc]; decide)] at st
    refine ifF rfl ?_
    walk_at "rds"
    refine ⟨u, _, ((0 : Nat) : Int), _, rfl, rfl, .inl (.inl du), atI_nat (by rfl), ?_⟩
    walk_at "rds"
    refine ⟨u, _, ((0 : Nat) : Int), _, rfl, rfl, .inl (.inl du), atI_nat (by rfl), ?_⟩
    walk_at "rds"
    refine ⟨u, _, ((0 : Nat) : Int), _, rfl, rfl, .inl (.inl du), atI_nat (by rfl), ?_⟩
    walk_at "rds"
    refine ⟨q, a, b, l, ts, s, rfl, at_, ?_⟩
    cases ho : opB s with
    | none =>
      rw [ho] at st
      intro H1 a1 b1 l1 ts1 bt ha hb hl at1
      walk_at "rds"
      exact done .crashed H1 a1 b1 l1 ts1 _ st bt ha hb hl at1
    | some s1 =>
    rw [ho] at st
    intro H1 a1 b1 l1 ts1 bt ha hb hl at1
    have du1 := bt.1 _ _ un du
    walk_at "rds"
    refine ⟨u, _, ((0 : Nat) : Int), _, rfl, rfl, .inl (.inl du1), atI_nat (by rfl), ?_⟩
    walk_at "rds"
    refine ⟨q, _, ((1 : Nat) : Int), _, rfl, rfl, sq at1.st, atI_nat (by rfl), ?_⟩
    walk_at "rds"
    (try delta tNil)
    refine ⟨b1, _, rfl, .inl (sq at1.cu), fun a2 na2 => ?_⟩
    walk_at "rds"
    refine ⟨q, _, ((0 : Nat) : Int), 0, rfl, rfl, (same_upd na2) _ _ at1.st, rfl, ?_⟩
    walk_at "rds"
    intro l2 nl2
    walk_at "rds"
    have lq : l2 ≠ q := fun z => by rw [z, upd_same] at nl2; cases nl2
    refine ⟨q, _, ((2 : Nat) : Int), 2, rfl, rfl, by rw [upd_ne lq.symm, upd_same], rfl, ?_⟩
    walk_at "rds"
    have at5 := at1.syn (du := []) na2 rfl nl2
    exact done (.done none) _ a2 b1 l2 [] _ st (bt_next (bt_next (bt_next (bt_next bt (.inr (bt.2 _ na2))) (.inl (by simp))) (.inr ((bt_next (x := q) (bt_next bt (.inr (bt.2 _ na2))) (.inl (by simp))).2 _ nl2))) (.inl (by simp))) (.inr (bt.2 _ na2)) hb (.inr ((bt_next (x := q) (bt_next bt (.inr (bt.2 _ na2))) (.inl (by simp))).2 _ nl2)) at5
  | read i =>
    have du : H u = some (.tup [.str (Str.ofString "read"), .int i]) := du
    have st : dStep s (.read i) = dRead s i := rfl
    unfold dRead at st
    refine ⟨u, _, ((0 : Nat) : Int), _, rfl, rfl, .inl (.inl du), atI_nat (by rfl), ?_⟩
    walk_at "rds"
    refine ⟨u, _, ((0 : Nat) : Int), _, rfl, rfl, .inl (.inl du), atI_nat (by rfl), ?_⟩
    walk_at "rds"
    refine ⟨q, _, ((4 : Nat) : Int), _, rfl, rfl, sq at_.st, atI_nat (by rfl), ?_⟩
    walk_at "rds"
    have un : u ∉ [q, a, b, l] := fun m => by
      obtain ⟨xs, e⟩ := at_.lst u m
      rw [du] at e; cases e
    cases hc : s.cra with
    | true =>
      refine ifT rfl ?_
      walk_at "rds"
      exact done .crashed H a b l ts s (by rw [st, if_pos hc]) .refl (.inl rfl) (.inl rfl) (.inl rfl) at_
    | false =>
    rw [if_neg (by rw [hc]; decide)] at st
    refine ifF rfl ?_
    walk_at "rds"
    refine ⟨u, _, ((0 : Nat) : Int), _, rfl, rfl, .inl (.inl du), atI_nat (by rfl), ?_⟩
    walk_at "rds"
    refine ⟨u, _, ((1 : Nat) : Int), _, rfl, rfl, .inl (.inl du), atI_nat (by rfl), ?_⟩
    walk_at "rds"
    cases hi : inR s i with
    | false =>
      rw [if_neg (by rw [hi]; decide)] at st
      by_cases h0 : 0 ≤ i
      · refine ifT (decide_eq_true h0) ?_
        walk_at "rds"
        refine ⟨q, _, ((0 : Nat) : Int), _, rfl, rfl, sq at_.st, atI_nat (by rfl), ?_⟩
        walk_at "rds"
        refine ⟨a, _, rfl, .inl (sq at_.du), ?_⟩
        rw [List.length_map]
        walk_at "rds"
        have hn : ¬ i < (s.dur.length : Int) := fun h => by
          unfold inR at hi
          rw [decide_eq_true h0, decide_eq_true (show i ≤ (s.dur.length : Int) - 1 by omega)] at hi
          cases hi
        refine ifT (by rw [decide_eq_false hn]; rfl) ?_
        walk_at "rds"
        exact done .error H a b l ts s st .refl (.inl rfl) (.inl rfl) (.inl rfl) at_
      · refine ifF (decide_eq_false h0) ?_
        walk_at "rds"
        exact done .error H a b l ts s st .refl (.inl rfl) (.inl rfl) (.inl rfl) at_
    | true =>
    rw [if_pos hi] at st
    obtain ⟨k, rfl, hk⟩ := inR_nat hi
    refine ifT (decide_eq_true (by omega)) ?_
    walk_at "rds"
    refine ⟨q, _, ((0 : Nat) : Int), _, rfl, rfl, sq at_.st, atI_nat (by rfl), ?_⟩
    walk_at "rds"
    refine ⟨a, _, rfl, .inl (sq at_.du), ?_⟩
    rw [List.length_map]
    walk_at "rds"
    refine ifF (by rw [decide_eq_true (show (k : Int) < (s.dur.length : Int) by omega)]; rfl) ?_
    walk_at "rds"
    refine ⟨u, _, ((0 : Nat) : Int), _, rfl, rfl, .inl (.inl du), atI_nat (by rfl), ?_⟩
    walk_at "rds"
    refine ⟨q, _, ((1 : Nat) : Int), _, rfl, rfl, sq at_.st, atI_nat (by rfl), ?_⟩
    walk_at "rds"
    refine ⟨u, _, ((1 : Nat) : Int), _, rfl, rfl, .inl (.inl du), atI_nat (by rfl), ?_⟩
    walk_at "rds"
    have hc2 : k < s.cur.length := by have := ok.ld; have := ok.lc; omega
    refine ⟨b, _, ((k : Nat) : Int), _, rfl, rfl, sq at_.cu, atI_nat (by rw [List.getElem?_map, List.getElem?_eq_getElem hc2]; rfl), ?_⟩
    walk_at "rds"
    have st : dStep s (.read k) = (.done (some s.cur[k]), s) := by rw [st]; show (Rs.done (some (s.cur.getD k ⟨#[]⟩)), s) = _; rw [List.getD_eq_getElem?_getD, List.getElem?_eq_getElem hc2]; rfl
    exact done (.done (some s.cur[k])) H a b l ts s st .refl (.inl rfl) (.inl rfl) (.inl rfl) at_
  | write i z =>
    have du : H u = some (.tup [.str (Str.ofString "write"), .int i, .str z]) := du
    have st : dStep s (.write i z) = dWrite s i z := rfl
    unfold dWrite at st
    refine ⟨u, _, ((0 : Nat) : Int), _, rfl, rfl, .inl (.inl du), atI_nat (by rfl), ?_⟩
    walk_at "rds"
    refine ⟨u, _, ((0 : Nat) : Int), _, rfl, rfl, .inl (.inl du), atI_nat (by rfl), ?_⟩
    walk_at "rds"
    refine ⟨q, _, ((4 : Nat) : Int), _, rfl, rfl, sq at_.st, atI_nat (by rfl), ?_⟩
    walk_at "rds"
    have un : u ∉ [q, a, b, l] := fun m => by
      obtain ⟨xs, e⟩ := at_.lst u m
      rw [du] at e; cases e
    cases hc : s.cra with
    | true =>
      refine ifT rfl ?_
      walk_at "rds"
      exact done .crashed H a b l ts s (by rw [st, if_pos hc]) .refl (.inl rfl) (.inl rfl) (.inl rfl) at_
    | false =>
    rw [if_neg (by rw [hc]; decide)] at st
    refine ifF rfl ?_
    walk_at "rds"
    refine ⟨u, _, ((0 : Nat) : Int), _, rfl, rfl, .inl (.inl du), atI_nat (by rfl), ?_⟩
    walk_at "rds"
    refine ⟨u, _, ((1 : Nat) : Int), _, rfl, rfl, .inl (.inl du), atI_nat (by rfl), ?_⟩
    walk_at "rds"
    cases hi : inR s i with
    | false =>
      rw [if_neg (by rw [hi]; decide)] at st
      by_cases h0 : 0 ≤ i
      · refine ifT (decide_eq_true h0) ?_
        walk_at "rds"
        refine ⟨q, _, ((0 : Nat) : Int), _, rfl, rfl, sq at_.st, atI_nat (by rfl), ?_⟩
        walk_at "rds"
        refine ⟨a, _, rfl, .inl (sq at_.du), ?_⟩
        rw [List.length_map]
        walk_at "rds"
        have hn : ¬ i < (s.dur.length : Int) := fun h => by
          unfold inR at hi
          rw [decide_eq_true h0, decide_eq_true (show i ≤ (s.dur.length : Int) - 1 by omega)] at hi
          cases hi
        refine ifT (by rw [decide_eq_false hn]; rfl) ?_
        walk_at "rds"
        exact done .error H a b l ts s st .refl (.inl rfl) (.inl rfl) (.inl rfl) at_
      · refine ifF (decide_eq_false h0) ?_
        walk_at "rds"
        exact done .error H a b l ts s st .refl (.inl rfl) (.inl rfl) (.inl rfl) at_
    | true =>
    rw [if_pos hi] at st
    obtain ⟨k, rfl, hk⟩ := inR_nat hi
    refine ifT (decide_eq_true (by omega)) ?_
    walk_at "rds"
    refine ⟨q, _, ((0 : Nat) : Int), _, rfl, rfl, sq at_.st, atI_nat (by rfl), ?_⟩
    walk_at "rds"
    refine ⟨a, _, rfl, .inl (sq at_.du), ?_⟩
    rw [List.length_map]
    walk_at "rds"
    refine ifF (by rw [decide_eq_true (show (k : Int) < (s.dur.length : Int) by omega)]; rfl) ?_
    walk_at "rds"
    refine ⟨u, _, ((0 : Nat) : Int), _, rfl, rfl, .inl (.inl du), atI_nat (by rfl), ?_⟩
    walk_at "rds"
    refine ⟨u, _, ((0 : Nat) : Int), _, rfl, rfl, .inl (.inl du), atI_nat (by rfl), ?_⟩
    walk_at "rds"
    refine ⟨u, _, ((2 : Nat) : Int), _, rfl, rfl, .inl (.inl du), atI_nat (by rfl), ?_⟩
    walk_at "rds"
    have hz : z.length ≤ 1000 := dok.1
    refine ⟨by have := sizeLine_eq; omega, ?_⟩
    walk_at "rds"
    by_cases h96 : 96 < z.length
    · rw [if_pos h96] at st
      refine ifT (decide_eq_true (by omega)) ?_
      walk_at "rds"
      exact done .error H a b l ts s st .refl (.inl rfl) (.inl rfl) (.inl rfl) at_
    rw [if_neg h96] at st
    refine ifF (decide_eq_false (by omega)) ?_
    walk_at "rds"
    refine ⟨q, a, b, l, ts, s, rfl, at_, ?_⟩
    cases ho : opB s with
    | none =>
      rw [ho] at st
      intro H1 a1 b1 l1 ts1 bt ha hb hl at1
      walk_at "rds"
      exact done .crashed H1 a1 b1 l1 ts1 _ st bt ha hb hl at1
    | some s1 =>
    rw [ho] at st
    intro H1 a1 b1 l1 ts1 bt ha hb hl at1
    have du1 := bt.1 _ _ un du
    walk_at "rds"
    refine ⟨u, _, ((0 : Nat) : Int), _, rfl, rfl, .inl (.inl du1), atI_nat (by rfl), ?_⟩
    walk_at "rds"
    refine ⟨u, _, ((2 : Nat) : Int), _, rfl, rfl, .inl (.inl du1), atI_nat (by rfl), ?_⟩
    walk_at "rds"
    refine ⟨q, _, ((1 : Nat) : Int), _, rfl, rfl, sq at1.st, atI_nat (by rfl), ?_⟩
    walk_at "rds"
    refine ⟨u, _, ((1 : Nat) : Int), _, rfl, rfl, .inl (.inl du1), atI_nat (by rfl), ?_⟩
    walk_at "rds"
    obtain ⟨e1, e2, e3, e4⟩ := opB_eq ho
    have hk1 : k < s1.cur.length := by rw [e2]; have := ok.ld; have := ok.lc; omega
    refine ⟨b1, _, ((k : Nat) : Int), k, rfl, rfl, at1.cu, ixN_in (by rw [List.length_map]; exact hk1), ?_⟩
    rw [← List.map_set]
    walk_at "rds"
    have un1 : u ≠ b1 := fun z => by rw [z, at1.cu] at du1; cases du1
    have st2 : upd H1 b1 (.lst ((s1.cur.set k z).map V.str)) q = some (.lst [.ref a1, .ref b1, .ref l1, pasV s1.pas, .bl s1.cra]) := by rw [upd_ne at1.qb]; exact at1.st
    have l2 : upd H1 b1 (.lst ((s1.cur.set k z).map V.str)) l1 = some (.lst (ts1.map V.ref)) := by rw [upd_ne at1.bl.symm]; exact at1.wl
    have du2 : upd H1 b1 (.lst ((s1.cur.set k z).map V.str)) u = some (.tup [.str (Str.ofString "write"), .int k, .str z]) := by rw [upd_ne un1]; exact du1
    refine ⟨q, _, ((2 : Nat) : Int), _, rfl, rfl, sq st2, atI_nat (by rfl), ?_⟩
    walk_at "rds"
    refine ⟨.inl ⟨rfl, _, sq l2⟩, ?_⟩
    walk_at "rds"
    refine ⟨u, _, ((1 : Nat) : Int), _, rfl, rfl, .inl (.inl du2), atI_nat (by rfl), ?_⟩
    walk_at "rds"
    refine ⟨u, _, ((2 : Nat) : Int), _, rfl, rfl, .inl (.inl du2), atI_nat (by rfl), ?_⟩
    walk_at "rds"
    intro t ht
    walk_at "rds"
    have lts : ts1.length ≤ 1000 := by rw [at1.tw.1, e3]; have := ok.wm; have := ok.mm; omega
    refine ⟨l1, _, _, rfl, rfl, same_upd ht _ _ l2, by rw [List.length_map]; exact sz1000' (by omega), ?_⟩
    have em : ts1.map V.ref ++ [V.ref t] = (ts1 ++ [t]).map V.ref := by rw [List.map_append]; rfl
    rw [em]
    walk_at "rds"
    have b2 := bt_next (x := b1) (o := .lst ((s1.cur.set k z).map V.str)) bt (old (by simp) hb)
    exact done (.done none) _ a1 b1 l1 _ _ st (bt_next (x := l1) (b2.trans (Same.bt (same_upd ht))) (old (by simp) hl)) ha hb hl (at1.wri ht)
end

theorem dp_strs {K : PySem.W.Frag} {H : Hp} : ∀ zs : List Str, DpAll K H (zs.map V.str) (zs.map PyData.str)
  | [] => .nil
  | z :: r => .cons (.str z) (dp_strs r)
theorem dp_ints {K : PySem.W.Frag} {H : Hp} : ∀ zs : List (Nat × Str), DpAll K H (zs.map fun x => V.int x.1) (zs.map fun x => PyData.int x.1)
  | [] => .nil
  | z :: r => .cons (.int z.1) (dp_ints r)
theorem lay_strs {zs : List Str} (h : ∀ z ∈ zs, PyData.strOk z = true) : PyData.canLayAll0 (zs.map PyData.str) = true ∧ PyData.depthAll (zs.map PyData.str) ≤ 0 := by
  induction zs with
  | nil => simp [PyData.canLayAll0, PyData.depthAll]
  | cons x r ih =>
    obtain ⟨i1, i2⟩ := ih fun y m => h y (List.mem_cons_of_mem _ m)
    rw [List.map_cons]
    refine ⟨by simp [PyData.canLayAll0, PyData.canLay0, h x List.mem_cons_self, i1], ?_⟩
    simp only [PyData.depthAll, PyData.depth]
    omega
theorem lay_ints (zs : List (Nat × Str)) : PyData.canLayAll0 (zs.map fun x => PyData.int x.1) = true ∧ PyData.depthAll (zs.map fun x => PyData.int x.1) ≤ 0 := by
  induction zs with
  | nil => simp [PyData.canLayAll0, PyData.depthAll]
  | cons x r ih =>
    obtain ⟨i1, i2⟩ := ih
    rw [List.map_cons]
    refine ⟨by simp [PyData.canLayAll0, PyData.canLay0, i1], ?_⟩
    simp only [PyData.depthAll, PyData.depth]
    omega
theorem shape_l {ds : List PyData} (h : PyData.canLayAll0 ds = true ∧ PyData.depthAll ds ≤ 0) : SeqAt.shaped (.list ds) = true ∧ PyData.eqv (.list ds) (.list ds) = true := by
  have l : (PyData.list ds).canLay0 = true := by simp [PyData.canLay0, h.1]
  refine ⟨?_, SeqAt.eqv_refl _ l⟩
  unfold SeqAt.shaped
  rw [l, Bool.true_and]
  refine decide_eq_true ?_
  rw [PyData.depth]
  omega
section
variable {P : Program} {w : World} {K : PySem.W.Frag} {mg : Str → Option Value} {base : Heap}
def ActOut (C : Addr) (H : Hp) (p d c l : Addr) (Q : VK) (r : Rs × DS) : Prop := ∀ H' d' c' l' ts' t, Bt [p, d, c, l] H H' → (d' = d ∨ H d' = none) → (c' = c ∨ H c' = none) → (l' = l ∨ H l' = none) → DkAt C H' p d' c' l' ts' r.2 → H t = none → H' t = some (.tup (rsT r.1)) → Q (.ref t) H'
theorem c__law_act {C_Disk : Addr} {C_DiskError : Addr} {C_DiskCrashed : Addr} (T : Txt K mg C_Disk C_DiskError C_DiskCrashed) : Cal P w K mg base 4 "_law_act" (fun vs H Q _ => ∃ (p d c l : Addr) (ts : List Addr) (s : DS) (n m : Nat) (u : Addr) (dd : Deed), vs = [.ref p, .ref u] ∧ DkAt C_Disk H p d c l ts s ∧ DOk s n m ∧ DeedAt H u dd ∧ DeedOk dd ∧ ActOut C_Disk H p d c l Q (dStep s dd)) [] := by
  have m_Disk__write := m_Disk__write (P := P) (w := w) (K := K) (base := base) T
  have m_Disk__read := m_Disk__read (P := P) (w := w) (K := K) (base := base) T
  have m_Disk__sync := m_Disk__sync (P := P) (w := w) (K := K) (base := base) T
  have m_Disk__arm := m_Disk__arm (P := P) (w := w) (base := base) T
  have m_Disk__crash := m_Disk__crash (P := P) (w := w) (K := K) (base := base) T
  refine cal T.d__law_act sc__law_act (fun vs H Q E h => ?_) (fun f cdv A outer s H vs Q E hr h => ?_)
  · obtain ⟨p, d, c, l, ts, s, n, m, u, dd, rfl, _⟩ := h; rfl
  obtain ⟨p, d, c, l, ts, s, n, m, u, dd, rfl, at_, ok, du, dok, out⟩ := h
  obtain ⟨dx, g⟩ := at_.ins
  have done : ∀ (rs : Rs) (H1 : Hp) (d' c' l' : Addr) (ts' : List Addr) (s' : DS), dStep s dd = (rs, s') → Bt [p, d, c, l] H H1 → (d' = d ∨ H d' = none) → (c' = c ∨ H c' = none) → (l' = l ∨ H l' = none) → DkAt C_Disk H1 p d' c' l' ts' s' → ∀ t, H1 t = none → Q (.ref t) (upd H1 t (.tup (rsT rs))) := fun rs H1 d' c' l' ts' s' e bt hd hc hl at1 t ht => by
    rw [e] at out
    exact out _ d' c' l' ts' t (bt.trans (Same.bt (same_upd ht))) hd hc hl (at1.on (same_upd ht)) (bt.2 _ ht) upd_same
  refine ⟨_, (pss_one (ps_try_nm (Wout := fun _ _ _ _ => False) rfl rfl sc__law_act.nd takes0 (fun W pn xe tk po => (pss_cons (ps_if (pt_cmpR op_eq (pe_ix (kixt (K := K)) (pv 1) pe_int (fun _ _ => rfl)) pe_str (nomark _)) (pss_one (ps_ret (pe_tup (pa_cons pe_str (pa_cons (pe_mtX m_Disk__write hr (by decide) (fun σ => passAt tk σ) (pv 0) (pa_cons (pe_ix (kixt (K := K)) (pv 1) pe_int (fun _ _ => rfl)) (pa_cons (pe_ix (kixt (K := K)) (pv 1) pe_int (fun _ _ => rfl)) pa_nil))) pa_nil))))) pss_nil)
      (pss_cons (ps_if (pt_cmpR op_eq (pe_ix (kixt (K := K)) (pv 1) pe_int (fun _ _ => rfl)) pe_str (nomark _)) (pss_one (ps_ret (pe_tup (pa_cons pe_str (pa_cons (pe_mtX m_Disk__read hr (by decide) (fun σ => passAt tk σ) (pv 0) (pa_cons (pe_ix (kixt (K := K)) (pv 1) pe_int (fun _ _ => rfl)) pa_nil)) pa_nil))))) pss_nil)
      (pss_cons (ps_if (pt_cmpR op_eq (pe_ix (kixt (K := K)) (pv 1) pe_int (fun _ _ => rfl)) pe_str (nomark _)) (pss_one (ps_ret (pe_tup (pa_cons pe_str (pa_cons (pe_mtX0 m_Disk__sync hr (by decide) (fun σ => passAt tk σ) (pv 0)) pa_nil))))) pss_nil)
      (pss_cons (ps_if (pt_cmpR op_eq (pe_ix (kixt (K := K)) (pv 1) pe_int (fun _ _ => rfl)) pe_str (nomark _)) (pss_one (ps_ret (pe_tup (pa_cons pe_str (pa_cons (pe_mt m_Disk__arm hr (by decide) (pv 0) (pa_cons (pe_ix (kixt (K := K)) (pv 1) pe_int (fun _ _ => rfl)) pa_nil)) pa_nil))))) pss_nil)
      (pss_one (ps_ret (pe_tup (pa_cons pe_str (pa_cons (pe_mt m_Disk__crash hr (by decide) (pv 0) (pa_cons (pe_callTy (klo (K := K)) (by rfl) T.z_list (by decide +kernel) (pa_cons (pe_ix (kixt (K := K)) (pv 1) pe_int (fun _ _ => rfl)) pa_nil)) pa_nil)) pa_nil)))))))))) (Hds.nm (i := 2) ⟨by rfl, by decide, .inl T.x_DiskCrashed.g⟩ rfl rfl (fun a oe cls d pn hz hf => (pss_cons (ps_if (pt_val (pe_callB (call_isE2 T.ec_DiskCrashed hz hf) (by rfl) T.z_isinstance (by decide +kernel) (pa_cons (pv 2) (pa_cons (pe_gc (v := .ref C_DiskError) (by rfl) ⟨_, T.x_DiskError.g, rfl⟩) pa_nil)))) (pss_one (ps_ret (pe_tup (pa_cons pe_str (pa_cons pe_non pa_nil))))) pss_nil)
      (pss_one (ps_ret (pe_tup (pa_cons pe_str (pa_cons pe_non pa_nil))))))) (Hds.one ⟨by rfl, by decide, .inl T.x_DiskError.g⟩ (fun a oe cls d pn _ _ => (pss_one (ps_ret (pe_tup (pa_cons pe_str (pa_cons pe_non pa_nil)))))) Hds.nil)))), ?_⟩
  walk_at "rds"
  cases dd with
  | write i z =>
    have du : H u = some (.tup [.str (Str.ofString "write"), .int i, .str z]) := du
    refine ⟨u, _, ((0 : Nat) : Int), _, rfl, rfl, .inl (.inl du), atI_nat (by rfl), ?_⟩
    walk_at "rds"
    refine ⟨p, dx, _, rfl, g, rfl, ?_⟩
    walk_at "rds"
    refine ⟨u, _, ((1 : Nat) : Int), _, rfl, rfl, .inl (.inl du), atI_nat (by rfl), ?_⟩
    walk_at "rds"
    refine ⟨u, _, ((2 : Nat) : Int), _, rfl, rfl, .inl (.inl du), atI_nat (by rfl), ?_⟩
    walk_at "rds"
    (try delta tNil)
    have st : dStep s (.write i z) = dWrite s i z := rfl
    refine ⟨p, d, c, l, ts, s, n, m, i, z, rfl, at_, ok, dok.1, ?_⟩
    generalize hr : dWrite s i z = r at st
    obtain ⟨rs, s'⟩ := r
    cases rs with
    | done v =>
      intro H1 d1 c1 l1 ts1 bt hd hc hl at1
      walk_at "rds"
      exact done (.done v) H1 d1 c1 l1 ts1 s' st bt hd hc hl at1
    | crashed =>
      intro H1 d1 c1 l1 ts1 bt hd hc hl at1
      refine ⟨true, T.x_DiskCrashed.exm T.u_DiskCrashed_DiskCrashed, fun _ a0 ha0 => ?_, fun z => nomatch z⟩
      walk_at "rds"
      refine ⟨⟨rfl, rfl⟩, .ref C_DiskError, .ref C_DiskError, false, rfl, fun _ hu => hu, T.kt_DiskCrashed_DiskError, ?_⟩
      walk_at "rds"
      exact done .crashed H1 d1 c1 l1 ts1 s' st bt hd hc hl at1
    | error =>
      intro H1 d1 c1 l1 ts1 bt hd hc hl at1
      refine ⟨false, T.x_DiskCrashed.exm T.u_DiskError_DiskCrashed, fun z => (by cases z), fun _ => ⟨true, T.x_DiskError.exm T.u_DiskError_DiskError, fun _ a0 ha0 => ?_, fun z => nomatch z⟩⟩
      walk_at "rds"
      exact done .error H1 d1 c1 l1 ts1 s' st bt hd hc hl at1
  | read i =>
    have du : H u = some (.tup [.str (Str.ofString "read"), .int i]) := du
    refine ⟨u, _, ((0 : Nat) : Int), _, rfl, rfl, .inl (.inl du), atI_nat (by rfl), ?_⟩
    walk_at "rds"
    refine ⟨u, _, ((0 : Nat) : Int), _, rfl, rfl, .inl (.inl du), atI_nat (by rfl), ?_⟩
    walk_at "rds"
    refine ⟨p, dx, _, rfl, g, rfl, ?_⟩
    walk_at "rds"
    refine ⟨u, _, ((1 : Nat) : Int), _, rfl, rfl, .inl (.inl du), atI_nat (by rfl), ?_⟩
    walk_at "rds"
    (try delta tNil)
    have st : dStep s (.read i) = dRead s i := rfl
    refine ⟨p, d, c, l, ts, s, n, m, i, rfl, at_, ok, ?_⟩
    generalize hr : dRead s i = r at st
    obtain ⟨rs, s'⟩ := r
    cases rs with
    | done v =>
      intro H1 d1 c1 l1 ts1 bt hd hc hl at1
      walk_at "rds"
      exact done (.done v) H1 d1 c1 l1 ts1 s' st bt hd hc hl at1
    | crashed =>
      intro H1 d1 c1 l1 ts1 bt hd hc hl at1
      refine ⟨true, T.x_DiskCrashed.exm T.u_DiskCrashed_DiskCrashed, fun _ a0 ha0 => ?_, fun z => nomatch z⟩
      walk_at "rds"
      refine ⟨⟨rfl, rfl⟩, .ref C_DiskError, .ref C_DiskError, false, rfl, fun _ hu => hu, T.kt_DiskCrashed_DiskError, ?_⟩
      walk_at "rds"
      exact done .crashed H1 d1 c1 l1 ts1 s' st bt hd hc hl at1
    | error =>
      intro H1 d1 c1 l1 ts1 bt hd hc hl at1
      refine ⟨false, T.x_DiskCrashed.exm T.u_DiskError_DiskCrashed, fun z => (by cases z), fun _ => ⟨true, T.x_DiskError.exm T.u_DiskError_DiskError, fun _ a0 ha0 => ?_, fun z => nomatch z⟩⟩
      walk_at "rds"
      exact done .error H1 d1 c1 l1 ts1 s' st bt hd hc hl at1
  | sync =>
    have du : H u = some (.tup [.str (Str.ofString "sync"), .int 0]) := du
    refine ⟨u, _, ((0 : Nat) : Int), _, rfl, rfl, .inl (.inl du), atI_nat (by rfl), ?_⟩
    walk_at "rds"
    refine ⟨u, _, ((0 : Nat) : Int), _, rfl, rfl, .inl (.inl du), atI_nat (by rfl), ?_⟩
    walk_at "rds"
    refine ⟨u, _, ((0 : Nat) : Int), _, rfl, rfl, .inl (.inl du), atI_nat (by rfl), ?_⟩
    walk_at "rds"
    refine ⟨p, dx, _, rfl, g, rfl, ?_⟩
    walk_at "rds"
    (try delta tNil)
    have st : dStep s .sync = dSync s := rfl
    refine ⟨p, d, c, l, ts, s, n, m, rfl, at_, ok, ?_⟩
    generalize hr : dSync s = r at st
    obtain ⟨rs, s'⟩ := r
    cases rs with
    | done v =>
      intro H1 d1 c1 l1 ts1 bt hd hc hl at1
      walk_at "rds"
      exact done (.done v) H1 d1 c1 l1 ts1 s' st bt hd hc hl at1
    | crashed =>
      intro H1 d1 c1 l1 ts1 bt hd hc hl at1
      refine ⟨true, T.x_DiskCrashed.exm T.u_DiskCrashed_DiskCrashed, fun _ a0 ha0 => ?_, fun z => nomatch z⟩
      walk_at "rds"
      refine ⟨⟨rfl, rfl⟩, .ref C_DiskError, .ref C_DiskError, false, rfl, fun _ hu => hu, T.kt_DiskCrashed_DiskError, ?_⟩
      walk_at "rds"
      exact done .crashed H1 d1 c1 l1 ts1 s' st bt hd hc hl at1
    | error =>
      intro H1 d1 c1 l1 ts1 bt hd hc hl at1
      refine ⟨false, T.x_DiskCrashed.exm T.u_DiskError_DiskCrashed, fun z => (by cases z), fun _ => ⟨true, T.x_DiskError.exm T.u_DiskError_DiskError, fun _ a0 ha0 => ?_, fun z => nomatch z⟩⟩
      walk_at "rds"
      exact done .error H1 d1 c1 l1 ts1 s' st bt hd hc hl at1
  | arm k =>
    have du : H u = some (.tup [.str (Str.ofString "arm"), .int k]) := du
    refine ⟨u, _, ((0 : Nat) : Int), _, rfl, rfl, .inl (.inl du), atI_nat (by rfl), ?_⟩
    walk_at "rds"
    refine ⟨u, _, ((0 : Nat) : Int), _, rfl, rfl, .inl (.inl du), atI_nat (by rfl), ?_⟩
    walk_at "rds"
    refine ⟨u, _, ((0 : Nat) : Int), _, rfl, rfl, .inl (.inl du), atI_nat (by rfl), ?_⟩
    walk_at "rds"
    refine ⟨u, _, ((0 : Nat) : Int), _, rfl, rfl, .inl (.inl du), atI_nat (by rfl), ?_⟩
    walk_at "rds"
    refine ⟨p, dx, _, rfl, g, rfl, ?_⟩
    walk_at "rds"
    refine ⟨u, _, ((1 : Nat) : Int), _, rfl, rfl, .inl (.inl du), atI_nat (by rfl), ?_⟩
    walk_at "rds"
    (try delta tNil)
    refine ⟨p, d, c, l, ts, s, k, rfl, at_, fun H1 d1 c1 l1 ts1 bt hd hc hl at1 => ?_⟩
    walk_at "rds"
    exact done (.done none) H1 d1 c1 l1 ts1 _ rfl bt hd hc hl at1
  | crash bs =>
    obtain ⟨e, du, he⟩ := du
    refine ⟨u, _, ((0 : Nat) : Int), _, rfl, rfl, .inl (.inl du), atI_nat (by rfl), ?_⟩
    walk_at "rds"
    refine ⟨u, _, ((0 : Nat) : Int), _, rfl, rfl, .inl (.inl du), atI_nat (by rfl), ?_⟩
    walk_at "rds"
    refine ⟨u, _, ((0 : Nat) : Int), _, rfl, rfl, .inl (.inl du), atI_nat (by rfl), ?_⟩
    walk_at "rds"
    refine ⟨u, _, ((0 : Nat) : Int), _, rfl, rfl, .inl (.inl du), atI_nat (by rfl), ?_⟩
    walk_at "rds"
    refine ⟨p, dx, _, rfl, g, rfl, ?_⟩
    walk_at "rds"
    refine ⟨u, _, ((1 : Nat) : Int), _, rfl, rfl, .inl (.inl du), atI_nat (by rfl), ?_⟩
    walk_at "rds"
    (try delta tNil)
    refine ⟨e, _, rfl, .inl (sq he), fun e2 ne2 => ?_⟩
    walk_at "rds"
    have s2 := same_upd (o := .lst (bs.map V.bl)) ne2
    have at2 := at_.on s2
    have he2 : upd H e2 (.lst (bs.map V.bl)) e2 = some (.lst (bs.map V.bl)) := upd_same
    have ni : e2 ∉ [p, d, c, l] := fun m => by
      simp only [List.mem_cons, List.not_mem_nil, or_false] at m
      rcases m with rfl | rfl | rfl | rfl
      · rw [g] at ne2; cases ne2
      · rw [at_.du] at ne2; cases ne2
      · rw [at_.cu] at ne2; cases ne2
      · rw [at_.wl] at ne2; cases ne2
    (try delta tNil)
    refine ⟨p, d, c, l, e2, ts, s, n, m, bs, rfl, at2, ok, he2, ni, dok, fun H1 d1 c1 l1 ts1 bt hd hc hl at1 => ?_⟩
    walk_at "rds"
    exact done (.done none) H1 d1 c1 l1 ts1 _ rfl ((Same.bt s2).trans bt) (hd.imp id (same_none s2)) (hc.imp id (same_none s2)) (hl.imp id (same_none s2)) at1
theorem c__law_refuses {C_Disk : Addr} {C_DiskError : Addr} {C_DiskCrashed : Addr} (T : Txt K mg C_Disk C_DiskError C_DiskCrashed) : Cal P w K mg base 3 "_law_refuses" (fun vs H Q _ => ∃ (n : Int), vs = [.int n] ∧ n < 1 ∧ ∀ H', Same H H' → Q (.bl true) H') [] := by
  have k_Disk := k_Disk (P := P) (w := w) (K := K) (base := base) T
  refine cal T.d__law_refuses sc__law_refuses (fun vs H Q E h => ?_) (fun f cdv A outer s H vs Q E hr h => ?_)
  · obtain ⟨n, rfl, _⟩ := h; rfl
  obtain ⟨n, rfl, hn, q⟩ := h
  refine ⟨_, (pss_cons (ps_try_only (Wout := fun _ _ _ _ => False) rfl rfl ⟨by rfl, by decide, .inl T.x_DiskError.g⟩ takes0 (fun W pn xe tk po => (pss_one (ps_expr (pe_mkX k_Disk hr (by decide) (by rfl) (fun σ => passAt tk σ) (pa_cons (pv 0) pa_nil))))) (fun a oe cls d pn _ _ => (pss_one (ps_ret pe_bl))))
      (pss_one (ps_ret pe_bl))), ?_⟩
  walk_at "rds"
  (try delta tNil)
  intro x dx hx hdx ne
  refine ⟨x, dx, n, rfl, upd_same, by omega, fun _ => ?_, fun h => by omega⟩
  refine ⟨true, T.x_DiskError.exm T.u_DiskError_DiskError, fun _ a0 ha0 => ?_, fun z => nomatch z⟩
  have nx : upd H dx (.own x) x = none := by rw [upd_ne ne.symm]; exact hx
  exact q _ (Same.trans (same_upd hdx) (same_upd nx))
theorem c__law_agrees {C_Disk : Addr} {C_DiskError : Addr} {C_DiskCrashed : Addr} (T : Txt K mg C_Disk C_DiskError C_DiskCrashed) : Cal P w K mg base 2 "_law_agrees" (fun vs H Q _ => ∃ (p d c l : Addr) (ts : List Addr) (s : DS) (n m : Nat) (q a b l2 : Addr) (ts2 : List Addr), vs = [.ref p, .ref q, .int n] ∧ DkAt C_Disk H p d c l ts s ∧ DOk s n m ∧ LsAt H q a b l2 ts2 s ∧ (∀ z ∈ s.dur, PyData.strOk z = true) ∧ ∀ H', Same H H' → Q (.bl true) H') [] := by
  have m_Disk__size := m_Disk__size (P := P) (w := w) (K := K) (base := base) T
  have m_Disk__image := m_Disk__image (P := P) (w := w) (K := K) (base := base) T
  have m_Disk__pending := m_Disk__pending (P := P) (w := w) (K := K) (base := base) T
  refine cal T.d__law_agrees sc__law_agrees (fun vs H Q E h => ?_) (fun f cdv A outer s H vs Q E hr h => ?_)
  · obtain ⟨p, d, c, l, ts, s, n, m, q, a, b, l2, ts2, rfl, _⟩ := h; rfl
  obtain ⟨p, d, c, l, ts, s, n, m, q, a, b, l2, ts2, rfl, at_, ok, lat, so, out⟩ := h
  obtain ⟨dx, g⟩ := at_.ins
  refine ⟨_, (pss_cons (ps_if (PW.pt (pw_or (pt_cmpR op_ne (pe_mt0 m_Disk__size hr (by decide) (pv 0)) (pv 2) (nomark _)) (pw_or1 (pt_cmpR (op_neD hr.units) (pe_mt0 m_Disk__image hr (by decide) (pv 0)) (pe_ix (kixl (K := K)) (pv 1) pe_int (fun _ _ => rfl)) (nomark _))))) (pss_one (ps_ret pe_bl)) pss_nil)
      (pss_one (ps_ret (pe_cmpR (op_eqD hr.units) (pe_mt0 m_Disk__pending hr (by decide) (pv 0)) (pe_lc (own := [("write", 3)]) (g := gName 3) (by rfl) sc__law_agrees.nd (pi_list (pe_ix (kixl (K := K)) (pv 1) pe_int (fun _ _ => rfl))) (blkOk_by (own := [("write", 3)]) (N := ["disk", "state", "size", "write"]) (sc := defScope s__law_agrees) (by decide +kernel)) (fun _ _ _ _ _ => pg_name (i := 3) sc__law_agrees.nd rfl (Or.inl rfl)) (fun _ _ _ _ _ => pts_nil) (fun _ _ _ _ _ => (pe_ix (kixt (K := K)) (pv 3) pe_int (fun _ _ => rfl)))) (nomark _))))), ?_⟩
  walk_at "rds"
  refine ⟨p, dx, _, rfl, g, rfl, ?_⟩
  walk_at "rds"
  (try delta tNil)
  refine ⟨p, d, c, l, ts, s, n, m, rfl, at_, ok, ?_⟩
  walk_at "rds"
  refine ifF (by rw [decide_eq_true (congrArg V.int (by rw [ok.ld]))]; rfl) ?_
  walk_at "rds"
  refine ⟨p, dx, _, rfl, g, rfl, ?_⟩
  walk_at "rds"
  (try delta tNil)
  refine ⟨p, d, c, l, ts, s, n, m, rfl, at_, ok, fun r nr => ?_⟩
  have s1 := same_upd (o := .lst (s.dur.map V.str)) nr
  have hr1 : upd H r (.lst (s.dur.map V.str)) r = some (.lst (s.dur.map V.str)) := upd_same
  generalize upd H r (.lst (s.dur.map V.str)) = H1 at s1 hr1 ⊢
  have lat1 := lat.on s1
  have at1 := at_.on s1
  have g1 := s1 _ _ g
  walk_at "rds"
  refine ⟨q, _, ((0 : Nat) : Int), _, rfl, rfl, sq lat1.st, atI_nat (by rfl), ?_⟩
  obtain ⟨sh1, sh2⟩ := shape_l (lay_strs so)
  refine ⟨.list (s.dur.map PyData.str), .list (s.dur.map PyData.str), .lst (sq hr1) (dp_strs _), .lst (sq lat1.du) (dp_strs _), sh1, sh1, ?_⟩
  rw [sh2]
  walk_at "rds"
  refine ⟨p, dx, _, rfl, g1, rfl, ?_⟩
  walk_at "rds"
  (try delta tNil)
  refine ⟨p, d, c, l, ts, s, n, m, rfl, at1, ok, fun H2 r2 s2 nr2 hr2 => ?_⟩
  have lat2 := lat1.on s2
  walk_at "rds"
  refine ⟨q, _, ((2 : Nat) : Int), _, rfl, rfl, sq lat2.st, atI_nat (by rfl), ?_⟩
  have ltw := lat2.tw.1
  have wm := ok.wm
  have mm := ok.mm
  refine ⟨l2, rfl, ⟨_, sq lat2.wl⟩, fun D hD => ?_⟩
  refine lc_it (walk_list (K := K) (a := l2) (xs := ts2.map V.ref)) (Pv := fun k H' => Same H2 H' ∧ H' D = some (.lst ((s.wr.take k).map fun x => V.int x.1))) ⟨same_upd hD, upd_same⟩ (fun _ _ _ h => sq (h.1 _ _ lat2.wl)) (fun k x H6 H7 hk hp hy => ?_) (fun H6 hp => ?_)
  · obtain ⟨s6, hD6⟩ := hp
    obtain ⟨rfl, e5⟩ := hy
    rw [List.length_map] at hk
    have g1 : ts2[k]? = some ts2[k] := List.getElem?_eq_getElem hk
    have g2 : s.wr[k]? = some s.wr[k] := List.getElem?_eq_getElem (by omega)
    have ex : x = .ref ts2[k] := by rw [List.getElem?_map, g1] at e5; exact (Option.some.inj e5).symm
    subst ex
    have ht := s6 _ _ (lat2.tw.2 k _ _ g1 g2)
    have e : (s.wr.take (k + 1)).map (fun x => V.int x.1) = (s.wr.take k).map (fun x => V.int x.1) ++ [V.int s.wr[k].1] := by rw [List.take_add_one, g2, List.map_append]; rfl
    refine ⟨rfl, tyes ?_⟩
    walk_at "rds"
    refine ⟨ts2[k], _, ((0 : Nat) : Int), _, rfl, rfl, .inl (.inl ht), atI_nat (by rfl), ?_⟩
    refine ⟨_, hD6, by rw [List.length_map, List.length_take]; exact sz1000' (by omega), same_mut s6 hD, ?_⟩
    rw [upd_same, e]
  · obtain ⟨s6, hD6⟩ := hp
    rw [List.length_map, ltw, List.take_length] at hD6
    obtain ⟨sh3, sh4⟩ := shape_l (lay_ints s.wr)
    refine ⟨.list (s.wr.map fun x => PyData.int x.1), .list (s.wr.map fun x => PyData.int x.1), .lst (sq (s6 _ _ hr2)) (dp_ints _), .lst (sq hD6) (dp_ints _), sh3, sh3, ?_⟩
    rw [sh4]
    exact out _ (s1.trans (s2.trans s6))
end
/-- every text of the disk is of signs that can be written -/
def SOk (s : DS) : Prop := (∀ z ∈ s.dur, PyData.strOk z = true) ∧ (∀ z ∈ s.cur, PyData.strOk z = true) ∧ ∀ x ∈ s.wr, PyData.strOk x.2 = true
theorem set_all {α : Type} {R : α → Prop} {l : List α} {i : Nat} {z : α} (h : ∀ x ∈ l, R x) (k : R z) : ∀ x ∈ l.set i z, R x := fun x m => by
  rcases List.mem_or_eq_of_mem_set m with m | m
  · exact h x m
  · exact m ▸ k
theorem crF_ok (w : List (Nat × Str)) : ∀ (d : List Str) (bs : List Bool), (∀ z ∈ d, PyData.strOk z = true) → (∀ x ∈ w, PyData.strOk x.2 = true) → (∀ z ∈ crF d w bs, PyData.strOk z = true) ∧ (crF d w bs).length = d.length := by
  induction w with
  | nil => intro d bs h _; simp only [crF]; exact ⟨h, trivial⟩
  | cons x r ih =>
    intro d bs h k
    cases bs with
    | nil => simp only [crF]; exact ⟨h, trivial⟩
    | cons b bs =>
      rw [crF]
      have h2 : ∀ z ∈ (if b = true then d.set x.1 x.2 else d), PyData.strOk z = true := by
        cases b with
        | true => exact set_all h (k x List.mem_cons_self)
        | false => exact h
      obtain ⟨i1, i2⟩ := ih _ bs h2 fun y m => k y (List.mem_cons_of_mem _ m)
      refine ⟨i1, i2.trans ?_⟩
      cases b with
      | true => exact List.length_set
      | false => rfl
theorem dStep_ok {s : DS} {n m : Nat} (dd : Deed) (ok : DOk s n m) (so : SOk s) (dok : DeedOk dd) (hm : m + 1 ≤ 1000) : DOk (dStep s dd).2 n (m + 1) ∧ SOk (dStep s dd).2 := by
  obtain ⟨h1, h2, h3, h4, h5, h6, h7⟩ := ok
  obtain ⟨k1, k2, k3⟩ := so
  have same : ∀ s' : DS, s'.dur = s.dur → s'.cur = s.cur → s'.wr = s.wr → DOk s' n (m + 1) ∧ SOk s' := fun s' a b c => ⟨⟨by rw [a]; exact h1, by rw [b]; exact h2, h3, h4, by rw [c]; exact h5, by rw [c]; omega, hm⟩, by unfold SOk; rw [a, b, c]; exact ⟨k1, k2, k3⟩⟩
  cases dd with
  | write i z =>
    show DOk (dWrite s i z).2 n (m + 1) ∧ SOk (dWrite s i z).2
    unfold dWrite
    by_cases hc : s.cra = true
    · rw [if_pos hc]; exact same _ rfl rfl rfl
    rw [if_neg hc]
    cases hi : inR s i with
    | false => rw [if_neg (by decide)]; exact same _ rfl rfl rfl
    | true =>
    rw [if_pos rfl]
    by_cases h96 : 96 < z.length
    · rw [if_pos h96]; exact same _ rfl rfl rfl
    rw [if_neg h96]
    cases ho : opB s with
    | none => exact same _ rfl rfl rfl
    | some s1 =>
    obtain ⟨e1, e2, e3, _⟩ := opB_eq ho
    obtain ⟨k, rfl, hk⟩ := inR_nat hi
    refine ⟨⟨by show s1.dur.length = n; rw [e1]; exact h1, by show (s1.cur.set k z).length = n; rw [List.length_set, e2]; exact h2, h3, h4, ?_, ?_, hm⟩, ?_, ?_, ?_⟩
    · intro x mx
      have mx : x ∈ s1.wr ++ [(k, z)] := mx
      rw [e3] at mx
      rcases List.mem_append.mp mx with mx | mx
      · exact h5 x mx
      · rw [List.mem_singleton.mp mx]; show k < n; omega
    · show (s1.wr ++ [(k, z)]).length ≤ m + 1
      rw [List.length_append, e3]
      show s.wr.length + 1 ≤ m + 1
      omega
    · show ∀ y ∈ s1.dur, _
      rw [e1]; exact k1
    · show ∀ y ∈ s1.cur.set k z, _
      rw [e2]; exact set_all k2 dok.2
    · intro x mx
      have mx : x ∈ s1.wr ++ [(k, z)] := mx
      rw [e3] at mx
      rcases List.mem_append.mp mx with mx | mx
      · exact k3 x mx
      · rw [List.mem_singleton.mp mx]; exact dok.2
  | read i =>
    show DOk (dRead s i).2 n (m + 1) ∧ SOk (dRead s i).2
    unfold dRead
    by_cases hc : s.cra = true
    · rw [if_pos hc]; exact same _ rfl rfl rfl
    rw [if_neg hc]
    cases hi : inR s i with
    | false => rw [if_neg (by decide)]; exact same _ rfl rfl rfl
    | true => rw [if_pos rfl]; exact same _ rfl rfl rfl
  | sync =>
    show DOk (dSync s).2 n (m + 1) ∧ SOk (dSync s).2
    unfold dSync
    by_cases hc : s.cra = true
    · rw [if_pos hc]; exact same _ rfl rfl rfl
    rw [if_neg hc]
    cases ho : opB s with
    | none => exact same _ rfl rfl rfl
    | some s1 =>
    obtain ⟨e1, e2, e3, _⟩ := opB_eq ho
    refine ⟨⟨by show s1.cur.length = n; rw [e2]; exact h2, by show s1.cur.length = n; rw [e2]; exact h2, h3, h4, (fun x mx => nomatch mx), Nat.zero_le _, hm⟩, ?_, ?_, fun x mx => nomatch mx⟩
    · show ∀ y ∈ s1.cur, _
      rw [e2]; exact k2
    · show ∀ y ∈ s1.cur, _
      rw [e2]; exact k2
  | arm k => exact same _ rfl rfl rfl
  | crash bs =>
    obtain ⟨c1, c2⟩ := crF_ok s.wr s.dur bs k1 k3
    exact ⟨⟨c2.trans h1, c2.trans h1, h3, h4, (fun x mx => nomatch mx), Nat.zero_le _, hm⟩, c1, c1, fun x mx => nomatch mx⟩
theorem off_new {H : Hp} {X : List Addr} {p d c l d' c' l' : Addr} (lv : ∀ x ∈ X, H x ≠ none) (o : ∀ x ∈ X, x ∉ [p, d, c, l]) (hd : d' = d ∨ H d' = none) (hc : c' = c ∨ H c' = none) (hl : l' = l ∨ H l' = none) : ∀ x ∈ X, x ∉ [p, d', c', l'] := fun x m n => by
  have o := o x m
  have lv := lv x m
  simp only [List.mem_cons, List.not_mem_nil, or_false, not_or] at n o
  have aux : ∀ e e' : Addr, (e' = e ∨ H e' = none) → x ≠ e → x ≠ e' := fun e e' h k z => by
    rcases h with h | h
    · exact k (z.trans h)
    · exact lv (z ▸ h)
  rcases n with n | n | n | n
  · exact o.1 n
  · exact aux _ _ hd o.2.1 n
  · exact aux _ _ hc o.2.2.1 n
  · exact aux _ _ hl o.2.2.2 n
theorem DkAt.lv {C : Addr} {H : Hp} {p d c l : Addr} {ts : List Addr} {s : DS} (h : DkAt C H p d c l ts s) : ∀ x ∈ [p, d, c, l], H x ≠ none ∧ ∀ xs, H x ≠ some (.tup xs) := by
  intro x m
  obtain ⟨dx, g⟩ := h.ins
  simp only [List.mem_cons, List.not_mem_nil, or_false] at m
  rcases m with rfl | rfl | rfl | rfl
  · rw [g]; exact ⟨nofun, (fun _ z => nomatch z)⟩
  · rw [h.du]; exact ⟨nofun, (fun _ z => nomatch z)⟩
  · rw [h.cu]; exact ⟨nofun, (fun _ z => nomatch z)⟩
  · rw [h.wl]; exact ⟨nofun, (fun _ z => nomatch z)⟩
theorem LsAt.lv {H : Hp} {q a b l : Addr} {ts : List Addr} {s : DS} (h : LsAt H q a b l ts s) : ∀ x ∈ [q, a, b, l], H x ≠ none ∧ ∀ xs, H x ≠ some (.tup xs) := by
  intro x m
  obtain ⟨xs, e⟩ := h.lst x m
  rw [e]; exact ⟨nofun, (fun _ z => nomatch z)⟩
theorem DeedAt.but {S : List Addr} {H H' : Hp} {t : Addr} {dd : Deed} (h : DeedAt H t dd) (k : But S H H') (ht : t ∉ S) (hc : ∀ e, H t = some (.tup [.str "crash", .ref e]) → e ∉ S) : DeedAt H' t dd := by
  cases dd with
  | write i z => exact k _ _ ht h
  | read i => exact k _ _ ht h
  | sync => exact k _ _ ht h
  | arm n => exact k _ _ ht h
  | crash bs =>
    obtain ⟨l, h1, h2⟩ := h
    exact ⟨l, k _ _ ht h1, k _ _ (hc l h1) h2⟩
def rsS : Rs → Str
  | .done _ => "done"
  | .crashed => "crashed"
  | .error => "error"
def rsO : Rs → Option Str
  | .done v => v
  | _ => none
theorem rsT_eq (r : Rs) : rsT r = [.str (rsS r), ovV (rsO r)] := by cases r <;> rfl
theorem sqSame {K : PySem.W.Frag} {H H' : Hp} {a : Addr} {xs : List V} (h : SqL K H a xs) (s : Same H H') : SqL K H' a xs := h.elim (fun r => .inl (r.elim (fun e => .inl (s _ _ e)) (fun ⟨w, e⟩ => .inr ⟨w, s _ _ e⟩))) .inr
theorem cutV_map {α : Type} (f : α → V) (xs : List α) (lo hi : Option Int) : ∃ ys : List α, cutV (xs.map f) lo hi = ys.map f ∧ ys.length ≤ xs.length ∧ (∀ y ∈ ys, y ∈ xs) := by
  refine ⟨(xs.drop (HT.sIx xs.length 0 lo)).take (HT.sIx xs.length xs.length hi - HT.sIx xs.length 0 lo), ?_, ?_, ?_⟩
  · unfold cutV
    rw [List.length_map, List.map_take, List.map_drop]
  · rw [List.length_take, List.length_drop]; omega
  · intro y hy
    exact List.mem_of_mem_drop (List.mem_of_mem_take hy)
--@SPLIT
section
variable {P : Program} {w : World} {K : PySem.W.Frag} {mg : Str → Option Value} {base : Heap}
theorem ok_law {C_Disk : Addr} {C_DiskError : Addr} {C_DiskCrashed : Addr} {f : Addr} {fd : FuncData} (F : L2.Fun K "law" "law" s_law f fd) (T : Txt K mg C_Disk C_DiskError C_DiskCrashed) : FnOk P w K mg base L2.CX0 9 f fd ["script"] (spLaw K) := by
  have k_Disk := k_Disk (P := P) (w := w) (K := K) (base := base) T
  have c__law_cell := c__law_cell (P := P) (w := w) (K := K) (base := base) T
  have c__law_refuses := c__law_refuses (P := P) (w := w) (K := K) (base := base) T
  have c__law_deed := c__law_deed (P := P) (w := w) (K := K) (base := base) T
  have c__law_expect := c__law_expect (P := P) (w := w) (K := K) (base := base) T
  have c__law_act := c__law_act (P := P) (w := w) (K := K) (base := base) T
  have c__law_agrees := c__law_agrees (P := P) (w := w) (K := K) (base := base) T
  have m_Disk__image := m_Disk__image (P := P) (w := w) (K := K) (base := base) T
  have m_Disk__pending := m_Disk__pending (P := P) (w := w) (K := K) (base := base) T
  refine F.ok sc_law (fun vs H Q E h => ?_) (fun cdv A' outer s H vs Q E hr h => ?_)
  · obtain ⟨a, ns, rfl, _⟩ := h; rfl
  obtain ⟨sa, ns, rfl, hS, hlen, ret⟩ := h
  have sl := sizeLine_eq
  refine ⟨_, (pss_cons (ps_set (i := 1) sc_law.nd rfl (Or.inl rfl) (pe_op op_add pe_int (pe_op op_mod (pe_callTy call_int1 (by rfl) T.z_int (by decide +kernel) (pa_cons (pe_c c__law_cell hr (by decide) (by rfl) (pa_cons (pv 0) (pa_cons pe_int pa_nil))) pa_nil)) pe_int)))
      (pss_cons (ps_set (i := 2) sc_law.nd rfl (Or.inl rfl) (pe_mkX k_Disk hr (by decide) (by rfl) no_pass (pa_cons (pv 1) pa_nil)))
      (pss_cons (ps_set (i := 3) sc_law.nd rfl (Or.inl rfl) (pe_lst (pa_cons (pe_op op_rep (pe_lst (pa_cons pe_str pa_nil)) (pv 1)) (pa_cons (pe_op op_rep (pe_lst (pa_cons pe_str pa_nil)) (pv 1)) (pa_cons (pe_lst pa_nil) (pa_cons pe_non (pa_cons pe_bl pa_nil)))))))
      (pss_cons (ps_if (PW.pt (pw_or (pt_cmpR op_ne (pe_gc (by rfl) T.c_SECTOR_SIZE) pe_int (nomark _)) (pw_or (pt_not (pt_val (pe_c c__law_refuses hr (by decide) (by rfl) (pa_cons pe_int pa_nil)))) (pw_or1 (pt_not (pt_val (pe_c c__law_refuses hr (by decide) (by rfl) (pa_cons (pe_un un_neg (pv 1)) pa_nil)))))))) (pss_one (ps_ret pe_bl)) pss_nil)
      (pss_cons (ps_for PassesOwn.never rfl (pi_list (pe_slice (ksll (K := K)) (pv 0) (po_some pe_int) po_none)) (pg_name (i := 4) sc_law.nd rfl (Or.inl rfl)) (pss_cons (ps_set (i := 5) sc_law.nd rfl (Or.inl rfl) (pe_c c__law_deed hr (by decide) (by rfl) (pa_cons (pv 4) (pa_cons (pv 1) pa_nil))))
      (pss_cons (ps_set (i := 6) sc_law.nd rfl (Or.inl rfl) (pe_c c__law_expect hr (by decide) (by rfl) (pa_cons (pv 3) (pa_cons (pv 5) pa_nil))))
      (pss_cons (ps_set (i := 7) sc_law.nd rfl (Or.inl rfl) (pe_c c__law_act hr (by decide) (by rfl) (pa_cons (pv 2) (pa_cons (pv 5) pa_nil))))
      (pss_cons (ps_if (PW.pt (pw_or (pt_cmpR op_ne (pe_ix (kixt (K := K)) (pv 7) pe_int (fun _ _ => rfl)) (pe_ix (kixt (K := K)) (pv 6) pe_int (fun _ _ => rfl)) (nomark _)) (pw_or1 (pt_not (pt_val (pe_c c__law_agrees hr (by decide) (by rfl) (pa_cons (pv 2) (pa_cons (pv 3) (pa_cons (pv 1) pa_nil))))))))) (pss_one (ps_ret pe_bl)) pss_nil)
      (pss_cons (ps_if (PW.pt (pw_and (pt_cmpR op_isN (pe_ix (kixt (K := K)) (pv 6) pe_int (fun _ _ => rfl)) pe_non (nomark _)) (pw_and1 (pt_cmpR op_notN (pe_ix (kixt (K := K)) (pv 7) pe_int (fun _ _ => rfl)) pe_non (nomark _))))) (pss_one (ps_ret pe_bl)) pss_nil)
      (pss_cons (ps_if (PW.pt (pw_and (pt_cmpR op_notN (pe_ix (kixt (K := K)) (pv 6) pe_int (fun _ _ => rfl)) pe_non (nomark _)) (pw_and1 (PW.pt (pw_or (pt_not (pt_val (pe_callB (kisi (K := K)) (by rfl) T.z_isinstance (by decide +kernel) (pa_cons (pe_ix (kixt (K := K)) (pv 7) pe_int (fun _ _ => rfl)) (pa_cons (pe_bltn (v := .ty "str") (by rfl) T.z_str (by decide +kernel) rfl) pa_nil))))) (pw_or1 (pt_cmpR op_ne (pe_ix (kixt (K := K)) (pv 7) pe_int (fun _ _ => rfl)) (pe_ix (kixt (K := K)) (pv 6) pe_int (fun _ _ => rfl)) (nomark _)))))))) (pss_one (ps_ret pe_bl)) pss_nil)
      (pss_cons (ps_set (i := 8) sc_law.nd rfl (Or.inl rfl) (pe_mt0 m_Disk__image hr (by decide) (pv 2)))
      (pss_cons (ps_asg pe_str (pg_sub (pv 8) pe_int set_list))
      (pss_cons (ps_expr (pe_bm PySem.F.plainAttrs_list PySem.F.slot_list_append PySem.F.type_list_append mt_append (pe_mt0 m_Disk__pending hr (by decide) (pv 2)) (pa_cons pe_int pa_nil)))
      (pss_one (ps_if (pt_not (pt_val (pe_c c__law_agrees hr (by decide) (by rfl) (pa_cons (pv 2) (pa_cons (pv 3) (pa_cons (pv 1) pa_nil)))))) (pss_one (ps_ret pe_bl)) pss_nil))))))))))))
      (pss_one (ps_ret pe_bl))))))), ?_⟩
  walk_at "rds"
  refine ⟨sa, ns, 0, rfl, hS, ?_⟩
  walk_at "rds"
  delta tNil
  intro p dx hp hdx ne
  obtain ⟨n, hn⟩ := Int.eq_ofNat_of_zero_le (show 0 ≤ 1 + ns.getD 0 0 % 6 by omega)
  have hn1 : 1 ≤ n := by omega
  have hn6 : n ≤ 6 := by omega
  have en : (fun i j : Int => V.int (i + j)) 1 (ns.getD 0 0 % 6) = V.int (n : Int) := congrArg V.int hn
  rw [en]
  have nx : upd H dx (.own p) p = none := by rw [upd_ne ne.symm]; exact hp
  have s0 := Same.trans (same_upd (o := .own p) hdx) (same_upd (o := .ins C_Disk dx []) nx)
  refine ⟨p, dx, n, rfl, upd_same, by omega, fun h => by omega, fun _ => fun H0 d c l frame nd nc nl at0 => ?_⟩
  have sm0 : Same H H0 := fun b o e => frame b o (s0 _ _ e) fun z => by rw [z, hp] at e; cases e
  have hS0 := sqSame hS sm0
  rw [Int.toNat_natCast] at at0
  clear frame nd nc nl s0 nx
  obtain ⟨dx0, g0⟩ := at0.ins
  have fl : ∀ k : Nat, (List.replicate k [V.str (Str.ofString "")]).flatten = (List.replicate k (⟨#[]⟩ : Str)).map V.str := fun k => by
    induction k with
    | zero => rfl
    | succ k ih => rw [List.replicate_succ, List.flatten_cons, ih, List.replicate_succ, List.map_cons]; rfl
  walk_at "rds"
  intro a0 na0
  walk_at "rds"
  refine ⟨a0, (n : Int), _, rfl, rfl, upd_same, by omega, by omega, by show 1 * n ≤ sizeLine; omega, fun a na => ?_⟩
  walk_at "rds"
  intro a1 na1
  walk_at "rds"
  refine ⟨a1, (n : Int), _, rfl, rfl, upd_same, by omega, by omega, by show 1 * n ≤ sizeLine; omega, fun b nb => ?_⟩
  walk_at "rds"
  intro l2 nl2
  walk_at "rds"
  intro q nq
  have b1 := same_upd (o := .lst [V.str (Str.ofString "")]) na0
  have c1 := b1.trans (same_upd (o := .lst (List.replicate (n : Int).toNat [V.str (Str.ofString "")]).flatten) na)
  have ha1 : upd (upd H0 a0 (.lst [V.str (Str.ofString "")])) a (.lst (List.replicate (n : Int).toNat [V.str (Str.ofString "")]).flatten) a = some (.lst ((List.replicate n (⟨#[]⟩ : Str)).map V.str)) := by rw [upd_same, fl]; rfl
  have na' := same_none b1 na
  generalize upd (upd H0 a0 (.lst [V.str (Str.ofString "")])) a (.lst (List.replicate (n : Int).toNat [V.str (Str.ofString "")]).flatten) = H1 at na1 nb nl2 nq c1 ha1 ⊢
  have b2 := same_upd (o := .lst [V.str (Str.ofString "")]) na1
  have c2 := b2.trans (same_upd (o := .lst (List.replicate (n : Int).toNat [V.str (Str.ofString "")]).flatten) nb)
  have hb2 : upd (upd H1 a1 (.lst [V.str (Str.ofString "")])) b (.lst (List.replicate (n : Int).toNat [V.str (Str.ofString "")]).flatten) b = some (.lst ((List.replicate n (⟨#[]⟩ : Str)).map V.str)) := by rw [upd_same, fl]; rfl
  have nb' := same_none b2 nb
  have ab : a ≠ b := fun z => by rw [← z, ha1] at nb'; cases nb'
  have nb' := same_none c1 nb'
  have ha2 := c2 _ _ ha1
  generalize upd (upd H1 a1 (.lst [V.str (Str.ofString "")])) b (.lst (List.replicate (n : Int).toNat [V.str (Str.ofString "")]).flatten) = H2 at nl2 nq c2 hb2 ha2 ⊢
  have c3 := same_upd (o := .lst []) nl2
  have hl3 : upd H2 l2 (.lst []) l2 = some (.lst []) := upd_same
  have al : a ≠ l2 := fun z => by rw [← z, ha2] at nl2; cases nl2
  have bl : b ≠ l2 := fun z => by rw [← z, hb2] at nl2; cases nl2
  have ha3 := c3 _ _ ha2
  have hb3 := c3 _ _ hb2
  have nl' := same_none (c1.trans c2) nl2
  generalize upd H2 l2 (.lst []) = H3 at nq c3 hl3 ha3 hb3 ⊢
  have c4 := same_upd (o := .lst [V.ref a, V.ref b, V.ref l2, V.non, V.bl false]) nq
  have lat4 : LsAt (upd H3 q (.lst [V.ref a, V.ref b, V.ref l2, V.non, V.bl false])) q a b l2 [] ⟨List.replicate n ⟨#[]⟩, List.replicate n ⟨#[]⟩, [], none, false⟩ :=
    ⟨upd_same, c4 _ _ ha3, c4 _ _ hb3, c4 _ _ hl3, TwAt.nil, ab, al, bl, (fun z => by rw [z, ha3] at nq; cases nq), (fun z => by rw [z, hb3] at nq; cases nq), (fun z => by rw [z, hl3] at nq; cases nq)⟩
  have c04 := ((c1.trans c2).trans c3).trans c4
  have nq' := same_none ((c1.trans c2).trans c3) nq
  have off4 : ∀ x ∈ [q, a, b, l2], x ∉ [p, d, c, l] := fun x m k => by
    have e : H0 x = none := by
      simp only [List.mem_cons, List.not_mem_nil, or_false] at m
      rcases m with rfl | rfl | rfl | rfl
      · exact nq'
      · exact na'
      · exact nb'
      · exact nl'
    exact (at0.lv x k).1 e
  generalize upd H3 q (.lst [V.ref a, V.ref b, V.ref l2, V.non, V.bl false]) = H4 at c4 c04 lat4 ⊢
  have at4 := at0.on c04
  have hS4 := sqSame hS0 c04
  walk_at "rds"
  refine ⟨by omega, fun H5 s5 => ?_⟩
  walk_at "rds"
  refine ⟨by omega, fun H6 s6 => ?_⟩
  walk_at "rds"
  obtain ⟨cs, ecs, hcl, _⟩ := cutV_map V.int ns (some 1) none
  refine ⟨sa, _, rfl, sqSame hS4 (s5.trans s6), fun r hr => ?_⟩
  rw [ecs]
  have s7 := s6.trans (same_upd (o := .lst (cs.map V.int)) hr)
  have hr7 : upd H6 r (.lst (cs.map V.int)) r = some (.lst (cs.map V.int)) := upd_same
  have hr4 : H4 r = none := same_none (s5.trans s6) hr
  generalize upd H6 r (.lst (cs.map V.int)) = H7 at s7 hr7 ⊢
  have at7 := at4.on (s5.trans s7)
  have lat7 := lat4.on (s5.trans s7)
  have offr : ∀ x ∈ [r], x ∉ [p, d, c, l] := fun x m k => (at4.lv x k).1 (by rw [List.mem_singleton.mp m]; exact hr4)
  have offq : ∀ x ∈ [r], x ∉ [q, a, b, l2] := fun x m k => (lat4.lv x k).1 (by rw [List.mem_singleton.mp m]; exact hr4)
  have so0 : SOk ⟨List.replicate n ⟨#[]⟩, List.replicate n ⟨#[]⟩, [], none, false⟩ := ⟨fun z m => by rw [List.eq_of_mem_replicate m]; decide +kernel, fun z m => by rw [List.eq_of_mem_replicate m]; decide +kernel, fun x m => nomatch m⟩
  have ok0 : DOk ⟨List.replicate n ⟨#[]⟩, List.replicate n ⟨#[]⟩, [], none, false⟩ n 0 := ⟨List.length_replicate, List.length_replicate, hn1, hn6, (fun x m => nomatch m), Nat.zero_le _, Nat.zero_le _⟩
  walk_at "rds"
  refine ⟨⟨_, sq hr7⟩, ?_⟩
  refine for_it (walk_list (K := K) (a := r) (xs := cs.map V.int)) (Pv := fun i σ H' => ∃ (y4 y5 y6 y7 y8 : Option V) (d c l a b l2 : Addr) (ts ts2 : List Addr) (s : DS), σ = [some (.ref sa), some (.int n), some (.ref p), some (.ref q), y4, y5, y6, y7, y8] ∧ DkAt C_Disk H' p d c l ts s ∧ LsAt H' q a b l2 ts2 s ∧ DOk s n i ∧ SOk s ∧ (∀ x ∈ [q, a, b, l2], x ∉ [p, d, c, l]) ∧ (∀ x ∈ [r], x ∉ [p, d, c, l]) ∧ (∀ x ∈ [r], x ∉ [q, a, b, l2]) ∧ H' r = some (.lst (cs.map V.int))) ⟨_, _, _, _, _, d, c, l, a, b, l2, [], [], _, rfl, at7, lat7, ok0, so0, off4, offr, offq, hr7⟩ (fun _ _ _ _ h => by obtain ⟨_, _, _, _, _, _, _, _, _, _, _, _, _, _, _, _, _, _, _, _, _, _, h⟩ := h; exact sq h) (fun i x σ H8 H9 hi hp hy => ?_) (fun σ H8 hp => ?_)
  · obtain ⟨y4, y5, y6, y7, y8, d, c, l, a, b, l2, ts, ts2, s, rfl, at8, lat8, ok8, so8, off8, offr8, offq8, hr8⟩ := hp
    obtain ⟨rfl, e8⟩ := hy
    rw [List.length_map] at hi
    have ex : x = .int cs[i] := by rw [List.getElem?_map, List.getElem?_eq_getElem hi] at e8; exact (Option.some.inj e8).symm
    subst ex
    walk_at "rds"
    (try delta tNil)
    refine ⟨_, n, rfl, hn6, fun G1 t dd e1 nt tc du dok => ?_⟩
    have at1 := at8.on e1
    have lat1 := lat8.on e1
    have hr1 := e1 _ _ hr8
    have sm1 := dStep_ok dd ok8 so8 dok (by omega)
    have tq : t ∉ [q, a, b, l2] := fun m => (lat8.lv t m).1 nt
    have tcq : ∀ e, G1 t = some (.tup [.str "crash", .ref e]) → e ∉ [q, a, b, l2] := fun e h m => (lat8.lv e m).1 (tc e h)
    walk_at "rds"
    (try delta tNil)
    refine ⟨q, a, b, l2, ts2, s, n, i, t, dd, rfl, lat1, ok8, du, dok, tcq, fun G2 a' b' l2' ts2' u bt2 ha2 hb2 hl2 lat2 nu hu => ?_⟩
    have du2 := du.but bt2.1 tq tcq
    have offl := fun x m k => off8 x k m
    have at2 := at1.but bt2.1 (fun m => off8 _ m (by simp)) (fun m => off8 _ m (by simp)) (fun m => off8 _ m (by simp)) (fun m => off8 _ m (by simp)) fun x m => (lat1.lv x m).2
    have hr2 := bt2.1 _ _ (offq8 r (by simp)) hr1
    have offq2 := off_new (fun x m => by rw [List.mem_singleton.mp m, hr1]; nofun) offq8 ha2 hb2 hl2
    have off2 : ∀ x ∈ [q, a', b', l2'], x ∉ [p, d, c, l] := fun x m k => off_new (fun y m => (at1.lv y m).1) (fun y m k => off8 y k m) ha2 hb2 hl2 x k m
    generalize hst : dStep s dd = rr at lat2 hu sm1
    obtain ⟨rs, s'⟩ := rr
    rw [rsT_eq] at hu
    walk_at "rds"
    (try delta tNil)
    refine ⟨p, d, c, l, ts, s, n, i, t, dd, rfl, at2, ok8, du2, dok, fun G3 d' c' l' ts' v bt3 hd3 hc3 hl3 at3 nv hv => ?_⟩
    rw [hst] at at3 hv
    rw [rsT_eq] at hv
    have lat3 := lat2.but bt3.1 (fun m => off2 _ (by simp) m) (fun m => off2 _ (by simp) m) (fun m => off2 _ (by simp) m) (fun m => off2 _ (by simp) m) fun x m => (at2.lv x m).2
    have hr3 := bt3.1 _ _ (offr8 r (by simp)) hr2
    have offr3 := off_new (fun x m => by rw [List.mem_singleton.mp m, hr2]; nofun) offr8 hd3 hc3 hl3
    have off3 := off_new (fun y m => (lat2.lv y m).1) off2 hd3 hc3 hl3
    have hu3 : G3 u = some (.tup [.str (rsS rs), ovV (rsO rs)]) := bt3.1 _ _ (fun m => (at2.lv u m).2 _ hu) hu
    clear at8 lat8 ok8 so8 off8 offr8 offq8 hr8 at1 lat1 hr1 at2 hr2 off2 lat2 du2 offl hd3 hc3 hl3 ha2 hb2 hl2 bt3 bt2 nv nu tq tcq du e1 nt tc dok hst
    obtain ⟨ok3, so3⟩ := sm1
    have ok3 : DOk s' n (i + 1) := ok3
    have so3 : SOk s' := so3
    have at3 : DkAt C_Disk G3 p d' c' l' ts' s' := at3
    have lat3 : LsAt G3 q a' b' l2' ts2' s' := lat3
    have hv : G3 v = some (.tup [.str (rsS rs), ovV (rsO rs)]) := hv
    walk_at "rds"
    refine ⟨v, _, ((0 : Nat) : Int), _, rfl, rfl, .inl (.inl hv), atI_nat (by rfl), ?_⟩
    walk_at "rds"
    refine ⟨u, _, ((0 : Nat) : Int), _, rfl, rfl, .inl (.inl hu3), atI_nat (by rfl), ?_⟩
    walk_at "rds"
    refine ifF (by simp) ?_
    walk_at "rds"
    (try delta tNil)
    refine ⟨p, d', c', l', ts', s', n, i + 1, q, a', b', l2', ts2', rfl, at3, ok3, lat3, so3.1, fun G4 e4 => ?_⟩
    have at4 := at3.on e4
    have lat4 := lat3.on e4
    have hr4 := e4 _ _ hr3
    have hv4 := e4 _ _ hv
    have hu4 := e4 _ _ hu3
    clear at3 lat3 hr3 hv hu3
    walk_at "rds"
    refine ⟨u, _, ((1 : Nat) : Int), _, rfl, rfl, .inl (.inl hu4), atI_nat (by rfl), ?_⟩
    rcases ho : rsO rs with _ | z
    all_goals rw [ho] at hv4 hu4
    all_goals walk_at "rds"
    refine ⟨v, _, ((1 : Nat) : Int), _, rfl, rfl, .inl (.inl hv4), atI_nat (by rfl), ?_⟩
    walk_at "rds"
    refine ⟨u, _, ((1 : Nat) : Int), _, rfl, rfl, .inl (.inl hu4), atI_nat (by rfl), ?_⟩
    walk_at "rds"
    rotate_left
    refine ⟨u, _, ((1 : Nat) : Int), _, rfl, rfl, .inl (.inl hu4), atI_nat (by rfl), ?_⟩
    walk_at "rds"
    refine ⟨v, _, ((1 : Nat) : Int), _, rfl, rfl, .inl (.inl hv4), atI_nat (by rfl), ?_⟩
    walk_at "rds"
    walk_at "isi"
    walk_at "rds"
    refine ⟨v, _, ((1 : Nat) : Int), _, rfl, rfl, .inl (.inl hv4), atI_nat (by rfl), ?_⟩
    walk_at "rds"
    refine ⟨u, _, ((1 : Nat) : Int), _, rfl, rfl, .inl (.inl hu4), atI_nat (by rfl), ?_⟩
    walk_at "rds"
    refine ifF (by simp [ovV]) ?_
    walk_at "rds"
    all_goals
      obtain ⟨dx4, g4⟩ := at4.ins
      refine ⟨p, dx4, _, rfl, g4, rfl, ?_⟩
      walk_at "rds"
      (try delta tNil)
      refine ⟨p, d', c', l', ts', s', n, i + 1, rfl, at4, ok3, fun h nh => ?_⟩
      walk_at "rds"
      have hl4 := ok3.ld
      refine ⟨h, _, ((0 : Nat) : Int), 0, rfl, rfl, upd_same, ixN_in (by rw [List.length_map, hl4]; exact hn1), ?_⟩
      have e5 : Same G4 (upd (upd G4 h (.lst (s'.dur.map V.str))) h (.lst ((s'.dur.map V.str).set 0 (.str (Str.ofString "spoilt"))))) := same_mut (same_upd nh) nh
      generalize upd (upd G4 h (.lst (s'.dur.map V.str))) h (.lst ((s'.dur.map V.str).set 0 (.str (Str.ofString "spoilt")))) = G5 at e5 ⊢
      walk_at "rds"
      refine ⟨p, dx4, _, rfl, e5 _ _ g4, rfl, ?_⟩
      walk_at "rds"
      (try delta tNil)
      refine ⟨p, d', c', l', ts', s', n, i + 1, rfl, at4.on e5, ok3, fun G6 h6 e6 nh6 hh6 => ?_⟩
      walk_at "rds"
      refine ⟨.inl ⟨rfl, _, sq hh6⟩, ?_⟩
      walk_at "rds"
      have ltw6 := at4.tw.1
      have wm6 := ok3.wm
      have mm6 := ok3.mm
      refine ⟨h6, _, _, rfl, rfl, hh6, by rw [List.length_map]; exact sz1000' (by omega), ?_⟩
      have e7 : Same G5 (upd G6 h6 (.lst ((s'.wr.map fun x => V.int x.1) ++ [V.int 0]))) := same_mut e6 nh6
      generalize upd G6 h6 (.lst ((s'.wr.map fun x => V.int x.1) ++ [V.int 0])) = G7 at e7 ⊢
      have e57 := e5.trans e7
      walk_at "rds"
      (try delta tNil)
      refine ⟨p, d', c', l', ts', s', n, i + 1, q, a', b', l2', ts2', rfl, at4.on e57, ok3, lat4.on e57, so3.1, fun G8 e8 => ?_⟩
      have e58 := e57.trans e8
      walk_at "rds"
      exact ⟨_, _, _, _, _, d', c', l', a', b', l2', ts', ts2', s', rfl, at4.on e58, lat4.on e58, ok3, so3, off3, offr3, offq2, e58 _ _ hr4⟩
  · walk_at "rds"
    exact ret _
end

theorem fin {C_Disk : Addr} {C_DiskError : Addr} {C_DiskCrashed : Addr} {P : Program} {w : World} {K : PySem.W.Frag} {mg : Str → Option Value} {fa : Addr} (hfa : mg "law" = some (.ref fa)) (T : Txt K mg C_Disk C_DiskError C_DiskCrashed) :
    ∃ fd : FuncData, (∀ (s : Shared) (u : Value), BindsTo s fd ⟨[u], []⟩ [("script", u)]) ∧ ∀ base : Heap, K.In base → base.Ns mainGlobals mg → FnOk P w K mg base L2.CX0 9 fa fd ["script"] (spLaw K) := by
  obtain ⟨f, fd, F, hm, b⟩ := T.d_law.ex
  cases hfa.symm.trans hm
  refine ⟨fd, fun s u => ?_, fun base _ _ => ok_law F T⟩
  obtain ⟨oc, od, kV, doc, pm, an, cdv, ct, osl, rfl, l, _⟩ := F.ex
  exact .of_eq rfl

theorem all_mk {K : PySem.W.Frag} {h : Heap} {mg : Str → Option Value} (X : K.In h) (G : h.Ns mainGlobals mg)
    {f_is_integer : Addr} {od_is_integer an_is_integer : Option Addr} {sl_is_integer : Array (Option Value)} {oc_is_integer kV_is_integer dc_is_integer pm_is_integer cd_is_integer ct_is_integer : Value}
    {f__law_cell : Addr} {od__law_cell an__law_cell : Option Addr} {sl__law_cell : Array (Option Value)} {oc__law_cell kV__law_cell dc__law_cell pm__law_cell cd__law_cell ct__law_cell : Value}
    {f__law_text : Addr} {od__law_text an__law_text : Option Addr} {sl__law_text : Array (Option Value)} {oc__law_text kV__law_text dc__law_text pm__law_text cd__law_text ct__law_text : Value}
    {f__law_survivors : Addr} {od__law_survivors an__law_survivors : Option Addr} {sl__law_survivors : Array (Option Value)} {oc__law_survivors kV__law_survivors dc__law_survivors pm__law_survivors cd__law_survivors ct__law_survivors : Value}
    {f__law_act : Addr} {od__law_act an__law_act : Option Addr} {sl__law_act : Array (Option Value)} {oc__law_act kV__law_act dc__law_act pm__law_act cd__law_act ct__law_act : Value}
    {f__law_operate : Addr} {od__law_operate an__law_operate : Option Addr} {sl__law_operate : Array (Option Value)} {oc__law_operate kV__law_operate dc__law_operate pm__law_operate cd__law_operate ct__law_operate : Value}
    {f__law_expect : Addr} {od__law_expect an__law_expect : Option Addr} {sl__law_expect : Array (Option Value)} {oc__law_expect kV__law_expect dc__law_expect pm__law_expect cd__law_expect ct__law_expect : Value}
    {f__law_deed : Addr} {od__law_deed an__law_deed : Option Addr} {sl__law_deed : Array (Option Value)} {oc__law_deed kV__law_deed dc__law_deed pm__law_deed cd__law_deed ct__law_deed : Value}
    {f__law_agrees : Addr} {od__law_agrees an__law_agrees : Option Addr} {sl__law_agrees : Array (Option Value)} {oc__law_agrees kV__law_agrees dc__law_agrees pm__law_agrees cd__law_agrees ct__law_agrees : Value}
    {f__law_refuses : Addr} {od__law_refuses an__law_refuses : Option Addr} {sl__law_refuses : Array (Option Value)} {oc__law_refuses kV__law_refuses dc__law_refuses pm__law_refuses cd__law_refuses ct__law_refuses : Value}
    {f_law : Addr} {od_law an_law : Option Addr} {sl_law : Array (Option Value)} {oc_law kV_law dc_law pm_law cd_law ct_law : Value}
    {C_Disk : Addr}
    {f_Disk____init__ : Addr} {od_Disk____init__ an_Disk____init__ : Option Addr} {sl_Disk____init__ : Array (Option Value)} {oc_Disk____init__ kV_Disk____init__ dc_Disk____init__ pm_Disk____init__ cd_Disk____init__ ct_Disk____init__ : Value}
    {f_Disk__size : Addr} {od_Disk__size an_Disk__size : Option Addr} {sl_Disk__size : Array (Option Value)} {oc_Disk__size kV_Disk__size dc_Disk__size pm_Disk__size cd_Disk__size ct_Disk__size : Value}
    {f_Disk__read : Addr} {od_Disk__read an_Disk__read : Option Addr} {sl_Disk__read : Array (Option Value)} {oc_Disk__read kV_Disk__read dc_Disk__read pm_Disk__read cd_Disk__read ct_Disk__read : Value}
    {f_Disk__write : Addr} {od_Disk__write an_Disk__write : Option Addr} {sl_Disk__write : Array (Option Value)} {oc_Disk__write kV_Disk__write dc_Disk__write pm_Disk__write cd_Disk__write ct_Disk__write : Value}
    {f_Disk__sync : Addr} {od_Disk__sync an_Disk__sync : Option Addr} {sl_Disk__sync : Array (Option Value)} {oc_Disk__sync kV_Disk__sync dc_Disk__sync pm_Disk__sync cd_Disk__sync ct_Disk__sync : Value}
    {f_Disk__pending : Addr} {od_Disk__pending an_Disk__pending : Option Addr} {sl_Disk__pending : Array (Option Value)} {oc_Disk__pending kV_Disk__pending dc_Disk__pending pm_Disk__pending cd_Disk__pending ct_Disk__pending : Value}
    {f_Disk__arm : Addr} {od_Disk__arm an_Disk__arm : Option Addr} {sl_Disk__arm : Array (Option Value)} {oc_Disk__arm kV_Disk__arm dc_Disk__arm pm_Disk__arm cd_Disk__arm ct_Disk__arm : Value}
    {f_Disk__crash : Addr} {od_Disk__crash an_Disk__crash : Option Addr} {sl_Disk__crash : Array (Option Value)} {oc_Disk__crash kV_Disk__crash dc_Disk__crash pm_Disk__crash cd_Disk__crash ct_Disk__crash : Value}
    {f_Disk__image : Addr} {od_Disk__image an_Disk__image : Option Addr} {sl_Disk__image : Array (Option Value)} {oc_Disk__image kV_Disk__image dc_Disk__image pm_Disk__image cd_Disk__image ct_Disk__image : Value}
    {f_Disk___check_running : Addr} {od_Disk___check_running an_Disk___check_running : Option Addr} {sl_Disk___check_running : Array (Option Value)} {oc_Disk___check_running kV_Disk___check_running dc_Disk___check_running pm_Disk___check_running cd_Disk___check_running ct_Disk___check_running : Value}
    {f_Disk___check_sector : Addr} {od_Disk___check_sector an_Disk___check_sector : Option Addr} {sl_Disk___check_sector : Array (Option Value)} {oc_Disk___check_sector kV_Disk___check_sector dc_Disk___check_sector pm_Disk___check_sector cd_Disk___check_sector ct_Disk___check_sector : Value}
    {f_Disk___begin_operation : Addr} {od_Disk___begin_operation an_Disk___begin_operation : Option Addr} {sl_Disk___begin_operation : Array (Option Value)} {oc_Disk___begin_operation kV_Disk___begin_operation dc_Disk___begin_operation pm_Disk___begin_operation cd_Disk___begin_operation ct_Disk___begin_operation : Value}
    {C_DiskError : Addr}
    {C_DiskCrashed : Addr}
    {t_SECTOR_SIZE : Tok}
    (a_is_integer : PySem.W.nsIn K mainGlobals "is_integer" = some (some (.ref f_is_integer)))
    (l_is_integer : K.lookup f_is_integer = some ⟨oc_is_integer, od_is_integer, .func (PySem.W.fnOf "is_integer" "is_integer" (defArgs s_is_integer) (defBody s_is_integer) (defScope s_is_integer) .none kV_is_integer dc_is_integer pm_is_integer an_is_integer cd_is_integer ct_is_integer), sl_is_integer⟩)
    (e_is_integer : PySem.W.codeIn K cd_is_integer "is_integer" = true)
    (k_is_integer : PySem.W.keepIn K (.ref f_is_integer) = true)
    (a__law_cell : PySem.W.nsIn K mainGlobals "_law_cell" = some (some (.ref f__law_cell)))
    (l__law_cell : K.lookup f__law_cell = some ⟨oc__law_cell, od__law_cell, .func (PySem.W.fnOf "_law_cell" "_law_cell" (defArgs s__law_cell) (defBody s__law_cell) (defScope s__law_cell) .none kV__law_cell dc__law_cell pm__law_cell an__law_cell cd__law_cell ct__law_cell), sl__law_cell⟩)
    (e__law_cell : PySem.W.codeIn K cd__law_cell "_law_cell" = true)
    (k__law_cell : PySem.W.keepIn K (.ref f__law_cell) = true)
    (a__law_text : PySem.W.nsIn K mainGlobals "_law_text" = some (some (.ref f__law_text)))
    (l__law_text : K.lookup f__law_text = some ⟨oc__law_text, od__law_text, .func (PySem.W.fnOf "_law_text" "_law_text" (defArgs s__law_text) (defBody s__law_text) (defScope s__law_text) .none kV__law_text dc__law_text pm__law_text an__law_text cd__law_text ct__law_text), sl__law_text⟩)
    (e__law_text : PySem.W.codeIn K cd__law_text "_law_text" = true)
    (k__law_text : PySem.W.keepIn K (.ref f__law_text) = true)
    (a__law_survivors : PySem.W.nsIn K mainGlobals "_law_survivors" = some (some (.ref f__law_survivors)))
    (l__law_survivors : K.lookup f__law_survivors = some ⟨oc__law_survivors, od__law_survivors, .func (PySem.W.fnOf "_law_survivors" "_law_survivors" (defArgs s__law_survivors) (defBody s__law_survivors) (defScope s__law_survivors) .none kV__law_survivors dc__law_survivors pm__law_survivors an__law_survivors cd__law_survivors ct__law_survivors), sl__law_survivors⟩)
    (e__law_survivors : PySem.W.codeIn K cd__law_survivors "_law_survivors" = true)
    (k__law_survivors : PySem.W.keepIn K (.ref f__law_survivors) = true)
    (a__law_act : PySem.W.nsIn K mainGlobals "_law_act" = some (some (.ref f__law_act)))
    (l__law_act : K.lookup f__law_act = some ⟨oc__law_act, od__law_act, .func (PySem.W.fnOf "_law_act" "_law_act" (defArgs s__law_act) (defBody s__law_act) (defScope s__law_act) .none kV__law_act dc__law_act pm__law_act an__law_act cd__law_act ct__law_act), sl__law_act⟩)
    (e__law_act : PySem.W.codeIn K cd__law_act "_law_act" = true)
    (k__law_act : PySem.W.keepIn K (.ref f__law_act) = true)
    (a__law_operate : PySem.W.nsIn K mainGlobals "_law_operate" = some (some (.ref f__law_operate)))
    (l__law_operate : K.lookup f__law_operate = some ⟨oc__law_operate, od__law_operate, .func (PySem.W.fnOf "_law_operate" "_law_operate" (defArgs s__law_operate) (defBody s__law_operate) (defScope s__law_operate) .none kV__law_operate dc__law_operate pm__law_operate an__law_operate cd__law_operate ct__law_operate), sl__law_operate⟩)
    (e__law_operate : PySem.W.codeIn K cd__law_operate "_law_operate" = true)
    (k__law_operate : PySem.W.keepIn K (.ref f__law_operate) = true)
    (a__law_expect : PySem.W.nsIn K mainGlobals "_law_expect" = some (some (.ref f__law_expect)))
    (l__law_expect : K.lookup f__law_expect = some ⟨oc__law_expect, od__law_expect, .func (PySem.W.fnOf "_law_expect" "_law_expect" (defArgs s__law_expect) (defBody s__law_expect) (defScope s__law_expect) .none kV__law_expect dc__law_expect pm__law_expect an__law_expect cd__law_expect ct__law_expect), sl__law_expect⟩)
    (e__law_expect : PySem.W.codeIn K cd__law_expect "_law_expect" = true)
    (k__law_expect : PySem.W.keepIn K (.ref f__law_expect) = true)
    (a__law_deed : PySem.W.nsIn K mainGlobals "_law_deed" = some (some (.ref f__law_deed)))
    (l__law_deed : K.lookup f__law_deed = some ⟨oc__law_deed, od__law_deed, .func (PySem.W.fnOf "_law_deed" "_law_deed" (defArgs s__law_deed) (defBody s__law_deed) (defScope s__law_deed) .none kV__law_deed dc__law_deed pm__law_deed an__law_deed cd__law_deed ct__law_deed), sl__law_deed⟩)
    (e__law_deed : PySem.W.codeIn K cd__law_deed "_law_deed" = true)
    (k__law_deed : PySem.W.keepIn K (.ref f__law_deed) = true)
    (a__law_agrees : PySem.W.nsIn K mainGlobals "_law_agrees" = some (some (.ref f__law_agrees)))
    (l__law_agrees : K.lookup f__law_agrees = some ⟨oc__law_agrees, od__law_agrees, .func (PySem.W.fnOf "_law_agrees" "_law_agrees" (defArgs s__law_agrees) (defBody s__law_agrees) (defScope s__law_agrees) .none kV__law_agrees dc__law_agrees pm__law_agrees an__law_agrees cd__law_agrees ct__law_agrees), sl__law_agrees⟩)
    (e__law_agrees : PySem.W.codeIn K cd__law_agrees "_law_agrees" = true)
    (k__law_agrees : PySem.W.keepIn K (.ref f__law_agrees) = true)
    (a__law_refuses : PySem.W.nsIn K mainGlobals "_law_refuses" = some (some (.ref f__law_refuses)))
    (l__law_refuses : K.lookup f__law_refuses = some ⟨oc__law_refuses, od__law_refuses, .func (PySem.W.fnOf "_law_refuses" "_law_refuses" (defArgs s__law_refuses) (defBody s__law_refuses) (defScope s__law_refuses) .none kV__law_refuses dc__law_refuses pm__law_refuses an__law_refuses cd__law_refuses ct__law_refuses), sl__law_refuses⟩)
    (e__law_refuses : PySem.W.codeIn K cd__law_refuses "_law_refuses" = true)
    (k__law_refuses : PySem.W.keepIn K (.ref f__law_refuses) = true)
    (a_law : PySem.W.nsIn K mainGlobals "law" = some (some (.ref f_law)))
    (l_law : K.lookup f_law = some ⟨oc_law, od_law, .func (PySem.W.fnOf "law" "law" (defArgs s_law) (defBody s_law) (defScope s_law) .none kV_law dc_law pm_law an_law cd_law ct_law), sl_law⟩)
    (e_law : PySem.W.codeIn K cd_law "law" = true)
    (k_law : PySem.W.keepIn K (.ref f_law) = true)
    (ac_Disk : PySem.W.nsIn K mainGlobals "Disk" = some (some (.ref C_Disk)))
    (pg_Disk : PySem.W.plainGet K C_Disk Str.empty = true)
    (hd_Disk : PySem.W.hasDictIn K C_Disk = true)
    (po_Disk : PySem.W.plainOver K C_Disk = true)
    (sa_Disk : PySem.W.findIn K (.ref C_Disk) "__setattr__" = some (some (.builtin "object.__setattr__")))
    (mk_Disk : PySem.W.makesIn K C_Disk = true)
    (kc_Disk : PySem.W.keepIn K (.ref C_Disk) = true)
    (na_Disk__durable : PySem.W.findIn K (.ref C_Disk) "_durable" = some none)
    (na_Disk__current : PySem.W.findIn K (.ref C_Disk) "_current" = some none)
    (na_Disk__writes : PySem.W.findIn K (.ref C_Disk) "_writes" = some none)
    (na_Disk__passing : PySem.W.findIn K (.ref C_Disk) "_passing" = some none)
    (na_Disk__crashed : PySem.W.findIn K (.ref C_Disk) "_crashed" = some none)
    (a_Disk____init__ : PySem.W.findIn K (.ref C_Disk) "__init__" = some (some (.ref f_Disk____init__)))
    (i_Disk____init__ : PySem.W.isFn K (.ref f_Disk____init__) = true)
    (l_Disk____init__ : K.lookup f_Disk____init__ = some ⟨oc_Disk____init__, od_Disk____init__, .func (PySem.W.fnOf "__init__" "Disk.__init__" (defArgs s_Disk____init__) (defBody s_Disk____init__) (defScope s_Disk____init__) .none kV_Disk____init__ dc_Disk____init__ pm_Disk____init__ an_Disk____init__ cd_Disk____init__ ct_Disk____init__), sl_Disk____init__⟩)
    (e_Disk____init__ : PySem.W.codeIn K cd_Disk____init__ "Disk.__init__" = true)
    (k_Disk____init__ : PySem.W.keepIn K (.ref f_Disk____init__) = true)
    (a_Disk__size : PySem.W.findIn K (.ref C_Disk) "size" = some (some (.ref f_Disk__size)))
    (i_Disk__size : PySem.W.isFn K (.ref f_Disk__size) = true)
    (l_Disk__size : K.lookup f_Disk__size = some ⟨oc_Disk__size, od_Disk__size, .func (PySem.W.fnOf "size" "Disk.size" (defArgs s_Disk__size) (defBody s_Disk__size) (defScope s_Disk__size) .none kV_Disk__size dc_Disk__size pm_Disk__size an_Disk__size cd_Disk__size ct_Disk__size), sl_Disk__size⟩)
    (e_Disk__size : PySem.W.codeIn K cd_Disk__size "Disk.size" = true)
    (k_Disk__size : PySem.W.keepIn K (.ref f_Disk__size) = true)
    (a_Disk__read : PySem.W.findIn K (.ref C_Disk) "read" = some (some (.ref f_Disk__read)))
    (i_Disk__read : PySem.W.isFn K (.ref f_Disk__read) = true)
    (l_Disk__read : K.lookup f_Disk__read = some ⟨oc_Disk__read, od_Disk__read, .func (PySem.W.fnOf "read" "Disk.read" (defArgs s_Disk__read) (defBody s_Disk__read) (defScope s_Disk__read) .none kV_Disk__read dc_Disk__read pm_Disk__read an_Disk__read cd_Disk__read ct_Disk__read), sl_Disk__read⟩)
    (e_Disk__read : PySem.W.codeIn K cd_Disk__read "Disk.read" = true)
    (k_Disk__read : PySem.W.keepIn K (.ref f_Disk__read) = true)
    (a_Disk__write : PySem.W.findIn K (.ref C_Disk) "write" = some (some (.ref f_Disk__write)))
    (i_Disk__write : PySem.W.isFn K (.ref f_Disk__write) = true)
    (l_Disk__write : K.lookup f_Disk__write = some ⟨oc_Disk__write, od_Disk__write, .func (PySem.W.fnOf "write" "Disk.write" (defArgs s_Disk__write) (defBody s_Disk__write) (defScope s_Disk__write) .none kV_Disk__write dc_Disk__write pm_Disk__write an_Disk__write cd_Disk__write ct_Disk__write), sl_Disk__write⟩)
    (e_Disk__write : PySem.W.codeIn K cd_Disk__write "Disk.write" = true)
    (k_Disk__write : PySem.W.keepIn K (.ref f_Disk__write) = true)
    (a_Disk__sync : PySem.W.findIn K (.ref C_Disk) "sync" = some (some (.ref f_Disk__sync)))
    (i_Disk__sync : PySem.W.isFn K (.ref f_Disk__sync) = true)
    (l_Disk__sync : K.lookup f_Disk__sync = some ⟨oc_Disk__sync, od_Disk__sync, .func (PySem.W.fnOf "sync" "Disk.sync" (defArgs s_Disk__sync) (defBody s_Disk__sync) (defScope s_Disk__sync) .none kV_Disk__sync dc_Disk__sync pm_Disk__sync an_Disk__sync cd_Disk__sync ct_Disk__sync), sl_Disk__sync⟩)
    (e_Disk__sync : PySem.W.codeIn K cd_Disk__sync "Disk.sync" = true)
    (k_Disk__sync : PySem.W.keepIn K (.ref f_Disk__sync) = true)
    (a_Disk__pending : PySem.W.findIn K (.ref C_Disk) "pending" = some (some (.ref f_Disk__pending)))
    (i_Disk__pending : PySem.W.isFn K (.ref f_Disk__pending) = true)
    (l_Disk__pending : K.lookup f_Disk__pending = some ⟨oc_Disk__pending, od_Disk__pending, .func (PySem.W.fnOf "pending" "Disk.pending" (defArgs s_Disk__pending) (defBody s_Disk__pending) (defScope s_Disk__pending) .none kV_Disk__pending dc_Disk__pending pm_Disk__pending an_Disk__pending cd_Disk__pending ct_Disk__pending), sl_Disk__pending⟩)
    (e_Disk__pending : PySem.W.codeIn K cd_Disk__pending "Disk.pending" = true)
    (k_Disk__pending : PySem.W.keepIn K (.ref f_Disk__pending) = true)
    (a_Disk__arm : PySem.W.findIn K (.ref C_Disk) "arm" = some (some (.ref f_Disk__arm)))
    (i_Disk__arm : PySem.W.isFn K (.ref f_Disk__arm) = true)
    (l_Disk__arm : K.lookup f_Disk__arm = some ⟨oc_Disk__arm, od_Disk__arm, .func (PySem.W.fnOf "arm" "Disk.arm" (defArgs s_Disk__arm) (defBody s_Disk__arm) (defScope s_Disk__arm) .none kV_Disk__arm dc_Disk__arm pm_Disk__arm an_Disk__arm cd_Disk__arm ct_Disk__arm), sl_Disk__arm⟩)
    (e_Disk__arm : PySem.W.codeIn K cd_Disk__arm "Disk.arm" = true)
    (k_Disk__arm : PySem.W.keepIn K (.ref f_Disk__arm) = true)
    (a_Disk__crash : PySem.W.findIn K (.ref C_Disk) "crash" = some (some (.ref f_Disk__crash)))
    (i_Disk__crash : PySem.W.isFn K (.ref f_Disk__crash) = true)
    (l_Disk__crash : K.lookup f_Disk__crash = some ⟨oc_Disk__crash, od_Disk__crash, .func (PySem.W.fnOf "crash" "Disk.crash" (defArgs s_Disk__crash) (defBody s_Disk__crash) (defScope s_Disk__crash) .none kV_Disk__crash dc_Disk__crash pm_Disk__crash an_Disk__crash cd_Disk__crash ct_Disk__crash), sl_Disk__crash⟩)
    (e_Disk__crash : PySem.W.codeIn K cd_Disk__crash "Disk.crash" = true)
    (k_Disk__crash : PySem.W.keepIn K (.ref f_Disk__crash) = true)
    (a_Disk__image : PySem.W.findIn K (.ref C_Disk) "image" = some (some (.ref f_Disk__image)))
    (i_Disk__image : PySem.W.isFn K (.ref f_Disk__image) = true)
    (l_Disk__image : K.lookup f_Disk__image = some ⟨oc_Disk__image, od_Disk__image, .func (PySem.W.fnOf "image" "Disk.image" (defArgs s_Disk__image) (defBody s_Disk__image) (defScope s_Disk__image) .none kV_Disk__image dc_Disk__image pm_Disk__image an_Disk__image cd_Disk__image ct_Disk__image), sl_Disk__image⟩)
    (e_Disk__image : PySem.W.codeIn K cd_Disk__image "Disk.image" = true)
    (k_Disk__image : PySem.W.keepIn K (.ref f_Disk__image) = true)
    (a_Disk___check_running : PySem.W.findIn K (.ref C_Disk) "_check_running" = some (some (.ref f_Disk___check_running)))
    (i_Disk___check_running : PySem.W.isFn K (.ref f_Disk___check_running) = true)
    (l_Disk___check_running : K.lookup f_Disk___check_running = some ⟨oc_Disk___check_running, od_Disk___check_running, .func (PySem.W.fnOf "_check_running" "Disk._check_running" (defArgs s_Disk___check_running) (defBody s_Disk___check_running) (defScope s_Disk___check_running) .none kV_Disk___check_running dc_Disk___check_running pm_Disk___check_running an_Disk___check_running cd_Disk___check_running ct_Disk___check_running), sl_Disk___check_running⟩)
    (e_Disk___check_running : PySem.W.codeIn K cd_Disk___check_running "Disk._check_running" = true)
    (k_Disk___check_running : PySem.W.keepIn K (.ref f_Disk___check_running) = true)
    (a_Disk___check_sector : PySem.W.findIn K (.ref C_Disk) "_check_sector" = some (some (.ref f_Disk___check_sector)))
    (i_Disk___check_sector : PySem.W.isFn K (.ref f_Disk___check_sector) = true)
    (l_Disk___check_sector : K.lookup f_Disk___check_sector = some ⟨oc_Disk___check_sector, od_Disk___check_sector, .func (PySem.W.fnOf "_check_sector" "Disk._check_sector" (defArgs s_Disk___check_sector) (defBody s_Disk___check_sector) (defScope s_Disk___check_sector) .none kV_Disk___check_sector dc_Disk___check_sector pm_Disk___check_sector an_Disk___check_sector cd_Disk___check_sector ct_Disk___check_sector), sl_Disk___check_sector⟩)
    (e_Disk___check_sector : PySem.W.codeIn K cd_Disk___check_sector "Disk._check_sector" = true)
    (k_Disk___check_sector : PySem.W.keepIn K (.ref f_Disk___check_sector) = true)
    (a_Disk___begin_operation : PySem.W.findIn K (.ref C_Disk) "_begin_operation" = some (some (.ref f_Disk___begin_operation)))
    (i_Disk___begin_operation : PySem.W.isFn K (.ref f_Disk___begin_operation) = true)
    (l_Disk___begin_operation : K.lookup f_Disk___begin_operation = some ⟨oc_Disk___begin_operation, od_Disk___begin_operation, .func (PySem.W.fnOf "_begin_operation" "Disk._begin_operation" (defArgs s_Disk___begin_operation) (defBody s_Disk___begin_operation) (defScope s_Disk___begin_operation) .none kV_Disk___begin_operation dc_Disk___begin_operation pm_Disk___begin_operation an_Disk___begin_operation cd_Disk___begin_operation ct_Disk___begin_operation), sl_Disk___begin_operation⟩)
    (e_Disk___begin_operation : PySem.W.codeIn K cd_Disk___begin_operation "Disk._begin_operation" = true)
    (k_Disk___begin_operation : PySem.W.keepIn K (.ref f_Disk___begin_operation) = true)
    (xa_DiskError : PySem.W.nsIn K mainGlobals "DiskError" = some (some (.ref C_DiskError)))
    (xe_DiskError : PySem.W.excIn K C_DiskError [.type "ValueError", .type "Exception", .type "BaseException", .type "object"] "ValueError.__new__" = true)
    (xk_DiskError : PySem.W.keepIn K (.ref C_DiskError) = true)
    (xb_DiskError : PySem.W.subIn K (.ref C_DiskError) (.type "BaseException") = some true)
    (xt_DiskError : PySem.W.typeIn K (.ref C_DiskError) = some (.type "type"))
    (xh_DiskError : PySem.W.hasDictIn K C_DiskError = true)
    (xa_DiskCrashed : PySem.W.nsIn K mainGlobals "DiskCrashed" = some (some (.ref C_DiskCrashed)))
    (xe_DiskCrashed : PySem.W.excIn K C_DiskCrashed [.type "ValueError", .type "Exception", .type "BaseException", .type "object"] "ValueError.__new__" = true)
    (xk_DiskCrashed : PySem.W.keepIn K (.ref C_DiskCrashed) = true)
    (xb_DiskCrashed : PySem.W.subIn K (.ref C_DiskCrashed) (.type "BaseException") = some true)
    (xt_DiskCrashed : PySem.W.typeIn K (.ref C_DiskCrashed) = some (.type "type"))
    (xh_DiskCrashed : PySem.W.hasDictIn K C_DiskCrashed = true)
    (ehg_DiskCrashed : PySem.W.findIn K (.ref C_DiskCrashed) "__getattribute__" = some (some (.builtin "BaseException.__getattribute__")))
    (ehk_DiskCrashed : PySem.W.findIn K (.ref C_DiskCrashed) "__getattr__" = some none)
    (eha_DiskCrashed : PySem.W.findIn K (.ref C_DiskCrashed) "__class__" = some (some (.builtin "object.__class__")))
    (ehm_DiskCrashed : PySem.W.mroIn K C_DiskCrashed (.type "object") = some true)
    (ehn_DiskCrashed : PySem.W.specialIn K (.builtin "object.__class__") "__get__" = some (some (.builtin "getset_descriptor.__get__")))
    (eht_DiskCrashed : PySem.W.takesIn K (.builtin "object.__class__") = some true)
    (skt_DiskCrashed_DiskError : PySem.W.subIn K (.ref C_DiskCrashed) (.ref C_DiskError) = some false)
    (rkt_DiskCrashed_DiskError : PySem.W.subIn K (.ref C_DiskError) (.ref C_DiskError) = some true)
    (u_DiskError_DiskError : PySem.W.subIn K (.ref C_DiskError) (.ref C_DiskError) = some true)
    (u_DiskCrashed_DiskCrashed : PySem.W.subIn K (.ref C_DiskCrashed) (.ref C_DiskCrashed) = some true)
    (u_DiskError_DiskCrashed : PySem.W.subIn K (.ref C_DiskError) (.ref C_DiskCrashed) = some false)
    (u_DiskCrashed_DiskError : PySem.W.subIn K (.ref C_DiskCrashed) (.ref C_DiskError) = some false)
    (a_SECTOR_SIZE : PySem.W.nsIn K mainGlobals "SECTOR_SIZE" = some (some (.int 96 t_SECTOR_SIZE)))
    (z_bool : PySem.W.nsIn K mainGlobals "bool" = some none)
    (z_int : PySem.W.nsIn K mainGlobals "int" = some none)
    (z_isinstance : PySem.W.nsIn K mainGlobals "isinstance" = some none)
    (z_len : PySem.W.nsIn K mainGlobals "len" = some none)
    (z_list : PySem.W.nsIn K mainGlobals "list" = some none)
    (z_min : PySem.W.nsIn K mainGlobals "min" = some none)
    (z_range : PySem.W.nsIn K mainGlobals "range" = some none)
    (z_str : PySem.W.nsIn K mainGlobals "str" = some none)
    (z_zip : PySem.W.nsIn K mainGlobals "zip" = some none) : Txt K mg C_Disk C_DiskError C_DiskCrashed :=
  { d_is_integer := ⟨_, _, (fun_mk l_is_integer e_is_integer k_is_integer), PySem.W.mg_of X G a_is_integer, ((fun_mk (st := s_is_integer) l_is_integer e_is_integer k_is_integer).binds (ps := ["value", "least", "greatest"]) fun _ _ _ _ _ _ us hl => match us, hl with | [_, _, _], _ => rfl)⟩,
    d__law_cell := ⟨_, _, (fun_mk l__law_cell e__law_cell k__law_cell), PySem.W.mg_of X G a__law_cell, ((fun_mk (st := s__law_cell) l__law_cell e__law_cell k__law_cell).binds (ps := ["script", "k"]) fun _ _ _ _ _ _ us hl => match us, hl with | [_, _], _ => rfl)⟩,
    d__law_text := ⟨_, _, (fun_mk l__law_text e__law_text k__law_text), PySem.W.mg_of X G a__law_text, ((fun_mk (st := s__law_text) l__law_text e__law_text k__law_text).binds (ps := ["cell", "size"]) fun _ _ _ _ _ _ us hl => match us, hl with | [_, _], _ => rfl)⟩,
    d__law_survivors := ⟨_, _, (fun_mk l__law_survivors e__law_survivors k__law_survivors), PySem.W.mg_of X G a__law_survivors, ((fun_mk (st := s__law_survivors) l__law_survivors e__law_survivors k__law_survivors).binds (ps := ["cell", "many"]) fun _ _ _ _ _ _ us hl => match us, hl with | [_, _], _ => rfl)⟩,
    d__law_act := ⟨_, _, (fun_mk l__law_act e__law_act k__law_act), PySem.W.mg_of X G a__law_act, ((fun_mk (st := s__law_act) l__law_act e__law_act k__law_act).binds (ps := ["disk", "deed"]) fun _ _ _ _ _ _ us hl => match us, hl with | [_, _], _ => rfl)⟩,
    d__law_operate := ⟨_, _, (fun_mk l__law_operate e__law_operate k__law_operate), PySem.W.mg_of X G a__law_operate, ((fun_mk (st := s__law_operate) l__law_operate e__law_operate k__law_operate).binds (ps := ["state"]) fun _ _ _ _ _ _ us hl => match us, hl with | [_], _ => rfl)⟩,
    d__law_expect := ⟨_, _, (fun_mk l__law_expect e__law_expect k__law_expect), PySem.W.mg_of X G a__law_expect, ((fun_mk (st := s__law_expect) l__law_expect e__law_expect k__law_expect).binds (ps := ["state", "deed"]) fun _ _ _ _ _ _ us hl => match us, hl with | [_, _], _ => rfl)⟩,
    d__law_deed := ⟨_, _, (fun_mk l__law_deed e__law_deed k__law_deed), PySem.W.mg_of X G a__law_deed, ((fun_mk (st := s__law_deed) l__law_deed e__law_deed k__law_deed).binds (ps := ["cell", "size"]) fun _ _ _ _ _ _ us hl => match us, hl with | [_, _], _ => rfl)⟩,
    d__law_agrees := ⟨_, _, (fun_mk l__law_agrees e__law_agrees k__law_agrees), PySem.W.mg_of X G a__law_agrees, ((fun_mk (st := s__law_agrees) l__law_agrees e__law_agrees k__law_agrees).binds (ps := ["disk", "state", "size"]) fun _ _ _ _ _ _ us hl => match us, hl with | [_, _, _], _ => rfl)⟩,
    d__law_refuses := ⟨_, _, (fun_mk l__law_refuses e__law_refuses k__law_refuses), PySem.W.mg_of X G a__law_refuses, ((fun_mk (st := s__law_refuses) l__law_refuses e__law_refuses k__law_refuses).binds (ps := ["size"]) fun _ _ _ _ _ _ us hl => match us, hl with | [_], _ => rfl)⟩,
    d_law := ⟨_, _, (fun_mk l_law e_law k_law), PySem.W.mg_of X G a_law, ((fun_mk (st := s_law) l_law e_law k_law).binds (ps := ["script"]) fun _ _ _ _ _ _ us hl => match us, hl with | [_], _ => rfl)⟩,
    cl_Disk := ⟨pg_Disk, hd_Disk, po_Disk, sa_Disk⟩,
    g_Disk := PySem.W.mg_of X G ac_Disk,
    na_Disk__durable := na_Disk__durable,
    na_Disk__current := na_Disk__current,
    na_Disk__writes := na_Disk__writes,
    na_Disk__passing := na_Disk__passing,
    na_Disk__crashed := na_Disk__crashed,
    mk_Disk := ⟨_, _, ⟨mk_Disk, a_Disk____init__, i_Disk____init__, kc_Disk⟩, (fun_mk l_Disk____init__ e_Disk____init__ k_Disk____init__), ((fun_mk (st := s_Disk____init__) l_Disk____init__ e_Disk____init__ k_Disk____init__).binds (ps := ["self", "size"]) fun _ _ _ _ _ _ us hl => match us, hl with | [_, _], _ => rfl)⟩,
    me_Disk__size := ⟨_, _, ⟨a_Disk__size, i_Disk__size, k_Disk__size⟩, (fun_mk l_Disk__size e_Disk__size k_Disk__size), ((fun_mk (st := s_Disk__size) l_Disk__size e_Disk__size k_Disk__size).binds (ps := ["self"]) fun _ _ _ _ _ _ us hl => match us, hl with | [_], _ => rfl)⟩,
    me_Disk__read := ⟨_, _, ⟨a_Disk__read, i_Disk__read, k_Disk__read⟩, (fun_mk l_Disk__read e_Disk__read k_Disk__read), ((fun_mk (st := s_Disk__read) l_Disk__read e_Disk__read k_Disk__read).binds (ps := ["self", "index"]) fun _ _ _ _ _ _ us hl => match us, hl with | [_, _], _ => rfl)⟩,
    me_Disk__write := ⟨_, _, ⟨a_Disk__write, i_Disk__write, k_Disk__write⟩, (fun_mk l_Disk__write e_Disk__write k_Disk__write), ((fun_mk (st := s_Disk__write) l_Disk__write e_Disk__write k_Disk__write).binds (ps := ["self", "index", "text"]) fun _ _ _ _ _ _ us hl => match us, hl with | [_, _, _], _ => rfl)⟩,
    me_Disk__sync := ⟨_, _, ⟨a_Disk__sync, i_Disk__sync, k_Disk__sync⟩, (fun_mk l_Disk__sync e_Disk__sync k_Disk__sync), ((fun_mk (st := s_Disk__sync) l_Disk__sync e_Disk__sync k_Disk__sync).binds (ps := ["self"]) fun _ _ _ _ _ _ us hl => match us, hl with | [_], _ => rfl)⟩,
    me_Disk__pending := ⟨_, _, ⟨a_Disk__pending, i_Disk__pending, k_Disk__pending⟩, (fun_mk l_Disk__pending e_Disk__pending k_Disk__pending), ((fun_mk (st := s_Disk__pending) l_Disk__pending e_Disk__pending k_Disk__pending).binds (ps := ["self"]) fun _ _ _ _ _ _ us hl => match us, hl with | [_], _ => rfl)⟩,
    me_Disk__arm := ⟨_, _, ⟨a_Disk__arm, i_Disk__arm, k_Disk__arm⟩, (fun_mk l_Disk__arm e_Disk__arm k_Disk__arm), ((fun_mk (st := s_Disk__arm) l_Disk__arm e_Disk__arm k_Disk__arm).binds (ps := ["self", "operations"]) fun _ _ _ _ _ _ us hl => match us, hl with | [_, _], _ => rfl)⟩,
    me_Disk__crash := ⟨_, _, ⟨a_Disk__crash, i_Disk__crash, k_Disk__crash⟩, (fun_mk l_Disk__crash e_Disk__crash k_Disk__crash), ((fun_mk (st := s_Disk__crash) l_Disk__crash e_Disk__crash k_Disk__crash).binds (ps := ["self", "survivors"]) fun _ _ _ _ _ _ us hl => match us, hl with | [_, _], _ => rfl)⟩,
    me_Disk__image := ⟨_, _, ⟨a_Disk__image, i_Disk__image, k_Disk__image⟩, (fun_mk l_Disk__image e_Disk__image k_Disk__image), ((fun_mk (st := s_Disk__image) l_Disk__image e_Disk__image k_Disk__image).binds (ps := ["self"]) fun _ _ _ _ _ _ us hl => match us, hl with | [_], _ => rfl)⟩,
    me_Disk___check_running := ⟨_, _, ⟨a_Disk___check_running, i_Disk___check_running, k_Disk___check_running⟩, (fun_mk l_Disk___check_running e_Disk___check_running k_Disk___check_running), ((fun_mk (st := s_Disk___check_running) l_Disk___check_running e_Disk___check_running k_Disk___check_running).binds (ps := ["self"]) fun _ _ _ _ _ _ us hl => match us, hl with | [_], _ => rfl)⟩,
    me_Disk___check_sector := ⟨_, _, ⟨a_Disk___check_sector, i_Disk___check_sector, k_Disk___check_sector⟩, (fun_mk l_Disk___check_sector e_Disk___check_sector k_Disk___check_sector), ((fun_mk (st := s_Disk___check_sector) l_Disk___check_sector e_Disk___check_sector k_Disk___check_sector).binds (ps := ["self", "index"]) fun _ _ _ _ _ _ us hl => match us, hl with | [_, _], _ => rfl)⟩,
    me_Disk___begin_operation := ⟨_, _, ⟨a_Disk___begin_operation, i_Disk___begin_operation, k_Disk___begin_operation⟩, (fun_mk l_Disk___begin_operation e_Disk___begin_operation k_Disk___begin_operation), ((fun_mk (st := s_Disk___begin_operation) l_Disk___begin_operation e_Disk___begin_operation k_Disk___begin_operation).binds (ps := ["self"]) fun _ _ _ _ _ _ us hl => match us, hl with | [_], _ => rfl)⟩,
    x_DiskError := ⟨xe_DiskError, PySem.W.mg_of X G xa_DiskError, xk_DiskError, xb_DiskError, xt_DiskError, xh_DiskError⟩,
    x_DiskCrashed := ⟨xe_DiskCrashed, PySem.W.mg_of X G xa_DiskCrashed, xk_DiskCrashed, xb_DiskCrashed, xt_DiskCrashed, xh_DiskCrashed⟩,
    ec_DiskCrashed := ⟨ehg_DiskCrashed, ehk_DiskCrashed, xb_DiskCrashed, xh_DiskCrashed, eha_DiskCrashed, ehn_DiskCrashed, eht_DiskCrashed, ehm_DiskCrashed⟩,
    kt_DiskCrashed_DiskError := kit_ownF xb_DiskError xt_DiskError skt_DiskCrashed_DiskError rkt_DiskCrashed_DiskError,
    u_DiskError_DiskError := u_DiskError_DiskError,
    u_DiskCrashed_DiskCrashed := u_DiskCrashed_DiskCrashed,
    u_DiskError_DiskCrashed := u_DiskError_DiskCrashed,
    u_DiskCrashed_DiskError := u_DiskCrashed_DiskError,
    c_SECTOR_SIZE := ⟨_, PySem.W.mg_of X G a_SECTOR_SIZE, _, rfl⟩,
    z_bool := PySem.W.mg_none_of X G z_bool,
    z_int := PySem.W.mg_none_of X G z_int,
    z_isinstance := PySem.W.mg_none_of X G z_isinstance,
    z_len := PySem.W.mg_none_of X G z_len,
    z_list := PySem.W.mg_none_of X G z_list,
    z_min := PySem.W.mg_none_of X G z_min,
    z_range := PySem.W.mg_none_of X G z_range,
    z_str := PySem.W.mg_none_of X G z_str,
    z_zip := PySem.W.mg_none_of X G z_zip }
end Law
open PySem PySem.W PyProof.Rows
set_option maxRecDepth 100000 in
set_option maxHeartbeats 0 in
theorem PySem.Challenge.cw_oathledger_k16_disk_operations_holds : PySem.Challenge.rw_oathledger_k16_disk_operations.Holds := by
  w_on; o_law; k_head; (case hw => w_witness2)
  k_fill
  refine L2.walk_of (l := PySem.Challenge.rw_oathledger_k16_disk_operations) (n := 63) (k := 9) (x := "script") (CX := fun _ => L2.CX0) (sp := fun w => Law.spLaw _) rfl (by decide) rfl ⟨rfl, by decide, by decide⟩ (fun w h Y => PySem.W.kIn_of Y) ?F (fun _ _ a ns hl _ hS => ⟨a, ns, rfl, hS, hl, fun _ => rfl⟩) (fun _ _ _ _ _ h => h)
  case F =>
    intro w mg fa h KX G hmg
    refine' Law.fin hmg (Law.all_mk KX G ?a_is_integer ?l_is_integer ?e_is_integer ?k_is_integer ?a__law_cell ?l__law_cell ?e__law_cell ?k__law_cell ?a__law_text ?l__law_text ?e__law_text ?k__law_text ?a__law_survivors ?l__law_survivors ?e__law_survivors ?k__law_survivors ?a__law_act ?l__law_act ?e__law_act ?k__law_act ?a__law_operate ?l__law_operate ?e__law_operate ?k__law_operate ?a__law_expect ?l__law_expect ?e__law_expect ?k__law_expect ?a__law_deed ?l__law_deed ?e__law_deed ?k__law_deed ?a__law_agrees ?l__law_agrees ?e__law_agrees ?k__law_agrees ?a__law_refuses ?l__law_refuses ?e__law_refuses ?k__law_refuses ?a_law ?l_law ?e_law ?k_law ?ac_Disk ?pg_Disk ?hd_Disk ?po_Disk ?sa_Disk ?mk_Disk ?kc_Disk ?na_Disk__durable ?na_Disk__current ?na_Disk__writes ?na_Disk__passing ?na_Disk__crashed ?a_Disk____init__ ?i_Disk____init__ ?l_Disk____init__ ?e_Disk____init__ ?k_Disk____init__ ?a_Disk__size ?i_Disk__size ?l_Disk__size ?e_Disk__size ?k_Disk__size ?a_Disk__read ?i_Disk__read ?l_Disk__read ?e_Disk__read ?k_Disk__read ?a_Disk__write ?i_Disk__write ?l_Disk__write ?e_Disk__write ?k_Disk__write ?a_Disk__sync ?i_Disk__sync ?l_Disk__sync ?e_Disk__sync ?k_Disk__sync ?a_Disk__pending ?i_Disk__pending ?l_Disk__pending ?e_Disk__pending ?k_Disk__pending ?a_Disk__arm ?i_Disk__arm ?l_Disk__arm ?e_Disk__arm ?k_Disk__arm ?a_Disk__crash ?i_Disk__crash ?l_Disk__crash ?e_Disk__crash ?k_Disk__crash ?a_Disk__image ?i_Disk__image ?l_Disk__image ?e_Disk__image ?k_Disk__image ?a_Disk___check_running ?i_Disk___check_running ?l_Disk___check_running ?e_Disk___check_running ?k_Disk___check_running ?a_Disk___check_sector ?i_Disk___check_sector ?l_Disk___check_sector ?e_Disk___check_sector ?k_Disk___check_sector ?a_Disk___begin_operation ?i_Disk___begin_operation ?l_Disk___begin_operation ?e_Disk___begin_operation ?k_Disk___begin_operation ?xa_DiskError ?xe_DiskError ?xk_DiskError ?xb_DiskError ?xt_DiskError ?xh_DiskError ?xa_DiskCrashed ?xe_DiskCrashed ?xk_DiskCrashed ?xb_DiskCrashed ?xt_DiskCrashed ?xh_DiskCrashed ?ehg_DiskCrashed ?ehk_DiskCrashed ?eha_DiskCrashed ?ehm_DiskCrashed ?ehn_DiskCrashed ?eht_DiskCrashed ?skt_DiskCrashed_DiskError ?rkt_DiskCrashed_DiskError ?u_DiskError_DiskError ?u_DiskCrashed_DiskCrashed ?u_DiskError_DiskCrashed ?u_DiskCrashed_DiskError ?a_SECTOR_SIZE ?z_bool ?z_int ?z_isinstance ?z_len ?z_list ?z_min ?z_range ?z_str ?z_zip)
    (case a_is_integer => k_is)
    (case l_is_integer => k_is)
    (case e_is_integer => k_is)
    (case k_is_integer => k_is)
    (case a__law_cell => k_is)
    (case l__law_cell => k_is)
    (case e__law_cell => k_is)
    (case k__law_cell => k_is)
    (case a__law_text => k_is)
    (case l__law_text => k_is)
    (case e__law_text => k_is)
    (case k__law_text => k_is)
    (case a__law_survivors => k_is)
    (case l__law_survivors => k_is)
    (case e__law_survivors => k_is)
    (case k__law_survivors => k_is)
    (case a__law_act => k_is)
    (case l__law_act => k_is)
    (case e__law_act => k_is)
    (case k__law_act => k_is)
    (case a__law_operate => k_is)
    (case l__law_operate => k_is)
    (case e__law_operate => k_is)
    (case k__law_operate => k_is)
    (case a__law_expect => k_is)
    (case l__law_expect => k_is)
    (case e__law_expect => k_is)
    (case k__law_expect => k_is)
    (case a__law_deed => k_is)
    (case l__law_deed => k_is)
    (case e__law_deed => k_is)
    (case k__law_deed => k_is)
    (case a__law_agrees => k_is)
    (case l__law_agrees => k_is)
    (case e__law_agrees => k_is)
    (case k__law_agrees => k_is)
    (case a__law_refuses => k_is)
    (case l__law_refuses => k_is)
    (case e__law_refuses => k_is)
    (case k__law_refuses => k_is)
    (case a_law => k_is)
    (case l_law => k_is)
    (case e_law => k_is)
    (case k_law => k_is)
    (case ac_Disk => k_is)
    (case pg_Disk => k_is)
    (case hd_Disk => k_is)
    (case po_Disk => k_is)
    (case sa_Disk => k_is)
    (case mk_Disk => k_is)
    (case kc_Disk => k_is)
    (case na_Disk__durable => k_is)
    (case na_Disk__current => k_is)
    (case na_Disk__writes => k_is)
    (case na_Disk__passing => k_is)
    (case na_Disk__crashed => k_is)
    (case a_Disk____init__ => k_is)
    (case i_Disk____init__ => k_is)
    (case l_Disk____init__ => k_is)
    (case e_Disk____init__ => k_is)
    (case k_Disk____init__ => k_is)
    (case a_Disk__size => k_is)
    (case i_Disk__size => k_is)
    (case l_Disk__size => k_is)
    (case e_Disk__size => k_is)
    (case k_Disk__size => k_is)
    (case a_Disk__read => k_is)
    (case i_Disk__read => k_is)
    (case l_Disk__read => k_is)
    (case e_Disk__read => k_is)
    (case k_Disk__read => k_is)
    (case a_Disk__write => k_is)
    (case i_Disk__write => k_is)
    (case l_Disk__write => k_is)
    (case e_Disk__write => k_is)
    (case k_Disk__write => k_is)
    (case a_Disk__sync => k_is)
    (case i_Disk__sync => k_is)
    (case l_Disk__sync => k_is)
    (case e_Disk__sync => k_is)
    (case k_Disk__sync => k_is)
    (case a_Disk__pending => k_is)
    (case i_Disk__pending => k_is)
    (case l_Disk__pending => k_is)
    (case e_Disk__pending => k_is)
    (case k_Disk__pending => k_is)
    (case a_Disk__arm => k_is)
    (case i_Disk__arm => k_is)
    (case l_Disk__arm => k_is)
    (case e_Disk__arm => k_is)
    (case k_Disk__arm => k_is)
    (case a_Disk__crash => k_is)
    (case i_Disk__crash => k_is)
    (case l_Disk__crash => k_is)
    (case e_Disk__crash => k_is)
    (case k_Disk__crash => k_is)
    (case a_Disk__image => k_is)
    (case i_Disk__image => k_is)
    (case l_Disk__image => k_is)
    (case e_Disk__image => k_is)
    (case k_Disk__image => k_is)
    (case a_Disk___check_running => k_is)
    (case i_Disk___check_running => k_is)
    (case l_Disk___check_running => k_is)
    (case e_Disk___check_running => k_is)
    (case k_Disk___check_running => k_is)
    (case a_Disk___check_sector => k_is)
    (case i_Disk___check_sector => k_is)
    (case l_Disk___check_sector => k_is)
    (case e_Disk___check_sector => k_is)
    (case k_Disk___check_sector => k_is)
    (case a_Disk___begin_operation => k_is)
    (case i_Disk___begin_operation => k_is)
    (case l_Disk___begin_operation => k_is)
    (case e_Disk___begin_operation => k_is)
    (case k_Disk___begin_operation => k_is)
    (case xa_DiskError => k_is)
    (case xe_DiskError => first | k_is | k_exc)
    (case xk_DiskError => k_is)
    (case xb_DiskError => k_is)
    (case xt_DiskError => k_is)
    (case xh_DiskError => k_is)
    (case xa_DiskCrashed => k_is)
    (case xe_DiskCrashed => first | k_is | k_exc)
    (case xk_DiskCrashed => k_is)
    (case xb_DiskCrashed => k_is)
    (case xt_DiskCrashed => k_is)
    (case xh_DiskCrashed => k_is)
    (case ehg_DiskCrashed => k_is)
    (case ehk_DiskCrashed => k_is)
    (case eha_DiskCrashed => k_is)
    (case ehm_DiskCrashed => k_is)
    (case ehn_DiskCrashed => k_is)
    (case eht_DiskCrashed => k_is)
    (case skt_DiskCrashed_DiskError => k_is)
    (case rkt_DiskCrashed_DiskError => k_is)
    (case u_DiskError_DiskError => k_is)
    (case u_DiskCrashed_DiskCrashed => k_is)
    (case u_DiskError_DiskCrashed => k_is)
    (case u_DiskCrashed_DiskError => k_is)
    (case a_SECTOR_SIZE => k_is)
    (case z_bool => k_is)
    (case z_int => k_is)
    (case z_isinstance => k_is)
    (case z_len => k_is)
    (case z_list => k_is)
    (case z_min => k_is)
    (case z_range => k_is)
    (case z_str => k_is)
    (case z_zip => k_is)

