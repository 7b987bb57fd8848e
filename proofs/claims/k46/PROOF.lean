--@ins
--@caught _law_missing Refused
import PyProof.Rows.All
import Wide.All
import OpenK.AllK
import Wide.FinOn
import HandS.ForMost
import HandS.Walk
import HandS.Flow
import HandS.Codes
import HandS.IsInst
import HandS.Conv
import HandS.StrMore
import PyProof.MeetsSeq2
import PyProof.DictTable
import HandS.Wide
import HandS.TupAny
import HandS.More
import HandS.Dict
import HandS.ForExc
import HandS.ExcIs
import HandS.ExcField
import HandS.DeepEq
import HandS.TupLe
import HandS.Steps
import HandS.ExcInit
import HandS.SortRule
import HandS.SortKw
import HandS.Keys
import KE.SortKeyHeap
import KE.DataMinMax
import KE.SortData
import HandS.RaiseMore
import HandS.Zip
import HandS.DictSubView
import HandS.Deep
import HandS.Sort
import HandS.SetKeys
import HandS.Strs
import HandS.SetFor
import HandS.DictComp
import HandS.Style
import PySem.Challenge.RW_oathledger_k46_accounts_step_by_step
set_option Elab.async false
set_option linter.all false
set_option maxRecDepth 100000
set_option maxHeartbeats 4000000
namespace Law
open PySem PySem.Spec PyProof.Rows L2
open C8 (Cal Met Mak pe_c pe_mk pe_mt pe_mt0 pe_gc pss_cut tCut)
/-! ### a def of the top, by its name -/
structure DefOk (K : PySem.W.Frag) (mg : Str → Option Value) (x : Str) (st : Stmt) (ps : List Str) : Prop where
  ex : ∃ (f : Addr) (fd : FuncData), L2.Fun K x x st f fd ∧ mg x = some (.ref f) ∧ Binds K fd ps []
section
variable {P : Program} {w : World} {K : PySem.W.Frag} {mg : Str → Option Value} {base : Heap}
/-- a def's promise, by its body -/
theorem cal {x : Str} {st : Stmt} {N ps : List Str} {k : Nat} {sp : Sp} (D : DefOk K mg x st ps) (S : FnScope N ps (defScope st)) (len : ∀ vs H Q E, sp vs H Q E → vs.length = ps.length)
    (hbody : ∀ (f : Addr) (cdv : Value) (A : Around) (outer : List Env) (s : Shared) (H : Hp) (vs : List V) (Q : VK) (E : XK), Room k (A.deeper (envOfC x (defScope st) s.heap.objs.size f cdv)) → sp vs H Q E →
      ∃ t, PSs (cxOf L2.CX0 P w K mg base N x (defScope st) f cdv A outer s H E).nox (defBody st) t ∧ t { nx := fun _ H' => Q .non H', rt := Q } (start N vs) H) : Cal P w K mg base (k + 1) x sp [] := by
  obtain ⟨f, fd, F, hm, b⟩ := D.ex
  exact ⟨f, fd, ps, [], F.ok S len (fun cdv A outer s H vs Q E hr h => hbody f cdv A outer s H vs Q E hr h), hm, F.kp, b, .nil⟩
/-- a call without arguments -/
theorem pe_c0 {X : Cx} {k j : Nat} {x : Str} {sp : Sp} {dvs : List V} {p pos : Pos} (c : Cal X.prog X.w X.K X.mg X.base k x sp dvs) (hr : Room j X.A) (hk : k ≤ j) (hg : Gl X x)
    (hdb : (x == ("__debug__" : Str)) = false := by decide) : PE X (.Call (.Name x p) [] [] pos) (tCall sp dvs L2.E0 tNil) := by
  obtain ⟨f, fd, ps, ds, F, hm, kp, b, d⟩ := c.ex
  exact pe_call0 F (hr.mono hk) hg hm kp b d pass0 hdb
end
/-! ### small things -/
theorem same_upd {H : Hp} {p : Addr} {o : HO} (h : H p = none) : Same H (upd H p o) := fun b x e => by
  rw [upd_ne (ne_of_none e h)]
  exact e
theorem same_mut {H H' : Hp} {p : Addr} {o : HO} (s : Same H H') (h : H p = none) : Same H (upd H' p o) := fun b x e => by
  rw [upd_ne (ne_of_none e h)]
  exact s b x e
theorem sz1000 {n : Nat} (h : n ≤ 100000) : n ≤ sizeLine := Nat.le_trans h (by decide)
theorem sz1000' {n : Nat} (h : n < 100000) : n < sizeLine := Nat.lt_of_lt_of_le h (by decide)
theorem sz1000'' {n : Nat} (h : n ≤ 16777216) : n ≤ sizeLine := by rw [sizeLine_eq]; exact h
theorem sq {K : PySem.W.Frag} {H : Hp} {a : Addr} {xs : List V} (h : H a = some (.lst xs)) : SqL K H a xs := .inl (.inl h)
def spLaw (K : PySem.W.Frag) : Sp := fun vs H Q _ => ∃ (a : Addr) (ns : List Int), vs = [.ref a] ∧ SqL K H a (ns.map V.int) ∧ ns.length ≤ 63 ∧ ∀ H', Q (.bl true) H'
/-! ### the reading, step by step -/
local macro_rules | `(tactic| walk_at "sd") => `(tactic| first
  | omega
  | decide
  | assumption
  | (show _ ∨ _; exact Or.inl ⟨by omega, by omega⟩)
  | (show _ ∨ _; exact Or.inr ⟨by omega, by omega⟩)
  | (show _ ∧ _; exact ⟨by omega, by omega⟩)
  | (show _ ∧ _; exact ⟨by decide, by decide⟩)
  | exact sz1000 (by omega)
  | exact sz1000' (by omega))
local macro_rules | `(tactic| walk_at "sz") => `(tactic| first
  | exact sz1000 (Nat.le_of_ble_eq_true rfl)
  | exact sz1000 (by omega)
  | exact sz1000'' (by omega)
  | assumption)
/-- one step of a reading: a slot, an operator upon numbers, a call upon values -/
local macro_rules | `(tactic| walk_at "rd") => `(tactic| first
  | refine ⟨_, (rfl : (_ : List (Option V))[_]? = some (some _)), ?_⟩
  | refine ⟨_, _, (rfl : (_ : V) = _), (rfl : (_ : V) = _), (by walk_at "sd" : (_ : Prop)), ?_⟩
  | refine ⟨_, _, (rfl : (_ : V) = _), (rfl : (_ : V) = _), ?_⟩
  | refine ⟨_, (rfl : (_ : List V) = _), (by walk_at "sd" : (_ : Prop)), (by walk_at "sd" : (_ : Prop)), ?_⟩
  | refine ⟨_, (rfl : (_ : List V) = _), ?_⟩
  | refine ⟨_, (rfl : (_ : V) = _), ?_⟩
  | refine .inl ⟨_, (rfl : (_ : List V) = _), ?_⟩
  | refine ⟨⟨_, (rfl : (_ : V) = _)⟩, ?_⟩
  | refine ⟨(rfl : scal _ _ = true), ?_⟩
  | refine ⟨(rfl : V.non = V.non), ?_⟩
  | refine ⟨(by walk_at "sz" : (_ ≤ sizeLine)), ?_⟩)
local macro_rules | `(tactic| walk_at "rds") => `(tactic| repeat walk_at "rd")
theorem tyes {σ : L2.St} {H : Hp} {A B : Hp → Prop} (h : A H) : tYes σ H (fun b H3 => if b = true then A H3 else B H3) := by
  show (if true = true then A H else B H)
  rw [if_pos rfl]
  exact h
theorem sum_ones {ys : List Str} (h : ∀ y ∈ ys, y.length = 1) : (ys.map (fun x => x.length)).sum = ys.length := by
  induction ys with
  | nil => rfl
  | cons y r ih =>
    rw [List.map_cons, List.sum_cons, ih (fun z hz => h z (List.mem_cons_of_mem _ hz)), h y List.mem_cons_self, List.length_cons]
    omega
theorem chr_at {z : Str} {i : Int} (h0 : 0 ≤ i) (h1 : i < z.length) : ∃ c, atI z.cps.toList i = some c := by
  obtain ⟨j, rfl⟩ := Int.eq_ofNat_of_zero_le h0
  have hj : j < z.cps.toList.length := by
    rw [Array.length_toList]
    exact Int.ofNat_lt.mp h1
  exact ⟨z.cps.toList[j], atI_nat (List.getElem?_eq_getElem hj)⟩
/-- what an append to a tracked new list leaves -/
theorem lst_app {α : Type} {H : Hp} {D : Addr} {f : α → V} {ys : List α} {y : α} : upd H D (.lst (ys.map f ++ [f y])) D = some (.lst ((ys ++ [y]).map f)) := by
  rw [upd_same, List.map_append]
  rfl
theorem rg40 {n : Nat} (h : n ≤ 100000) : RgC 0 n 40 ((n + 39) / 40) := by
  have e : Builtin.Range.rangeSize 0 (n : Int) 40 = (((n + 39) / 40 : Nat) : Int) := by
    rw [rangeSize_pos (by decide) (by omega)]
    omega
  refine ⟨by decide, by decide, ?_, e⟩
  unfold Builtin.Range.small
  rw [e]
  unfold Builtin.Range.rangeFitsLong
  simp
  omega
theorem isi {K : PySem.W.Frag} {H : Hp} {x : V} {T1 T2 : String} {b : Bool} {Q : VK} (ty : TyX K H x (.type T1)) (e : kitB T1 T2 = some b) (q : Q (.bl b) H) : rIsi K [x, .ty T2] H Q :=
  ⟨x, .ty T2, _, _, b, rfl, .ty _, ty, kit_ty e, q⟩
theorem ifT {c : Bool} {A B : Prop} (hc : c = true) (h : A) : if c = true then A else B := by
  rw [if_pos hc]
  exact h
theorem ifF {c : Bool} {A B : Prop} (hc : c = false) (h : B) : if c = true then A else B := by
  rw [if_neg (by rw [hc]; decide)]
  exact h
local macro_rules | `(tactic| walk_at "isk") => `(tactic| first
  | exact .base (.int _) | exact .base (.str _) | exact .base (.bl _) | exact .base .non
  | exact .base (.lst (by assumption)) | exact .base (.tup (by assumption)) | exact .base (.dK (by assumption)))
/-- isinstance(x, T) with a built-in T; the object's fact stands in the context -/
local macro_rules | `(tactic| walk_at "isi") => `(tactic| first
  | refine ⟨_, .ty _, _, _, true, (rfl : (_ : List V) = _), .ty _, (by walk_at "isk"), kit_ty (by decide +kernel), ?_⟩
  | refine ⟨_, .ty _, _, _, false, (rfl : (_ : List V) = _), .ty _, (by walk_at "isk"), kit_ty (by decide +kernel), ?_⟩)
/-! ### classes of the top -/
structure MethOk (K : PySem.W.Frag) (C : Addr) (m qual : Str) (st : Stmt) (ps : List Str) : Prop where
  ex : ∃ (f : Addr) (fd : FuncData), Meth K C m f ∧ L2.Fun K m qual st f fd ∧ Binds K fd ps []
structure MakOk (K : PySem.W.Frag) (C : Addr) (qual : Str) (st : Stmt) (ps : List Str) : Prop where
  ex : ∃ (f : Addr) (fd : FuncData), Mk K C f ∧ L2.Fun K "__init__" qual st f fd ∧ Binds K fd ps []
section
variable {P : Program} {w : World} {K : PySem.W.Frag} {mg : Str → Option Value} {base : Heap}
theorem met {C : Addr} {m qual : Str} {st : Stmt} {N ps : List Str} {k : Nat} {sp : Sp} (c : Cls K C) (D : MethOk K C m qual st ps) (S : FnScope N ps (defScope st)) (len : ∀ vs H Q E, sp vs H Q E → vs.length = ps.length)
    (hbody : ∀ (f : Addr) (cdv : Value) (A : Around) (outer : List Env) (s : Shared) (H : Hp) (vs : List V) (Q : VK) (E : XK), Room k (A.deeper (envOfC qual (defScope st) s.heap.objs.size f cdv)) → sp vs H Q E →
      ∃ t, PSs (cxOf L2.CX0 P w K mg base N qual (defScope st) f cdv A outer s H E).nox (defBody st) t ∧ t { nx := fun _ H' => Q .non H', rt := Q } (start N vs) H) : Met P w K mg base (k + 1) C m sp [] := by
  obtain ⟨f, fd, M, F, b⟩ := D.ex
  exact ⟨f, fd, ps, [], c, M, F.ok S len (fun cdv A outer s H vs Q E hr h => hbody f cdv A outer s H vs Q E hr h), b, .nil⟩
theorem mak {C : Addr} {x qual : Str} {st : Stmt} {N ps : List Str} {k : Nat} {sp : Sp} (hm : mg x = some (.ref C)) (D : MakOk K C qual st ps) (S : FnScope N ps (defScope st)) (len : ∀ vs H Q E, sp vs H Q E → vs.length = ps.length)
    (hbody : ∀ (f : Addr) (cdv : Value) (A : Around) (outer : List Env) (s : Shared) (H : Hp) (vs : List V) (Q : VK) (E : XK), Room k (A.deeper (envOfC qual (defScope st) s.heap.objs.size f cdv)) → sp vs H Q E →
      ∃ t, PSs (cxOf L2.CX0 P w K mg base N qual (defScope st) f cdv A outer s H E).nox (defBody st) t ∧ t { nx := fun _ H' => Q .non H', rt := Q } (start N vs) H) : Mak P w K mg base (k + 1) x C sp [] := by
  obtain ⟨f, fd, M, F, b⟩ := D.ex
  exact ⟨f, fd, ps, [], M, F.ok S len (fun cdv A outer s H vs Q E hr h => hbody f cdv A outer s H vs Q E hr h), hm, b, .nil⟩
end
/-- a tuple of the top, in the written part -/
def KTup (K : PySem.W.Frag) (a : Addr) (xs : List V) : Prop := ∃ o its n, K.lookup a = some o ∧ o.cls = Value.type "tuple" ∧ o.data = Data.seq its n ∧ its.size ≤ sizeLine ∧ Vals xs its.toList
theorem pe_mk0 {X : Cx} {k j : Nat} {x : Str} {C : Addr} {sp : Sp} {dvs : List V} {p pos : Pos} (c : Mak X.prog X.w X.K X.mg X.base k x C sp dvs) (hr : Room j X.A) (hk : k + 1 ≤ j) (hg : Gl X x)
    (hdb : (x == ("__debug__" : Str)) = false := by decide) : PE X (.Call (.Name x p) [] [] pos) (tMake C sp dvs L2.E0 tNil) := by
  obtain ⟨f, fd, ps, ds, M, F, hm, b, d⟩ := c.ex
  exact pe_make0 M F (hr.mono hk) hg hm b d pass0 hdb
/-! ### rules whose written part is named K (a comprehension's context is another one) -/
section
variable {X : Cx} {K : PySem.W.Frag}
theorem kin (h : X.K = K := by rfl) : OpR X (compareOp .In) (rIn K false) := by subst h; exact op_in_seq
theorem knin (h : X.K = K := by rfl) : OpR X (compareOp .NotIn) (rIn K true) := by subst h; exact op_notIn_seq
theorem kixl (h : X.K = K := by rfl) : IxR X (rIxL K) := by subst h; exact ix_list
theorem kixt (h : X.K = K := by rfl) : IxR X (rIxT K) := by subst h; exact ix_tup
theorem ksll (h : X.K = K := by rfl) : SlR X (rSlL K) := by subst h; exact sl_list
theorem kisi (h : X.K = K := by rfl) : CallR X (.builtin "isinstance") (rIsi K) := by subst h; exact call_isi
theorem kfld {o : Expr} {f : Str} {pos : Pos} {ta : TE} (he : PE X o ta) (hb : attributeBase o f X.env (eval o X.env) = eval o X.env := by rfl) (h : X.K = K := by rfl) : PE X (.Attribute o f pos) (tFld K ta f) := by subst h; exact pe_fld he hb
def rLenK (K : PySem.W.Frag) : List V → Hp → VK → Prop := fun xs H Q => ∃ p ys, xs = [.ref p] ∧ (SqL K H p ys ∨ SqT K H p ys) ∧ Q (.int ys.length) H
theorem klen (h : X.K = K := by rfl) : CallR X (.builtin "len") (rLenK K) := by subst h; exact call_len_seq
end
theorem hu1 {k : Nat} {A : Around} (hr : Room k A) : A.units + 1 < cLine := by have := hr.units; omega
section
variable {X : Cx}
theorem kdin {d : Addr} (h : ∃ es n, KDict X.K X.w d es n) : OpR X (compareOp .In) (fun x y H Q => ∃ (z : Str) (r : Option Value), x = .str z ∧ y = .ref d ∧ PySem.W.nsIn X.K d z = some r ∧ Q (.bl r.isSome) H) := by
  obtain ⟨es, n, D⟩ := h
  exact op_in_kd D
theorem kdnin {d : Addr} (h : ∃ es n, KDict X.K X.w d es n) : OpR X (compareOp .NotIn) (fun x y H Q => ∃ (z : Str) (r : Option Value), x = .str z ∧ y = .ref d ∧ PySem.W.nsIn X.K d z = some r ∧ Q (.bl (!r.isSome)) H) := by
  obtain ⟨es, n, D⟩ := h
  exact op_notIn_kd D
end
theorem kgtup {X : Cx} {K : PySem.W.Frag} {es : List Expr} {k : Nat} {t : TGs} {n : Nat} {pos : Pos} (hc : X.calm = true) (h : PGs X es t)
    (hn : (assignEach es X.env).length = n := by rfl) (hst : (assignEach es X.env).findIdx? (·.1) = none := by rfl) (hK : X.K = K := by rfl) : PG X (.Tuple es k pos) (gTup K n t) := by subst hK; exact pg_tup hc h hn hst
theorem hu65 {A : Around} {k : Nat} (hr : Room k A) : A.units + 65 < cLine := by have := hr.un; omega
theorem keqD {X : Cx} {K : PySem.W.Frag} (hu : X.A.units + 64 < cLine) (h : X.K = K := by rfl) : OpR X (compareOp .Eq) (rEqD K) := by subst h; exact op_eqD hu
theorem kneD {X : Cx} {K : PySem.W.Frag} (hu : X.A.units + 64 < cLine) (h : X.K = K := by rfl) : OpR X (compareOp .NotEq) (rNeD K) := by subst h; exact op_neD hu

/-! ### defs that raise own exceptions -/
theorem kit_ty {K : PySem.W.Frag} {B : Addr} {T : String} (hm : PySem.W.kitMeta T = true) (h : PySem.W.subIn K (.ref B) (.type T) = some true) : PySem.W.kitOne K (.ref B) (.type T) = some true := by
  unfold PySem.W.kitOne
  rw [if_neg (by rw [show ((Value.ref B : Value) == .type T) = false from rfl]; exact Bool.false_ne_true)]
  show (if PySem.W.kitMeta T = true then PySem.W.subIn K (.ref B) (.type T) else none) = some true
  rw [if_pos hm]; exact h
theorem kit_own {K : PySem.W.Frag} {B C : Addr} (h1 : PySem.W.subIn K (.ref C) (.type "BaseException") = some true) (h2 : PySem.W.typeIn K (.ref C) = some (.type "type")) (h3 : PySem.W.subIn K (.ref B) (.ref C) = some true) : PySem.W.kitOne K (.ref B) (.ref C) = some true := by
  have h0 : (PySem.W.clsIn K C).isSome = true := by
    have h1 : PySem.W.mroIn K C (.type "BaseException") = some true := h1
    unfold PySem.W.mroIn at h1
    cases e : PySem.W.clsIn K C with
    | some _ => rfl
    | none => rw [e] at h1; cases h1
  unfold PySem.W.kitOne
  split
  · rfl
  · show (if ((PySem.W.clsIn K C).isSome && PySem.W.typeIn K (.ref C) == some (.type "type")) = true then PySem.W.subIn K (.ref B) (.ref C) else none) = some true
    rw [h0, h2, h3]
    rfl
section
variable {X : Cx}
/-- C() of an own exception class without an __init__ of its own -/
theorem pmk_own0 {x : Str} {C : Addr} {bmB : List Value} {B newId initId : String} {p pos : Pos} (F : ExcBaseFacts B newId initId bmB) (q : PySem.W.excIn X.K C bmB newId = true) (gC : X.mg x = some (.ref C)) (kC : PySem.W.keepIn X.K (.ref C) = true) (r : Raises X (.ref C)) (hg : Gl X x)
    (hdb : (x == ("__debug__" : Str)) = false := by decide) : PMk X (.Call (.Name x p) [] [] pos) (fun _ H Q => Q (.ref C) none H) := by
  intro pins s σ H Q I h
  refine wpAny_Call_Name_kw (ld_glob I hg gC ?_ hdb)
  refine PySem.W.callWith_K0 I.kIn kC ?_
  show wpAny _ _ (call (.ref C) []) _ _ _
  obtain ⟨bm, N, nm, qn, bs, hdct, sn, sub, ab, col, dd, k0, k1, k2, k3, k5, mN, hC, hN, hni, T⟩ := exc_obj I.kIn q
  refine wpAny_call_exc_subT F T hC hN hni (fun h' e hm => ?_) (Nat.zero_le _)
  exact mk_of I hm r h (I.hok.gone hm.new)
end
/-- an own exception class over ValueError -/
structure ExOk (K : PySem.W.Frag) (mg : Str → Option Value) (x : Str) (C : Addr) : Prop where
  ex : PySem.W.excIn K C [.type "ValueError", .type "Exception", .type "BaseException", .type "object"] "ValueError.__new__" = true
  g : mg x = some (.ref C)
  kp : PySem.W.keepIn K (.ref C) = true
  bp : PySem.W.subIn K (.ref C) (.type "BaseException") = some true
  tp : PySem.W.typeIn K (.ref C) = some (.type "type")
  hd : PySem.W.hasDictIn K C = true
theorem ExOk.exm {K : PySem.W.Frag} {mg : Str → Option Value} {x : Str} {C : Addr} {cls : Value} {b : Bool} (e : ExOk K mg x C) (h : PySem.W.subIn K cls (.ref C) = some b) : PySem.W.exmOne K cls (.ref C) = some b := PySem.W.exm_ref e.bp e.hd e.tp h
theorem pmk_ok {X : Cx} {x : Str} {C : Addr} {p pos : Pos} (e : ExOk X.K X.mg x C) (hg : Gl X x) (hdb : (x == ("__debug__" : Str)) = false := by decide) : PMk X (.Call (.Name x p) [] [] pos) (fun _ H Q => Q (.ref C) none H) :=
  pmk_own0 PySem.F.excBase_ValueError e.ex e.g e.kp (raises_own e.bp e.tp) hg hdb
/-! the promises of such defs -/
structure CalX (P : Program) (w : World) (K : PySem.W.Frag) (mg : Str → Option Value) (base : Heap) (k : Nat) (x : Str) (sp : Sp) : Prop where
  ex : ∃ (f : Addr) (fd : FuncData) (ps : List Str), FnOk P w K mg base (L2.CX P w) k f fd ps sp ∧ mg x = some (.ref f) ∧ PySem.W.keepIn K (.ref f) = true ∧ Binds K fd ps []
structure MetX (P : Program) (w : World) (K : PySem.W.Frag) (mg : Str → Option Value) (base : Heap) (k : Nat) (C : Addr) (m : Str) (sp : Sp) : Prop where
  ex : ∃ (f : Addr) (fd : FuncData) (ps : List Str), Cls K C ∧ Meth K C m f ∧ FnOk P w K mg base (L2.CX P w) k f fd ps sp ∧ Binds K fd ps []
structure MakX (P : Program) (w : World) (K : PySem.W.Frag) (mg : Str → Option Value) (base : Heap) (k : Nat) (x : Str) (C : Addr) (sp : Sp) : Prop where
  ex : ∃ (f : Addr) (fd : FuncData) (ps : List Str), Mk K C f ∧ FnOk P w K mg base (L2.CX P w) k f fd ps sp ∧ mg x = some (.ref C) ∧ Binds K fd ps []
section
variable {P : Program} {w : World} {K : PySem.W.Frag} {mg : Str → Option Value} {base : Heap}
theorem calX {x : Str} {st : Stmt} {N ps : List Str} {k : Nat} {sp : Sp} (D : DefOk K mg x st ps) (S : FnScope N ps (defScope st)) (len : ∀ vs H Q E, sp vs H Q E → vs.length = ps.length)
    (hbody : ∀ (f : Addr) (cdv : Value) (A : Around) (outer : List Env) (s : Shared) (H : Hp) (vs : List V) (Q : VK) (E : XK), Room k (A.deeper (envOfC x (defScope st) s.heap.objs.size f cdv)) → sp vs H Q E →
      ∃ t, PSs (cxOf (L2.CX P w) P w K mg base N x (defScope st) f cdv A outer s H E) (defBody st) t ∧ t { nx := fun _ H' => Q .non H', rt := Q } (start N vs) H) : CalX P w K mg base (k + 1) x sp := by
  obtain ⟨f, fd, F, hm, b⟩ := D.ex
  exact ⟨f, fd, ps, F.okX S len (fun cdv A outer s H vs Q E hr h => hbody f cdv A outer s H vs Q E hr h), hm, F.kp, b⟩
theorem metX {C : Addr} {m qual : Str} {st : Stmt} {N ps : List Str} {k : Nat} {sp : Sp} (c : Cls K C) (D : MethOk K C m qual st ps) (S : FnScope N ps (defScope st)) (len : ∀ vs H Q E, sp vs H Q E → vs.length = ps.length)
    (hbody : ∀ (f : Addr) (cdv : Value) (A : Around) (outer : List Env) (s : Shared) (H : Hp) (vs : List V) (Q : VK) (E : XK), Room k (A.deeper (envOfC qual (defScope st) s.heap.objs.size f cdv)) → sp vs H Q E →
      ∃ t, PSs (cxOf (L2.CX P w) P w K mg base N qual (defScope st) f cdv A outer s H E) (defBody st) t ∧ t { nx := fun _ H' => Q .non H', rt := Q } (start N vs) H) : MetX P w K mg base (k + 1) C m sp := by
  obtain ⟨f, fd, M, F, b⟩ := D.ex
  exact ⟨f, fd, ps, c, M, F.okX S len (fun cdv A outer s H vs Q E hr h => hbody f cdv A outer s H vs Q E hr h), b⟩
theorem makX {C : Addr} {x qual : Str} {st : Stmt} {N ps : List Str} {k : Nat} {sp : Sp} (hm : mg x = some (.ref C)) (D : MakOk K C qual st ps) (S : FnScope N ps (defScope st)) (len : ∀ vs H Q E, sp vs H Q E → vs.length = ps.length)
    (hbody : ∀ (f : Addr) (cdv : Value) (A : Around) (outer : List Env) (s : Shared) (H : Hp) (vs : List V) (Q : VK) (E : XK), Room k (A.deeper (envOfC qual (defScope st) s.heap.objs.size f cdv)) → sp vs H Q E →
      ∃ t, PSs (cxOf (L2.CX P w) P w K mg base N qual (defScope st) f cdv A outer s H E) (defBody st) t ∧ t { nx := fun _ H' => Q .non H', rt := Q } (start N vs) H) : MakX P w K mg base (k + 1) x C sp := by
  obtain ⟨f, fd, M, F, b⟩ := D.ex
  exact ⟨f, fd, ps, M, F.okX S len (fun cdv A outer s H vs Q E hr h => hbody f cdv A outer s H vs Q E hr h), hm, b⟩
end
/-! their calls: E tells at the slots what is wished of an error -/
section
variable {X : Cx} {k j : Nat} {C : Addr} {x m : Str} {sp : Sp} {p pos apos : Pos} {e o : Expr} {es : List Expr} {ta : TE} {t : TA} {E : L2.St → XK}
theorem pe_cX (c : CalX X.prog X.w X.K X.mg X.base k x sp) (hr : Room j X.A) (hk : k ≤ j) (hg : Gl X x) (hx : ∀ σ, PassesAt (L2.CX X.prog X.w) X σ (E σ)) (ha : PA X (e :: es) t)
    (hdb : (x == ("__debug__" : Str)) = false := by decide) (he : starEach (e :: es) X.env = (false, eval e X.env) :: starEach es X.env := by rfl) (hpl : (backTo pos (starEach es X.env)).any (·.1) = false := by rfl) :
    PE X (.Call (.Name x p) (e :: es) [] pos) (tCallS sp E t) := by
  obtain ⟨f, fd, ps, F, hm, kp, b⟩ := c.ex
  exact pe_callS F (hr.mono hk) hg hm kp b hx ha hdb he hpl
/-- where nothing is raised -/
theorem pe_cXn (c : CalX X.prog X.w X.K X.mg X.base k x sp) (hr : Room j X.A) (hk : k ≤ j) (hg : Gl X x) (ha : PA X (e :: es) t)
    (hdb : (x == ("__debug__" : Str)) = false := by decide) (he : starEach (e :: es) X.env = (false, eval e X.env) :: starEach es X.env := by rfl) (hpl : (backTo pos (starEach es X.env)).any (·.1) = false := by rfl) :
    PE X (.Call (.Name x p) (e :: es) [] pos) (tCall sp [] L2.E0 t) := by
  obtain ⟨f, fd, ps, F, hm, kp, b⟩ := c.ex
  exact pe_call F (hr.mono hk) hg hm kp b .nil passL ha hdb he hpl
def tMethX (C : Addr) (m : Str) (sp : Sp) (E : L2.St → XK) (ta : TE) (t : TA) : TE := fun σ H Q => ta σ H fun x H1 => ∃ a dx fs, x = .ref a ∧ H1 a = some (.ins C dx fs) ∧ fs.lookup m = none ∧ t σ H1 fun vs H2 => sp (.ref a :: vs) H2 Q (E σ)
theorem pe_mtX {pl : Sem Bool} (c : MetX X.prog X.w X.K X.mg X.base k C m sp) (hr : Room j X.A) (hk : k ≤ j) (hx : ∀ σ, PassesAt (L2.CX X.prog X.w) X σ (E σ)) (he : PE X o ta) (ha : PA X (e :: es) t)
    (hst : starEach (e :: es) X.env = (false, eval e X.env) :: starEach es X.env := by rfl) (hpl : (backTo pos (starEach es X.env)).any (·.1) = false := by rfl)
    (ht : eval (.Call (.Attribute o m apos) (e :: es) [] pos) X.env = (do
      let ov ← eval o X.env
      standAt apos.atName
      let (f, first) ← holding [ov] (getMethod ov m pl)
      callWith pos f first (backTo pos (starEach (e :: es) X.env)) (backToKw pos (keywordEach [] X.env))) := by rfl) :
    PE X (.Call (.Attribute o m apos) (e :: es) [] pos) (tMethX C m sp E ta t) := by
  obtain ⟨f, fd, ps, hc, hm, F, b⟩ := c.ex
  refine ⟨fun pins s σ H Q I h => ?_⟩
  refine PySem.W.methodCall_KW (pl := pl) (thn (he.run pins s σ H _ I h) fun u s1 ⟨x, H1, I1, rx, a, dx, fs, ex, ea, l, q⟩ => ?_) ht
  subst ex
  obtain rfl : u = Value.ref a := rx
  refine getmeth_ok I1 ea hc hm l ?_
  refine PySem.W.callWith_K (first := [.ref a]) (h₀ := X.base) I.ok.mod.kin hm.kp (thn (ha.run pos pins s1 σ H1 _ I1 q) fun us s2 ⟨vs, H2, I2, r, q2⟩ => ⟨I2.kIn, ?_⟩) hst hpl
  exact run_fnS (us := .ref a :: us) (vs := .ref a :: vs) F (hr.mono hk) b (hx σ) I2 (.cons rfl r) q2
theorem pe_mtX0 {pl : Sem Bool} (c : MetX X.prog X.w X.K X.mg X.base k C m sp) (hr : Room j X.A) (hk : k ≤ j) (hx : ∀ σ, PassesAt (L2.CX X.prog X.w) X σ (E σ)) (he : PE X o ta)
    (ht : eval (.Call (.Attribute o m apos) [] [] pos) X.env = (do
      let ov ← eval o X.env
      standAt apos.atName
      let (f, first) ← holding [ov] (getMethod ov m pl)
      callWith pos f first (backTo pos (starEach [] X.env)) (backToKw pos (keywordEach [] X.env))) := by rfl) :
    PE X (.Call (.Attribute o m apos) [] [] pos) (tMethX C m sp E ta tNil) := by
  obtain ⟨f, fd, ps, hc, hm, F, b⟩ := c.ex
  refine ⟨fun pins s σ H Q I h => ?_⟩
  refine PySem.W.methodCall_KW (pl := pl) (thn (he.run pins s σ H _ I h) fun u s1 ⟨x, H1, I1, rx, a, dx, fs, ex, ea, l, q⟩ => ?_) ht
  subst ex
  obtain rfl : u = Value.ref a := rx
  refine getmeth_ok I1 ea hc hm l ?_
  exact PySem.W.callWith_K0 (first := [.ref a]) I1.kIn hm.kp (run_fnS (us := [.ref a]) (vs := [.ref a]) F (hr.mono hk) b (hx σ) I1 (.cons rfl .nil) q)
def tMakeX (C : Addr) (sp : Sp) (E : L2.St → XK) (t : TA) : TE := fun σ H Q => t σ H fun vs H1 => ∀ x dx, H1 x = none → H1 dx = none → dx ≠ x → sp (.ref x :: vs) (upd (upd H1 dx (.own x)) x (.ins C dx [])) (fun v H2 => v = .non ∧ Q (.ref x) H2) (E σ)
theorem run_makeX {CX : CXT} {f : Addr} {fd : FuncData} {ps : List Str} {pins : List (Addr × Obj)} {σ : L2.St} {H : Hp} {s : Shared} {Q : VK} {us : List Value} {vs : List V} {Eσ : XK} (M : Mk X.K C f) (F : FnOk X.prog X.w X.K X.mg X.base CX k f fd ps sp) (hr : Room (k + 1) X.A) (hb : Binds X.K fd ps [])
    (hx : PassesAt CX X σ Eσ) (I : Inv X pins σ H s) (r : Vals vs us)
    (h : ∀ x dx, H x = none → H dx = none → dx ≠ x → sp (.ref x :: vs) (upd (upd H dx (.own x)) x (.ins C dx [])) (fun v H2 => v = .non ∧ Q (.ref x) H2) Eσ) :
    wpAny (model X.prog X.w) X.A (call (.ref C) us) (EP X pins σ Q) X.xe s := by
  have hq := h (s.heap.objs.size + 1) s.heap.objs.size (I.hok.fresh (Nat.le_succ _)) (I.hok.fresh (Nat.le_refl _)) (Nat.ne_of_lt (Nat.lt_succ_self _))
  have I2 := Inv.made (C := C) I
  have r2 : Vals (V.ref (s.heap.objs.size + 1) :: vs) (Value.ref (s.heap.objs.size + 1) :: us) := .cons rfl r
  have hl : (Value.ref (s.heap.objs.size + 1) :: us ++ ([] : List Value)).length = ps.length := by
    have e := r2.length
    rw [F.len _ _ _ _ hq] at e
    rw [List.append_nil]
    exact e.symm
  have hb' := hb _ (Value.ref (s.heap.objs.size + 1) :: us) I2.kIn hl
  rw [List.append_nil] at hb'
  refine wpAny_call (make_map (f := f) I.kIn M.makes M.init (beq_iff_eq.mp M.fn) (codeAny_mono (F.run _ X.stack _ _ ⟨Value.ref (s.heap.objs.size + 1) :: us, []⟩ (Value.ref (s.heap.objs.size + 1) :: us) _ _ Eσ (hr.make C us [])
    (I2.env0.make C us []) hb' r2 hq) fun r s' hq' => ?_))
  cases r with
  | error e => exact hx pins _ _ e s' I2 hq'
  | ok fl =>
    cases fl with
    | ret u =>
      obtain ⟨v, H', I3, rv, ev, q3⟩ := I2.after hq'
      subst ev
      exact ⟨rv, ⟨V.ref (s.heap.objs.size + 1), H', I3, rfl, q3⟩⟩
    | next => exact False.elim hq'
    | brk => exact False.elim hq'
    | cont => exact False.elim hq'
theorem pe_mkX (c : MakX X.prog X.w X.K X.mg X.base k x C sp) (hr : Room j X.A) (hk : k + 1 ≤ j) (hg : Gl X x) (hx : ∀ σ, PassesAt (L2.CX X.prog X.w) X σ (E σ)) (ha : PA X (e :: es) t)
    (hdb : (x == ("__debug__" : Str)) = false := by decide) (he : starEach (e :: es) X.env = (false, eval e X.env) :: starEach es X.env := by rfl) (hpl : (backTo pos (starEach es X.env)).any (·.1) = false := by rfl) :
    PE X (.Call (.Name x p) (e :: es) [] pos) (tMakeX C sp E t) := by
  obtain ⟨f, fd, ps, M, F, hm, b⟩ := c.ex
  refine ⟨fun pins s σ H Q I h => ?_⟩
  refine wpAny_Call_Name_kw (ld_glob I hg hm ?_ hdb)
  refine PySem.W.callWith_K (h₀ := X.base) I.ok.mod.kin M.kp (thn (ha.run pos pins s σ H _ I h) fun us s1 ⟨vs, H1, I1, r, q⟩ => ⟨I1.kIn, ?_⟩) he hpl
  exact run_makeX M F (hr.mono hk) b (hx σ) I1 r q
/-- where nothing is let out: for the calls above in a def without errors -/
theorem no_pass : ∀ σ : L2.St, PassesAt (L2.CX X.prog X.w) X σ ((fun _ => L2.E0) σ) := fun σ pins H s e s' I c => passL pins σ H s e s' I c
end
/-- a for's body that is one try: kept together, so that for_it can name it -/
def tBody (t : TS) : TS := t
theorem pss_body {X : Cx} {b : List Stmt} {t : TS} (h : PSs X b t) : PSs X b (tBody t) := h

/-! ### own exceptions with an __init__ of their own -/
structure ExI (K : PySem.W.Frag) (mg : Str → Option Value) (x : Str) (C : Addr) : Prop where
  g : mg x = some (.ref C)
  ox : OexC K C
  xf : XfC K C
theorem ExI.exm {K : PySem.W.Frag} {mg : Str → Option Value} {x : Str} {C : Addr} {cls : Value} {b : Bool} (e : ExI K mg x C) (h : PySem.W.subIn K cls (.ref C) = some b) : PySem.W.exmOne K cls (.ref C) = some b := PySem.W.exm_ref e.ox.exC e.xf.hdC e.ox.tyC h
structure ExInit (K : PySem.W.Frag) (C : Addr) (qual : Str) (st : Stmt) (ps : List Str) : Prop where
  ex : ∃ (f : Addr) (fd : FuncData), PySem.W.findIn K (.ref C) "__init__" = some (some (.ref f)) ∧ PySem.W.typeIn K (.ref f) = some (.type "function") ∧ L2.Fun K "__init__" qual st f fd ∧ Binds K fd ps []
structure ExMk (P : Program) (w : World) (K : PySem.W.Frag) (mg : Str → Option Value) (base : Heap) (k : Nat) (x : Str) (C : Addr) (sp : Sp) : Prop where
  ex : ∃ (f : Addr) (fd : FuncData) (ps : List Str), OexC K C ∧ PySem.W.findIn K (.ref C) "__init__" = some (some (.ref f)) ∧ PySem.W.typeIn K (.ref f) = some (.type "function") ∧ FnOk P w K mg base L2.CX0 k f fd ps sp ∧ Binds K fd ps [] ∧ mg x = some (.ref C)
section
variable {P : Program} {w : World} {K : PySem.W.Frag} {mg : Str → Option Value} {base : Heap}
theorem exmk {C : Addr} {x qual : Str} {st : Stmt} {N ps : List Str} {k : Nat} {sp : Sp} (e : ExI K mg x C) (D : ExInit K C qual st ps) (S : FnScope N ps (defScope st)) (len : ∀ vs H Q E, sp vs H Q E → vs.length = ps.length)
    (hbody : ∀ (f : Addr) (cdv : Value) (A : Around) (outer : List Env) (s : Shared) (H : Hp) (vs : List V) (Q : VK) (E : XK), Room k (A.deeper (envOfC qual (defScope st) s.heap.objs.size f cdv)) → sp vs H Q E →
      ∃ t, PSs (cxOf L2.CX0 P w K mg base N qual (defScope st) f cdv A outer s H E).nox (defBody st) t ∧ t { nx := fun _ H' => Q .non H', rt := Q } (start N vs) H) : ExMk P w K mg base (k + 1) x C sp := by
  obtain ⟨f, fd, h1, h2, F, b⟩ := D.ex
  exact ⟨f, fd, ps, e.ox, h1, h2, F.ok S len (fun cdv A outer s H vs Q E hr h => hbody f cdv A outer s H vs Q E hr h), b, e.g⟩
end
theorem pmk_ei {X : Cx} {k j : Nat} {x : Str} {C : Addr} {sp : Sp} {ta : TA} {p pos : Pos} {e : Expr} {es : List Expr} (c : ExMk X.prog X.w X.K X.mg X.base k x C sp) (hr : Room j X.A) (hk : k + 1 ≤ j) (hg : Gl X x) (ha : PA X (e :: es) ta)
    (hdb : (x == ("__debug__" : Str)) = false := by decide) (he : starEach (e :: es) X.env = (false, eval e X.env) :: starEach es X.env := by rfl) (hpl : (backTo pos (starEach es X.env)).any (·.1) = false := by rfl) :
    PMk X (.Call (.Name x p) (e :: es) [] pos) (tMkO C sp [] ta) := by
  obtain ⟨f, fd, ps, T, iC, tI, F1, hb, hm⟩ := c.ex
  exact pmk_oex T iC tI F1 (hr.mono hk) hb .nil pass0 hg hm ha hdb he hpl
/-- what an __init__ of two fields leaves -/
def spInit2 (C : Addr) (f g : Str) : Sp := fun vs H Q _ => ∃ (a : Addr) (r s : V), vs = [.ref a, r, s] ∧ H a = some (exo a C none) ∧
  ∀ d, H d = none → d ≠ a → Q .non (upd (upd (upd H d (exd d [(f, r)])) a (exo a C (some d))) d (exd d [(g, s), (f, r)]))
/-- its use where it is raised -/
theorem mk_two {C : Addr} {f g : Str} {H1 : Hp} {Q : XK} {r s : V} (q : ∀ H' d, Same H1 H' → H1 d = none → H' d = some (.xd [(g, s), (f, r)]) → Q (.ref C) (some d) H') :
    ([r, s] : List V).length ≤ 1000 ∧ ∀ a, H1 a = none → spInit2 C f g (.ref a :: ([r, s] ++ [])) (upd H1 a (exo a C none)) (fun v H2 => v = .non ∧ ∃ (d : Addr) (fs : List (Str × V)), H2 a = some (exo a C (some d)) ∧ H2 d = some (exd d fs) ∧ H1 d = none ∧ Q (.ref C) (some d) (upd (del H2 a) d (.xd fs))) (fun _ _ _ => False) := by
  refine ⟨by show 2 ≤ 1000; decide, fun a ha => ⟨a, r, s, rfl, upd_same, fun d hd hne => ⟨rfl, d, [(g, s), (f, r)], ?_, upd_same, ?_, q _ d ?_ ?_ upd_same⟩⟩⟩
  · rw [upd_ne hne.symm, upd_same]
  · rw [upd_ne hne] at hd; exact hd
  · intro b o e
    have hb : b ≠ d := fun z => by rw [z] at e; rw [upd_ne hne] at hd; rw [hd] at e; cases e
    have hba : b ≠ a := fun z => by rw [z, ha] at e; cases e
    rw [upd_ne hb, del_ne hba, upd_ne hb, upd_ne hba, upd_ne hb, upd_ne hba]
    exact e
  · rw [upd_ne hne] at hd; exact hd

def topS (i : Nat) : Stmt := PySem.Challenge.pw_oathledger_k46_accounts_step_by_step.main.body.getD i (.Pass ⟨0, 0, 0, 0⟩)
abbrev s_Refused____init__ : Stmt := inClass (topS 3) 0
theorem sc_Refused____init__ : FnScope ["self", "reason"] ["self", "reason"] (defScope s_Refused____init__) := ⟨rfl, rfl, rfl, by decide +kernel, rfl, by decide +kernel, by decide +kernel⟩
abbrev s_Accounts____init__ : Stmt := inClass (topS 9) 0
theorem sc_Accounts____init__ : FnScope ["self"] ["self"] (defScope s_Accounts____init__) := ⟨rfl, rfl, rfl, by decide +kernel, rfl, by decide +kernel, by decide +kernel⟩
abbrev s_Accounts__create : Stmt := inClass (topS 9) 1
theorem sc_Accounts__create : FnScope ["self", "client", "name"] ["self", "client", "name"] (defScope s_Accounts__create) := ⟨rfl, rfl, rfl, by decide +kernel, rfl, by decide +kernel, by decide +kernel⟩
abbrev s_Accounts__close : Stmt := inClass (topS 9) 2
theorem sc_Accounts__close : FnScope ["self", "client", "name"] ["self", "client", "name"] (defScope s_Accounts__close) := ⟨rfl, rfl, rfl, by decide +kernel, rfl, by decide +kernel, by decide +kernel⟩
abbrev s_Accounts__issue : Stmt := inClass (topS 9) 3
theorem sc_Accounts__issue : FnScope ["self", "client", "name", "amount"] ["self", "client", "name", "amount"] (defScope s_Accounts__issue) := ⟨rfl, rfl, rfl, by decide +kernel, rfl, by decide +kernel, by decide +kernel⟩
abbrev s_Accounts__burn : Stmt := inClass (topS 9) 4
theorem sc_Accounts__burn : FnScope ["self", "client", "name", "amount"] ["self", "client", "name", "amount"] (defScope s_Accounts__burn) := ⟨rfl, rfl, rfl, by decide +kernel, rfl, by decide +kernel, by decide +kernel⟩
abbrev s_Accounts__pay : Stmt := inClass (topS 9) 5
theorem sc_Accounts__pay : FnScope ["self", "client", "source", "target", "amount"] ["self", "client", "source", "target", "amount"] (defScope s_Accounts__pay) := ⟨rfl, rfl, rfl, by decide +kernel, rfl, by decide +kernel, by decide +kernel⟩
abbrev s_Accounts__hold : Stmt := inClass (topS 9) 6
theorem sc_Accounts__hold : FnScope ["self", "client", "source", "target", "amount", "key"] ["self", "client", "source", "target", "amount", "key"] (defScope s_Accounts__hold) := ⟨rfl, rfl, rfl, by decide +kernel, rfl, by decide +kernel, by decide +kernel⟩
abbrev s_Accounts__settle : Stmt := inClass (topS 9) 7
theorem sc_Accounts__settle : FnScope ["self", "client", "key", "source", "target", "amount"] ["self", "client", "key"] (defScope s_Accounts__settle) := ⟨rfl, rfl, rfl, by decide +kernel, rfl, by decide +kernel, by decide +kernel⟩
abbrev s_Accounts__release : Stmt := inClass (topS 9) 8
theorem sc_Accounts__release : FnScope ["self", "client", "key", "source", "target", "amount"] ["self", "client", "key"] (defScope s_Accounts__release) := ⟨rfl, rfl, rfl, by decide +kernel, rfl, by decide +kernel, by decide +kernel⟩
abbrev s_Accounts__balance : Stmt := inClass (topS 9) 9
theorem sc_Accounts__balance : FnScope ["self", "name"] ["self", "name"] (defScope s_Accounts__balance) := ⟨rfl, rfl, rfl, by decide +kernel, rfl, by decide +kernel, by decide +kernel⟩
abbrev s_Accounts__owner : Stmt := inClass (topS 9) 10
theorem sc_Accounts__owner : FnScope ["self", "name"] ["self", "name"] (defScope s_Accounts__owner) := ⟨rfl, rfl, rfl, by decide +kernel, rfl, by decide +kernel, by decide +kernel⟩
abbrev s_Accounts__supply : Stmt := inClass (topS 9) 11
theorem sc_Accounts__supply : FnScope ["self"] ["self"] (defScope s_Accounts__supply) := ⟨rfl, rfl, rfl, by decide +kernel, rfl, by decide +kernel, by decide +kernel⟩
abbrev s_Accounts__rows : Stmt := inClass (topS 9) 12
theorem sc_Accounts__rows : FnScope ["self", "name"] ["self"] (defScope s_Accounts__rows) := ⟨rfl, rfl, rfl, by decide +kernel, rfl, by decide +kernel, by decide +kernel⟩
abbrev s_Accounts__held : Stmt := inClass (topS 9) 13
theorem sc_Accounts__held : FnScope ["self", "key"] ["self"] (defScope s_Accounts__held) := ⟨rfl, rfl, rfl, by decide +kernel, rfl, by decide +kernel, by decide +kernel⟩
abbrev s_Accounts___check : Stmt := inClass (topS 9) 15
theorem sc_Accounts___check : FnScope ["self", "name"] ["self", "name"] (defScope s_Accounts___check) := ⟨rfl, rfl, rfl, by decide +kernel, rfl, by decide +kernel, by decide +kernel⟩
abbrev s_Accounts___check_owner : Stmt := inClass (topS 9) 16
theorem sc_Accounts___check_owner : FnScope ["self", "client", "name"] ["self", "client", "name"] (defScope s_Accounts___check_owner) := ⟨rfl, rfl, rfl, by decide +kernel, rfl, by decide +kernel, by decide +kernel⟩
abbrev s_Accounts___check_funds : Stmt := inClass (topS 9) 17
theorem sc_Accounts___check_funds : FnScope ["self", "name", "amount"] ["self", "name", "amount"] (defScope s_Accounts___check_funds) := ⟨rfl, rfl, rfl, by decide +kernel, rfl, by decide +kernel, by decide +kernel⟩
abbrev s_Accounts___check_payment : Stmt := inClass (topS 9) 18
theorem sc_Accounts___check_payment : FnScope ["self", "client", "source", "target", "amount"] ["self", "client", "source", "target", "amount"] (defScope s_Accounts___check_payment) := ⟨rfl, rfl, rfl, by decide +kernel, rfl, by decide +kernel, by decide +kernel⟩
abbrev s_Accounts___hold_of : Stmt := inClass (topS 9) 19
theorem sc_Accounts___hold_of : FnScope ["self", "key"] ["self", "key"] (defScope s_Accounts___hold_of) := ⟨rfl, rfl, rfl, by decide +kernel, rfl, by decide +kernel, by decide +kernel⟩
abbrev s_Accounts___is_held : Stmt := inClass (topS 9) 20
theorem sc_Accounts___is_held : FnScope ["self", "name", "hold"] ["self", "name"] (defScope s_Accounts___is_held) := ⟨rfl, rfl, rfl, by decide +kernel, rfl, by decide +kernel, by decide +kernel⟩
abbrev s__law_word : Stmt := topS 11
theorem sc__law_word : FnScope ["size", "chars", "seed", "step", "word", "rest", "k"] ["size", "chars", "seed", "step"] (defScope s__law_word) := ⟨rfl, rfl, rfl, by decide +kernel, rfl, by decide +kernel, by decide +kernel⟩
abbrev s__law_name : Stmt := topS 12
theorem sc__law_name : FnScope ["cell", "size"] ["cell"] (defScope s__law_name) := ⟨rfl, rfl, rfl, by decide +kernel, rfl, by decide +kernel, by decide +kernel⟩
abbrev s__law_key : Stmt := topS 13
theorem sc__law_key : FnScope ["cell", "size"] ["cell"] (defScope s__law_key) := ⟨rfl, rfl, rfl, by decide +kernel, rfl, by decide +kernel, by decide +kernel⟩
abbrev s__law_amount : Stmt := topS 14
theorem sc__law_amount : FnScope ["cell"] ["cell"] (defScope s__law_amount) := ⟨rfl, rfl, rfl, by decide +kernel, rfl, by decide +kernel, by decide +kernel⟩
abbrev s__law_rich : Stmt := topS 15
theorem sc__law_rich : FnScope ["cell", "k", "mixed"] ["cell", "k"] (defScope s__law_rich) := ⟨rfl, rfl, rfl, by decide +kernel, rfl, by decide +kernel, by decide +kernel⟩
abbrev s__law_op : Stmt := topS 16
theorem sc__law_op : FnScope ["cell", "k", "rich", "first", "second", "third", "verb", "amount"] ["cell", "k"] (defScope s__law_op) := ⟨rfl, rfl, rfl, by decide +kernel, rfl, by decide +kernel, by decide +kernel⟩
abbrev s__law_call : Stmt := topS 17
theorem sc__law_call : FnScope ["accounts", "op", "verb", "client", "name", "other", "amount", "key", "e"] ["accounts", "op"] (defScope s__law_call) := ⟨rfl, rfl, rfl, by decide +kernel, rfl, by decide +kernel, by decide +kernel⟩
abbrev s__law_funds : Stmt := topS 18
theorem sc__law_funds : FnScope ["model", "client", "name", "amount"] ["model", "client", "name", "amount"] (defScope s__law_funds) := ⟨rfl, rfl, rfl, by decide +kernel, rfl, by decide +kernel, by decide +kernel⟩
abbrev s__law_payment : Stmt := topS 19
theorem sc__law_payment : FnScope ["model", "op"] ["model", "op"] (defScope s__law_payment) := ⟨rfl, rfl, rfl, by decide +kernel, rfl, by decide +kernel, by decide +kernel⟩
abbrev s__law_close : Stmt := topS 20
theorem sc__law_close : FnScope ["model", "op", "key"] ["model", "op"] (defScope s__law_close) := ⟨rfl, rfl, rfl, by decide +kernel, rfl, by decide +kernel, by decide +kernel⟩
abbrev s__law_reason : Stmt := topS 21
theorem sc__law_reason : FnScope ["model", "op", "verb", "client", "name", "other", "amount", "key", "total", "reason", "side", "one"] ["model", "op"] (defScope s__law_reason) := ⟨rfl, rfl, rfl, by decide +kernel, rfl, by decide +kernel, by decide +kernel⟩
abbrev s__law_apply : Stmt := topS 22
theorem sc__law_apply : FnScope ["model", "op", "verb", "client", "name", "other", "amount", "key", "row", "target"] ["model", "op"] (defScope s__law_apply) := ⟨rfl, rfl, rfl, by decide +kernel, rfl, by decide +kernel, by decide +kernel⟩
abbrev s__law_same : Stmt := topS 23
theorem sc__law_same : FnScope ["accounts", "model", "rows", "held", "total", "name", "owner", "balance", "key", "row"] ["accounts", "model"] (defScope s__law_same) := ⟨rfl, rfl, rfl, by decide +kernel, rfl, by decide +kernel, by decide +kernel⟩
abbrev s__law_strange : Stmt := topS 24
theorem sc__law_strange : FnScope ["model", "letters", "k", "name"] ["model"] (defScope s__law_strange) := ⟨rfl, rfl, rfl, by decide +kernel, rfl, by decide +kernel, by decide +kernel⟩
abbrev s__law_missing : Stmt := topS 25
theorem sc__law_missing : FnScope ["accounts", "name", "told", "k", "e"] ["accounts", "name"] (defScope s__law_missing) := ⟨rfl, rfl, rfl, by decide +kernel, rfl, by decide +kernel, by decide +kernel⟩
abbrev s_law : Stmt := topS 26
theorem sc_law : FnScope ["script", "accounts", "model", "k", "name", "op", "due"] ["script"] (defScope s_law) := ⟨rfl, rfl, rfl, by decide +kernel, rfl, by decide +kernel, by decide +kernel⟩
structure Txt (K : PySem.W.Frag) (mg : Str → Option Value) (C_Accounts : Addr) (C_LedgerError : Addr) (C_Refused : Addr) : Prop where
  d__law_word : DefOk K mg "_law_word" s__law_word ["size", "chars", "seed", "step"]
  d__law_name : DefOk K mg "_law_name" s__law_name ["cell"]
  d__law_key : DefOk K mg "_law_key" s__law_key ["cell"]
  d__law_amount : DefOk K mg "_law_amount" s__law_amount ["cell"]
  d__law_rich : DefOk K mg "_law_rich" s__law_rich ["cell", "k"]
  d__law_op : DefOk K mg "_law_op" s__law_op ["cell", "k"]
  d__law_call : DefOk K mg "_law_call" s__law_call ["accounts", "op"]
  d__law_funds : DefOk K mg "_law_funds" s__law_funds ["model", "client", "name", "amount"]
  d__law_payment : DefOk K mg "_law_payment" s__law_payment ["model", "op"]
  d__law_close : DefOk K mg "_law_close" s__law_close ["model", "op"]
  d__law_reason : DefOk K mg "_law_reason" s__law_reason ["model", "op"]
  d__law_apply : DefOk K mg "_law_apply" s__law_apply ["model", "op"]
  d__law_same : DefOk K mg "_law_same" s__law_same ["accounts", "model"]
  d__law_strange : DefOk K mg "_law_strange" s__law_strange ["model"]
  d__law_missing : DefOk K mg "_law_missing" s__law_missing ["accounts", "name"]
  d_law : DefOk K mg "law" s_law ["script"]
  cl_Accounts : Cls K C_Accounts
  g_Accounts : mg "Accounts" = some (.ref C_Accounts)
  na_Accounts__owners : NoAttr K C_Accounts "_owners"
  na_Accounts__balances : NoAttr K C_Accounts "_balances"
  na_Accounts__holds : NoAttr K C_Accounts "_holds"
  na_Accounts__supply : NoAttr K C_Accounts "_supply"
  mk_Accounts : MakOk K C_Accounts "Accounts.__init__" s_Accounts____init__ ["self"]
  me_Accounts__create : MethOk K C_Accounts "create" "Accounts.create" s_Accounts__create ["self", "client", "name"]
  me_Accounts__close : MethOk K C_Accounts "close" "Accounts.close" s_Accounts__close ["self", "client", "name"]
  me_Accounts__issue : MethOk K C_Accounts "issue" "Accounts.issue" s_Accounts__issue ["self", "client", "name", "amount"]
  me_Accounts__burn : MethOk K C_Accounts "burn" "Accounts.burn" s_Accounts__burn ["self", "client", "name", "amount"]
  me_Accounts__pay : MethOk K C_Accounts "pay" "Accounts.pay" s_Accounts__pay ["self", "client", "source", "target", "amount"]
  me_Accounts__hold : MethOk K C_Accounts "hold" "Accounts.hold" s_Accounts__hold ["self", "client", "source", "target", "amount", "key"]
  me_Accounts__settle : MethOk K C_Accounts "settle" "Accounts.settle" s_Accounts__settle ["self", "client", "key"]
  me_Accounts__release : MethOk K C_Accounts "release" "Accounts.release" s_Accounts__release ["self", "client", "key"]
  me_Accounts__balance : MethOk K C_Accounts "balance" "Accounts.balance" s_Accounts__balance ["self", "name"]
  me_Accounts__owner : MethOk K C_Accounts "owner" "Accounts.owner" s_Accounts__owner ["self", "name"]
  me_Accounts__supply : MethOk K C_Accounts "supply" "Accounts.supply" s_Accounts__supply ["self"]
  me_Accounts__rows : MethOk K C_Accounts "rows" "Accounts.rows" s_Accounts__rows ["self"]
  me_Accounts__held : MethOk K C_Accounts "held" "Accounts.held" s_Accounts__held ["self"]
  me_Accounts___check : MethOk K C_Accounts "_check" "Accounts._check" s_Accounts___check ["self", "name"]
  me_Accounts___check_owner : MethOk K C_Accounts "_check_owner" "Accounts._check_owner" s_Accounts___check_owner ["self", "client", "name"]
  me_Accounts___check_funds : MethOk K C_Accounts "_check_funds" "Accounts._check_funds" s_Accounts___check_funds ["self", "name", "amount"]
  me_Accounts___check_payment : MethOk K C_Accounts "_check_payment" "Accounts._check_payment" s_Accounts___check_payment ["self", "client", "source", "target", "amount"]
  me_Accounts___hold_of : MethOk K C_Accounts "_hold_of" "Accounts._hold_of" s_Accounts___hold_of ["self", "key"]
  me_Accounts___is_held : MethOk K C_Accounts "_is_held" "Accounts._is_held" s_Accounts___is_held ["self", "name"]
  x_LedgerError : ExOk K mg "LedgerError" C_LedgerError
  x_Refused : ExI K mg "Refused" C_Refused
  xn_Refused_reason : PySem.W.findIn K (.ref C_Refused) "reason" = some none
  ei_Refused : ExInit K C_Refused "Refused.__init__" s_Refused____init__ ["self", "reason"]
  ec_Refused : ExcC K C_Refused
  kt_Refused_ValueError : PySem.W.kitOne K (.ref C_Refused) (.type "ValueError") = some true
  kt_Refused_Refused : PySem.W.kitOne K (.ref C_Refused) (.ref C_Refused) = some true
  u_Refused_Refused : PySem.W.subIn K (.ref C_Refused) (.ref C_Refused) = some true
  u_Refused_LedgerError : PySem.W.subIn K (.ref C_Refused) (.ref C_LedgerError) = some true
  c_ACCOUNT_LIMIT : ∃ u, mg "ACCOUNT_LIMIT" = some u ∧ RelV (.int 100) u
  c_HOLD_LIMIT : ∃ u, mg "HOLD_LIMIT" = some u ∧ RelV (.int 100) u
  c_MINT : ∃ u, mg "MINT" = some u ∧ RelV (.int (-1)) u
  c_SUPPLY_LIMIT : ∃ u, mg "SUPPLY_LIMIT" = some u ∧ RelV (.int 1000000000000000) u
  z_ValueError : mg "ValueError" = none
  z_any : mg "any" = none
  z_int : mg "int" = none
  z_isinstance : mg "isinstance" = none
  z_len : mg "len" = none
  z_list : mg "list" = none
  z_range : mg "range" = none
  z_sorted : mg "sorted" = none
  z_sum : mg "sum" = none
set_option pp.maxSteps 150
theorem units65 {k : Nat} {A : Around} (r : Room k A) : A.units + 65 < cLine := by have := r.un; omega
theorem decV' (i j : Int) : decide (V.int i = V.int j) = decide (i = j) := decide_eq_decide.mpr ⟨fun z => V.int.inj z, fun z => by rw [z]⟩
theorem decS (i j : Str) : decide (V.str i = V.str j) = decide (i = j) := decide_eq_decide.mpr ⟨fun z => V.str.inj z, fun z => by rw [z]⟩
theorem ksla {X : Cx} {K : PySem.W.Frag} (h : X.K = K := by rfl) : SlR X (rSlA K) := by subst h; exact sl_tupA
theorem kcatA {X : Cx} {K : PySem.W.Frag} (h : X.K = K := by rfl) : OpR X (binaryOp .Add) (rCatA K) := by subst h; exact op_catA
/-! ### the draws of a script -/
def Dr (H : Hp) (D A : Addr) : Prop := D ≠ A ∧ ∃ (ds : List Int) (n : Nat), H D = some (.lst (ds.map V.int)) ∧ H A = some (.lst [.int n]) ∧ (∀ d ∈ ds, 0 ≤ d ∧ d < 1000) ∧ ds.length ≤ 2520
/-- all that was tracked but A is as it was -/
def Mod (A : Addr) (H H' : Hp) : Prop := ∀ b o, b ≠ A → H b = some o → H' b = some o
theorem Mod.refl {A : Addr} {H : Hp} : Mod A H H := fun _ _ _ h => h
theorem Mod.trans {A : Addr} {H H1 H2 : Hp} (a : Mod A H H1) (b : Mod A H1 H2) : Mod A H H2 := fun c o n h => b c o n (a c o n h)
theorem Same.mod {A : Addr} {H H' : Hp} (s : Same H H') : Mod A H H' := fun b o _ h => s b o h
theorem Mod.new {A p : Addr} {o : HO} {H H' : Hp} (s : Mod A H H') (h : H' p = none) : Mod A H (upd H' p o) := fun b u n e => by
  rw [upd_ne (ne_of_none (s b u n e) h)]
  exact s b u n e
theorem Dr.new {D A p : Addr} {o : HO} {H : Hp} (d : Dr H D A) (h : H p = none) : Dr (upd H p o) D A := by
  obtain ⟨ne, ds, n, h1, h2, h3⟩ := d
  exact ⟨ne, ds, n, by rw [upd_ne (ne_of_none h1 h)]; exact h1, by rw [upd_ne (ne_of_none h2 h)]; exact h2, h3⟩
theorem Dr.same {D A : Addr} {H H' : Hp} (d : Dr H D A) (s : Same H H') : Dr H' D A := by
  obtain ⟨ne, ds, n, h1, h2, h3⟩ := d
  exact ⟨ne, ds, n, s _ _ h1, s _ _ h2, h3⟩
/-- an object that is neither D nor A is changed -/
theorem Dr.put {D A p : Addr} {o : HO} {H : Hp} (d : Dr H D A) (h1 : p ≠ D) (h2 : p ≠ A) : Dr (upd H p o) D A := by
  obtain ⟨ne, ds, n, e1, e2, h3⟩ := d
  exact ⟨ne, ds, n, by rw [upd_ne h1.symm]; exact e1, by rw [upd_ne h2.symm]; exact e2, h3⟩
theorem Dr.freshA {D A p : Addr} {H : Hp} (d : Dr H D A) (h : H p = none) : p ≠ A := by
  obtain ⟨_, _, _, _, e, _⟩ := d
  exact (ne_of_none e h).symm
theorem Dr.freshD {D A p : Addr} {H : Hp} (d : Dr H D A) (h : H p = none) : p ≠ D := by
  obtain ⟨_, _, _, e, _⟩ := d
  exact (ne_of_none e h).symm
theorem Mod.free {A p : Addr} {H H' : Hp} (s : Mod A H H') (d : ∃ o, H' A = some o) (h : H' p = none) : H p = none := by
  cases e : H p with
  | none => rfl
  | some o =>
    by_cases hp : p = A
    · subst hp
      obtain ⟨o', e'⟩ := d
      rw [e'] at h; cases h
    · rw [s p o hp e] at h; cases h
theorem Dr.A_in {D A : Addr} {H : Hp} (d : Dr H D A) : ∃ o, H A = some o := by
  obtain ⟨_, _, _, _, e, _⟩ := d
  exact ⟨_, e⟩
theorem rng_app {ds : List Int} {x : Int} (h : ∀ d ∈ ds, 0 ≤ d ∧ d < 1000) (h0 : 0 ≤ x) (h1 : x < 1000) : ∀ d ∈ ds ++ [x], 0 ≤ d ∧ d < 1000 := fun d hd => by
  rcases List.mem_append.mp hd with hd | hd
  · exact h d hd
  · rw [List.mem_singleton.mp hd]; exact ⟨h0, h1⟩

/-! ### drawn numbers and strings -/
def prC (c : Nat) : Bool := decide (32 ≤ c) && decide (c ≤ 126) && decide (c ≠ 37)
def isPr (z : Str) : Bool := z.cps.toList.all prC
theorem app_tl (a b : Str) : (a ++ b).cps.toList = a.cps.toList ++ b.cps.toList := by
  show (a.cps ++ b.cps).toList = _
  rw [Array.toList_append]
theorem len_tl (z : Str) : z.cps.toList.length = z.length := Array.length_toList
theorem isPr_app (a b : Str) : isPr (a ++ b) = (isPr a && isPr b) := by
  unfold isPr
  rw [app_tl, List.all_append]

/-! ### values as data: what stands at them does not change -/
def TupAt (K : PySem.W.Frag) (H : Hp) (a : Addr) (xs : List V) : Prop := H a = some (.tup xs) ∨ KTup K a xs
section
variable {K : PySem.W.Frag}
theorem TupAt.sq {H : Hp} {a : Addr} {xs : List V} (h : TupAt K H a xs) : SqT K H a xs := h.elim SqT.of .inr
theorem TupAt.ty {H : Hp} {a : Addr} {xs : List V} (h : TupAt K H a xs) : TyX K H (.ref a) (.type "tuple") := h.elim (fun h => .base (.tup h)) (fun ⟨_, _, _, h1, h2, _⟩ => .kTuple h1 h2)
theorem TupAt.same {H H' : Hp} {a : Addr} {xs : List V} (h : TupAt K H a xs) (s : Same H H') : TupAt K H' a xs := h.imp (s _ _) id
/-- none of those at A (none: no matter) -/
def NeA (A : Option Addr) (a : Addr) : Prop := match A with | some b => a ≠ b | none => True
mutual
/-- v is the data d; the lists in it are none of those at A -/
inductive Dt (K : PySem.W.Frag) (H : Hp) (A : Option Addr) : V → PyData → Prop
  | non : Dt K H A .non .none
  | bl (b : Bool) : Dt K H A (.bl b) (.bool b)
  | int (i : Int) : Dt K H A (.int i) (.int i)
  | str (z : Str) (h : z.length ≤ 1000000) : Dt K H A (.str z) (.str z)
  | lst {a : Addr} {xs : List V} {ds : List PyData} : NeA A a → H a = some (.lst xs) → DtAll K H A xs ds → Dt K H A (.ref a) (.list ds)
  | tup {a : Addr} {xs : List V} {ds : List PyData} : TupAt K H a xs → DtAll K H A xs ds → Dt K H A (.ref a) (.tuple ds)
inductive DtAll (K : PySem.W.Frag) (H : Hp) (A : Option Addr) : List V → List PyData → Prop
  | nil : DtAll K H A [] []
  | cons {v : V} {vs : List V} {d : PyData} {ds : List PyData} : Dt K H A v d → DtAll K H A vs ds → DtAll K H A (v :: vs) (d :: ds)
end
theorem DtAll.length {H : Hp} {A : Option Addr} : ∀ {xs : List V} {ds : List PyData}, DtAll K H A xs ds → xs.length = ds.length
  | _, _, .nil => rfl
  | _, _, .cons _ r => by rw [List.length_cons, List.length_cons, r.length]
theorem DtAll.get {H : Hp} {A : Option Addr} : ∀ {xs : List V} {ds : List PyData} {i : Nat} {x : V}, DtAll K H A xs ds → xs[i]? = some x → ∃ d, ds[i]? = some d ∧ Dt K H A x d
  | _, _, _, _, .nil, e => by simp at e
  | _, _, 0, x, .cons h _, e => by simp at e; subst e; exact ⟨_, rfl, h⟩
  | _, _, i + 1, x, .cons _ r, e => by
    obtain ⟨d, h1, h2⟩ := r.get (i := i) (x := x) (by simpa using e)
    exact ⟨d, by simpa using h1, h2⟩
theorem DtAll.getD {H : Hp} {A : Option Addr} {xs : List V} {ds : List PyData} {i : Nat} {d : PyData} (h : DtAll K H A xs ds) (e : ds[i]? = some d) : ∃ x, xs[i]? = some x ∧ Dt K H A x d := by
  have hi : i < ds.length := (List.getElem?_eq_some_iff.mp e).1
  have hi' : i < xs.length := by rw [h.length]; exact hi
  obtain ⟨d', h1, h2⟩ := h.get (List.getElem?_eq_getElem hi')
  rw [e] at h1
  cases h1
  exact ⟨_, List.getElem?_eq_getElem hi', h2⟩
mutual
theorem Dt.mod {H H' : Hp} {A D : Addr} (s : Mod A H H') (dr : Dr H D A) : ∀ (d : PyData) (v : V), Dt K H (some A) v d → Dt K H' (some A) v d
  | .none, _, h => by cases h; exact .non
  | .bool b, _, h => by cases h; exact .bl b
  | .int i, _, h => by cases h; exact .int i
  | .str z, _, h => by cases h with | str _ hz => exact .str z hz
  | .list ds, _, h => by cases h with | lst hn ha hd => exact .lst hn (s _ _ hn ha) (DtAll.mod s dr ds _ hd)
  | .tuple ds, _, h => by
    cases h with
    | tup ha hd =>
      obtain ⟨_, _, _, _, e, _⟩ := id dr
      exact .tup (ha.imp (fun ha => s _ _ (ne_of ha e (by intro z; cases z)) ha) id) (DtAll.mod s dr ds _ hd)
  | .dict _, _, h => by cases h
theorem DtAll.mod {H H' : Hp} {A D : Addr} (s : Mod A H H') (dr : Dr H D A) : ∀ (ds : List PyData) (xs : List V), DtAll K H (some A) xs ds → DtAll K H' (some A) xs ds
  | [], _, h => by cases h; exact .nil
  | d :: ds, _, h => by cases h with | cons h1 h2 => exact .cons (Dt.mod s dr d _ h1) (DtAll.mod s dr ds _ h2)
end
mutual
theorem Dt.same {H H' : Hp} {A : Option Addr} (s : Same H H') : ∀ (d : PyData) (v : V), Dt K H A v d → Dt K H' A v d
  | .none, _, h => by cases h; exact .non
  | .bool b, _, h => by cases h; exact .bl b
  | .int i, _, h => by cases h; exact .int i
  | .str z, _, h => by cases h with | str _ hz => exact .str z hz
  | .list ds, _, h => by cases h with | lst hn ha hd => exact .lst hn (s _ _ ha) (DtAll.same s ds _ hd)
  | .tuple ds, _, h => by cases h with | tup ha hd => exact .tup (ha.same s) (DtAll.same s ds _ hd)
  | .dict _, _, h => by cases h
theorem DtAll.same {H H' : Hp} {A : Option Addr} (s : Same H H') : ∀ (ds : List PyData) (xs : List V), DtAll K H A xs ds → DtAll K H' A xs ds
  | [], _, h => by cases h; exact .nil
  | d :: ds, _, h => by cases h with | cons h1 h2 => exact .cons (Dt.same s d _ h1) (DtAll.same s ds _ h2)
end
mutual
/-- data for a comparison -/
theorem Dt.dp {H : Hp} {A : Option Addr} : ∀ (d : PyData) (v : V), Dt K H A v d → Dp K H v d
  | .none, _, h => by cases h; exact .non
  | .bool b, _, h => by cases h; exact .bl b
  | .int i, _, h => by cases h; exact .int i
  | .str z, _, h => by cases h; exact .str z
  | .list ds, _, h => by cases h with | lst hn ha hd => exact .lst (SqL.of ha) (DtAll.dp ds _ hd)
  | .tuple ds, _, h => by cases h with | tup ha hd => exact .tup ha.sq (DtAll.dp ds _ hd)
  | .dict _, _, h => by cases h
theorem DtAll.dp {H : Hp} {A : Option Addr} : ∀ (ds : List PyData) (xs : List V), DtAll K H A xs ds → DpAll K H xs ds
  | [], _, h => by cases h; exact .nil
  | d :: ds, _, h => by cases h with | cons h1 h2 => exact .cons (Dt.dp d _ h1) (DtAll.dp ds _ h2)
end
theorem Dt.on {H H' : Hp} {A : Option Addr} {v : V} {d : PyData} (h : Dt K H A v d) (s : Same H H') : Dt K H' A v d := Dt.same s d v h
theorem DtAll.on {H H' : Hp} {A : Option Addr} {xs : List V} {ds : List PyData} (h : DtAll K H A xs ds) (s : Same H H') : DtAll K H' A xs ds := DtAll.same s ds xs h
theorem Dt.by {H H' : Hp} {A D : Addr} {v : V} {d : PyData} (h : Dt K H (some A) v d) (s : Mod A H H') (dr : Dr H D A) : Dt K H' (some A) v d := Dt.mod s dr d v h
theorem DtAll.by {H H' : Hp} {A D : Addr} {xs : List V} {ds : List PyData} (h : DtAll K H (some A) xs ds) (s : Mod A H H') (dr : Dr H D A) : DtAll K H' (some A) xs ds := DtAll.mod s dr ds xs h
theorem Dt.two {H : Hp} {A : Option Addr} {v : V} {d : PyData} (h : Dt K H A v d) : (∃ a xs ds, v = .ref a ∧ d = .tuple ds ∧ TupAt K H a xs ∧ DtAll K H A xs ds) ∨ (∃ T, TyX K H v (.type T) ∧ kitB T "tuple" = some false ∧ ∀ ds, d ≠ .tuple ds) := by
  cases h with
  | tup ha hx => exact .inl ⟨_, _, _, rfl, rfl, ha, hx⟩
  | str z hz => exact .inr ⟨_, .base (.str z), by decide +kernel, fun _ z => nomatch z⟩
  | int i => exact .inr ⟨_, .base (.int i), by decide +kernel, fun _ z => nomatch z⟩
  | non => exact .inr ⟨_, .base .non, by decide +kernel, fun _ z => nomatch z⟩
  | bl b => exact .inr ⟨_, .base (.bl b), by decide +kernel, fun _ z => nomatch z⟩
  | lst _ ha _ => exact .inr ⟨_, .base (.lst ha), by decide +kernel, fun _ z => nomatch z⟩
/-- the kind of a value -/
def dTy : PyData → String
  | .none => "NoneType" | .bool _ => "bool" | .int _ => "int" | .str _ => "str" | .list _ => "list" | .tuple _ => "tuple" | .dict _ => "dict"
theorem Dt.ty {H : Hp} {A : Option Addr} {v : V} {d : PyData} (h : Dt K H A v d) : TyX K H v (.type (dTy d)) := by
  cases h with
  | non => exact .base .non
  | bl b => exact .base (.bl b)
  | int i => exact .base (.int i)
  | str z _ => exact .base (.str z)
  | lst _ ha _ => exact .base (.lst ha)
  | tup ha _ => exact ha.ty
/-! the predicates of the program, upon data -/
def dInt (lo hi : Int) : PyData → Bool
  | .int i => decide (lo ≤ i ∧ i ≤ hi)
  | _ => false
def dShort (m : Int) : PyData → Bool
  | .str z => isPr z && decide ((z.length : Int) ≤ m)
  | _ => false
def dCmd : PyData → Bool
  | .tuple [c, n, t] => dInt (-100) (-1) c && dInt 1 1000000000000 n && dShort 240 t
  | _ => false
def dClient : PyData → Int
  | .tuple (.int c :: _) => c
  | _ => 0
def dAfter : Option Int → PyData → Bool
  | some k, d => decide (k < dClient d)
  | none, _ => true
def befV : Option Int → V
  | some k => .int k
  | none => .non
def dCmdsFrom : Option Int → List PyData → Bool
  | _, [] => true
  | b, d :: r => dCmd d && dAfter b d && dCmdsFrom (some (dClient d)) r
theorem dCmdsFrom_cons (b : Option Int) (d : PyData) (r : List PyData) : dCmdsFrom b (d :: r) = (dCmd d && dAfter b d && dCmdsFrom (some (dClient d)) r) := by cases b <;> rfl
theorem dCmdsFrom_nil (b : Option Int) : dCmdsFrom b [] = true := by cases b <;> rfl
def dCmds : PyData → Bool
  | .tuple ds => dCmdsFrom none ds
  | _ => false
def dHeight (parent : Int) (h : PyData) : Bool := if parent = 0 then dInt 1 1 h else dInt 2 (parent + 1) h
def dBlock4 (e p h cs : PyData) : Bool := match e, p with
  | .int e, .int p => dInt 1 1000000000000 (.int e) && dInt 0 (e - 1) (.int p) && dHeight p h && dCmds cs
  | _, _ => false
def dBlock : PyData → Bool
  | .tuple [e, p, h, cs] => dBlock4 e p h cs
  | _ => false
def dEmpty : PyData → Bool
  | .tuple [] => true
  | _ => false
def dGen : PyData → Bool
  | .tuple [e, p, h, cs] => dInt 0 0 e && dInt 0 0 p && dInt 0 0 h && dEmpty cs
  | _ => false
theorem DtAll.four {H : Hp} {A : Option Addr} {xs : List V} {ds : List PyData} (h : DtAll K H A xs ds) (hl : xs.length = 4) :
    ∃ x1 x2 x3 x4 d1 d2 d3 d4, xs = [x1, x2, x3, x4] ∧ ds = [d1, d2, d3, d4] ∧ Dt K H A x1 d1 ∧ Dt K H A x2 d2 ∧ Dt K H A x3 d3 ∧ Dt K H A x4 d4 := by
  match xs, ds, h with
  | [_, _, _, _], _, .cons h1 (.cons h2 (.cons h3 (.cons h4 .nil))) => exact ⟨_, _, _, _, _, _, _, _, rfl, rfl, h1, h2, h3, h4⟩
theorem dBlock4_e1 {e p h cs : PyData} (z : dInt 1 1000000000000 e = false) : dBlock4 e p h cs = false := by
  unfold dBlock4
  split
  · rw [z]; rfl
  · rfl
theorem dBlock4_e2 {e : Int} {p h cs : PyData} (z : dInt 0 (e - 1) p = false) : dBlock4 (.int e) p h cs = false := by
  unfold dBlock4
  split
  · rename_i h1
    cases h1
    rw [z, Bool.and_false]; rfl
  · rfl
/-- a predicate of one value, kept by growing heaps -/
def spPred (K : PySem.W.Frag) (A : Option Addr) (f : PyData → Bool) : Sp := fun vs H Q _ => ∃ (v : V) (d : PyData), vs = [v] ∧ Dt K H A v d ∧ ∀ H', Same H H' → Q (.bl (f d)) H'
def spIntD (K : PySem.W.Frag) (A : Option Addr) : Sp := fun vs H Q _ => ∃ (v : V) (d : PyData) (lo hi : Int), vs = [v, .int lo, .int hi] ∧ Dt K H A v d ∧ Q (.bl (dInt lo hi d)) H
def spShortD (K : PySem.W.Frag) (A : Option Addr) : Sp := fun vs H Q _ => ∃ (v : V) (d : PyData) (m : Int), vs = [v, .int m] ∧ Dt K H A v d ∧ ∀ H', Same H H' → Q (.bl (dShort m d)) H'
theorem dInt_inv {lo hi : Int} {d : PyData} (h : dInt lo hi d = true) : ∃ i, d = .int i ∧ lo ≤ i ∧ i ≤ hi := by
  cases d with
  | int i =>
    have h : decide (lo ≤ i ∧ i ≤ hi) = true := h
    exact ⟨i, rfl, (of_decide_eq_true h).1, (of_decide_eq_true h).2⟩
  | none => cases h
  | bool b => cases h
  | str z => cases h
  | list ds => cases h
  | tuple ds => cases h
  | dict k => cases h
theorem dShort_inv {m : Int} {d : PyData} (h : dShort m d = true) : ∃ z : Str, d = .str z ∧ isPr z = true ∧ (z.length : Int) ≤ m := by
  cases d with
  | str z =>
    have h : (isPr z && decide ((z.length : Int) ≤ m)) = true := h
    obtain ⟨h1, h2⟩ := Bool.and_eq_true_iff.mp h
    exact ⟨z, rfl, h1, of_decide_eq_true h2⟩
  | none => cases h
  | bool b => cases h
  | int i => cases h
  | list ds => cases h
  | tuple ds => cases h
  | dict k => cases h
theorem dCmd_inv {d : PyData} (h : dCmd d = true) : ∃ (c n : Int) (t : Str), d = .tuple [.int c, .int n, .str t] ∧ -100 ≤ c ∧ c ≤ -1 ∧ 1 ≤ n ∧ n ≤ 1000000000000 ∧ isPr t = true ∧ (t.length : Int) ≤ 240 := by
  unfold dCmd at h
  split at h
  · rename_i c n t
    rw [Bool.and_eq_true, Bool.and_eq_true] at h
    obtain ⟨⟨h1, h2⟩, h3⟩ := h
    obtain ⟨c, rfl, c0, c1⟩ := dInt_inv h1
    obtain ⟨n, rfl, n0, n1⟩ := dInt_inv h2
    obtain ⟨t, rfl, t0, t1⟩ := dShort_inv h3
    exact ⟨c, n, t, rfl, c0, c1, n0, n1, t0, t1⟩
  · cases h
/-- what a tuple of three ints, ints, texts stands for -/
theorem Dt.three {H : Hp} {A : Option Addr} {v : V} {d1 d2 d3 : PyData} (h : Dt K H A v (.tuple [d1, d2, d3])) : ∃ a x1 x2 x3, v = .ref a ∧ TupAt K H a [x1, x2, x3] ∧ Dt K H A x1 d1 ∧ Dt K H A x2 d2 ∧ Dt K H A x3 d3 := by
  cases h with
  | tup ha hd =>
    cases hd with
    | cons h1 hd =>
      cases hd with
      | cons h2 hd =>
        cases hd with
        | cons h3 hd =>
          cases hd
          exact ⟨_, _, _, _, rfl, ha, h1, h2, h3⟩
mutual
theorem Dt.any {H : Hp} {A : Option Addr} : ∀ (d : PyData) (v : V), Dt K H A v d → Dt K H none v d
  | .none, _, h => by cases h; exact .non
  | .bool b, _, h => by cases h; exact .bl b
  | .int i, _, h => by cases h; exact .int i
  | .str z, _, h => by cases h with | str _ hz => exact .str z hz
  | .list ds, _, h => by cases h with | lst hn ha hd => exact .lst trivial ha (DtAll.any ds _ hd)
  | .tuple ds, _, h => by cases h with | tup ha hd => exact .tup ha (DtAll.any ds _ hd)
  | .dict _, _, h => by cases h
theorem DtAll.any {H : Hp} {A : Option Addr} : ∀ (ds : List PyData) (xs : List V), DtAll K H A xs ds → DtAll K H none xs ds
  | [], _, h => by cases h; exact .nil
  | d :: ds, _, h => by cases h with | cons h1 h2 => exact .cons (Dt.any d _ h1) (DtAll.any ds _ h2)
end
theorem Dt.an {H : Hp} {A : Option Addr} {v : V} {d : PyData} (h : Dt K H A v d) : Dt K H none v d := Dt.any d v h
/-! data without lists -/
mutual
def noL : PyData → Bool
  | .list _ => false
  | .tuple ds => noLs ds
  | _ => true
def noLs : List PyData → Bool
  | [] => true
  | d :: r => noL d && noLs r
end
/-- tracked tuples stay -/
def Tp (H H' : Hp) : Prop := ∀ a xs, H a = some (.tup xs) → H' a = some (.tup xs)
mutual
theorem Dt.keep {H H' : Hp} {A B : Option Addr} (t : Tp H H') : ∀ (d : PyData) (v : V), noL d = true → Dt K H A v d → Dt K H' B v d
  | .none, _, _, h => by cases h; exact .non
  | .bool b, _, _, h => by cases h; exact .bl b
  | .int i, _, _, h => by cases h; exact .int i
  | .str z, _, _, h => by cases h with | str _ hz => exact .str z hz
  | .list ds, _, n, _ => by cases n
  | .tuple ds, _, n, h => by cases h with | tup ha hd => exact .tup (ha.imp (t _ _) id) (DtAll.keep t ds _ n hd)
  | .dict _, _, _, h => by cases h
theorem DtAll.keep {H H' : Hp} {A B : Option Addr} (t : Tp H H') : ∀ (ds : List PyData) (xs : List V), noLs ds = true → DtAll K H A xs ds → DtAll K H' B xs ds
  | [], _, _, h => by cases h; exact .nil
  | d :: ds, _, n, h => by
    have n : (noL d && noLs ds) = true := n
    rw [Bool.and_eq_true] at n
    cases h with | cons h1 h2 => exact .cons (Dt.keep t d _ n.1 h1) (DtAll.keep t ds _ n.2 h2)
end
theorem DtAll.snoc {H : Hp} {A : Option Addr} : ∀ {xs : List V} {ds : List PyData} {x : V} {d : PyData}, DtAll K H A xs ds → Dt K H A x d → DtAll K H A (xs ++ [x]) (ds ++ [d])
  | _, _, _, _, .nil, h => .cons h .nil
  | _, _, _, _, .cons h r, h2 => .cons h (r.snoc h2)
theorem TupAt.tp {H H' : Hp} {a : Addr} {xs : List V} (h : TupAt K H a xs) (t : Tp H H') : TupAt K H' a xs := h.imp (t _ _) id
theorem Same.tp {H H' : Hp} (s : Same H H') : Tp H H' := fun _ _ h => s _ _ h
theorem Mod.tp {H H' : Hp} {A D : Addr} (s : Mod A H H') (dr : Dr H D A) : Tp H H' := fun a xs h => by
  obtain ⟨_, _, _, _, e, _⟩ := id dr
  exact s _ _ (ne_of h e (by intro z; cases z)) h
theorem tp_put {H : Hp} {l : Addr} {xs ys : List V} (h : H l = some (.lst xs)) : Tp H (upd H l (.lst ys)) := fun a zs e => by
  rw [upd_ne (ne_of e h (by intro z; cases z))]; exact e
theorem dCmd_noL {d : PyData} (h : dCmd d = true) : noL d = true := by
  obtain ⟨c, n, t, rfl, _⟩ := dCmd_inv h
  rfl
theorem dCmdsFrom_noL : ∀ {ds : List PyData} {b : Option Int}, dCmdsFrom b ds = true → noLs ds = true
  | [], _, _ => rfl
  | d :: r, b, h => by
    rw [dCmdsFrom_cons, Bool.and_eq_true, Bool.and_eq_true] at h
    show (noL d && noLs r) = true
    rw [dCmd_noL h.1.1, dCmdsFrom_noL h.2]; rfl
theorem dCmdsFrom_all : ∀ {ds : List PyData} {b : Option Int}, dCmdsFrom b ds = true → ∀ d ∈ ds, dCmd d = true
  | [], _, _, _, m => nomatch m
  | d :: r, b, h, e, m => by
    rw [dCmdsFrom_cons, Bool.and_eq_true, Bool.and_eq_true] at h
    rcases List.mem_cons.mp m with rfl | m
    · exact h.1.1
    · exact dCmdsFrom_all h.2 e m
def lastC : Option Int → List PyData → Option Int
  | b, [] => b
  | _, d :: r => lastC (some (dClient d)) r
theorem lastC_snoc : ∀ (ds : List PyData) (b : Option Int) (d : PyData), lastC b (ds ++ [d]) = some (dClient d)
  | [], _, _ => rfl
  | _ :: r, _, d => lastC_snoc r _ d
theorem dCmdsFrom_snoc : ∀ (ds : List PyData) (b : Option Int) (d : PyData), dCmdsFrom b (ds ++ [d]) = (dCmdsFrom b ds && (dCmd d && dAfter (lastC b ds) d))
  | [], b, d => by
    show dCmdsFrom b [d] = _
    rw [dCmdsFrom_cons, dCmdsFrom_nil, dCmdsFrom_nil, Bool.and_true, Bool.true_and]; rfl
  | e :: r, b, d => by
    show dCmdsFrom b (e :: (r ++ [d])) = _
    rw [dCmdsFrom_cons, dCmdsFrom_snoc r, dCmdsFrom_cons, Bool.and_assoc, Bool.and_assoc, Bool.and_assoc]; rfl
end
theorem noLs_all : ∀ {ds : List PyData}, (∀ d ∈ ds, noL d = true) → noLs ds = true
  | [], _ => rfl
  | d :: r, h => by
    show (noL d && noLs r) = true
    rw [h d List.mem_cons_self, noLs_all (fun e he => h e (List.mem_cons_of_mem _ he))]; rfl

theorem same_none {H H' : Hp} {p : Addr} (s : Same H H') (h : H' p = none) : H p = none := by
  cases e : H p with
  | none => rfl
  | some o => rw [s p o e] at h; cases h

/-! ### slices and sums of tuples, as data -/
def cutD (ds : List PyData) (lo hi : Option Int) : List PyData := (ds.drop (HT.sIx ds.length 0 lo)).take (HT.sIx ds.length ds.length hi - HT.sIx ds.length 0 lo)
theorem DtAll.drop {K : PySem.W.Frag} {H : Hp} {A : Option Addr} : ∀ {xs : List V} {ds : List PyData} (n : Nat), DtAll K H A xs ds → DtAll K H A (xs.drop n) (ds.drop n)
  | _, _, 0, h => h
  | _, _, _ + 1, .nil => .nil
  | _, _, n + 1, .cons _ r => r.drop n
theorem DtAll.take {K : PySem.W.Frag} {H : Hp} {A : Option Addr} : ∀ {xs : List V} {ds : List PyData} (n : Nat), DtAll K H A xs ds → DtAll K H A (xs.take n) (ds.take n)
  | _, _, 0, _ => by rw [List.take_zero, List.take_zero]; exact .nil
  | _, _, _ + 1, .nil => .nil
  | _, _, n + 1, .cons h r => .cons h (r.take n)
theorem DtAll.app {K : PySem.W.Frag} {H : Hp} {A : Option Addr} : ∀ {xs ys : List V} {ds es : List PyData}, DtAll K H A xs ds → DtAll K H A ys es → DtAll K H A (xs ++ ys) (ds ++ es)
  | _, _, _, _, .nil, h => h
  | _, _, _, _, .cons h r, h2 => .cons h (r.app h2)
theorem sl_dt {K : PySem.W.Frag} {H : Hp} {b : Addr} {xs : List V} {ds : List PyData} {lo hi : Option Int} {Q : VK} (ha : TupAt K H b xs) (hx : DtAll K H none xs ds) (q : ∀ H' v, Same H H' → Dt K H' none v (.tuple (cutD ds lo hi)) → Q v H') : rSlA K (.ref b) lo hi H Q := by
  have hl := hx.length
  refine ⟨b, xs, rfl, ha.sq, fun hw => q _ _ (Same.refl H) ?_, fun _ p hp => q _ _ (same_upd hp) (.tup (.inl upd_same) ?_)⟩
  · have e : cutD ds lo hi = ds := by
      unfold cutD
      rw [← hl, hw.1, hw.2, List.drop_zero, Nat.sub_zero, hl, List.take_of_length_le (Nat.le_refl _)]
    rw [e]
    exact .tup ha hx
  · unfold cutV cutD
    rw [← hl]
    exact ((hx.drop _).take _).on (same_upd hp)
theorem cat_dt {K : PySem.W.Frag} {H : Hp} {v u : V} {ds es : List PyData} {Q : VK} (hv : Dt K H none v (.tuple ds)) (hu : Dt K H none u (.tuple es)) (hl : ds.length + es.length ≤ 100000) (q : ∀ H' v', Same H H' → Dt K H' none v' (.tuple (ds ++ es)) → Q v' H') : rCatA K v u H Q := by
  cases hv with
  | tup ha hx =>
    cases hu with
    | tup hb hy =>
      rename_i a xs b ys
      have l1 := hx.length
      have l2 := hy.length
      refine ⟨a, b, xs, ys, rfl, rfl, ha.sq, hb.sq, sz1000 (by omega), fun e => q _ _ (Same.refl H) ?_, fun _ e => q _ _ (Same.refl H) ?_, fun _ _ p hp => q _ _ (same_upd hp) (.tup (.inl upd_same) ((hx.app hy).on (same_upd hp)))⟩
      · rw [e] at l1
        rw [List.length_eq_zero_iff.mp l1.symm]
        exact .tup hb hy
      · rw [e] at l2
        rw [List.length_eq_zero_iff.mp l2.symm, List.append_nil]
        exact .tup ha hx
theorem cutD_take (ds : List PyData) (j : Nat) : cutD ds none (some (j : Int)) = ds.take j := by
  unfold cutD
  rw [HT.sIx_nat, HT.sIx_none, List.drop_zero, Nat.sub_zero]
  rcases Nat.le_total j ds.length with h | h
  · rw [Nat.min_eq_left h]
  · rw [Nat.min_eq_right h, List.take_of_length_le (Nat.le_refl _), List.take_of_length_le h]
theorem cutD_drop (ds : List PyData) (j : Nat) : cutD ds (some (j : Int)) none = ds.drop j := by
  unfold cutD
  rw [HT.sIx_nat, HT.sIx_none]
  rcases Nat.le_total j ds.length with h | h
  · rw [Nat.min_eq_left h, List.take_of_length_le (by rw [List.length_drop]; exact Nat.le_refl _)]
  · rw [Nat.min_eq_right h, Nat.sub_self, List.take_zero, List.drop_of_length_le h]

theorem atI_lt {α : Type} {xs : List α} {i : Int} (h0 : 0 ≤ i) (h1 : i < xs.length) : ∃ v, v ∈ xs ∧ atI xs i = some v := by
  obtain ⟨j, rfl⟩ := Int.eq_ofNat_of_zero_le h0
  have hj : j < xs.length := Int.ofNat_lt.mp h1
  exact ⟨xs[j], List.getElem_mem hj, atI_nat (List.getElem?_eq_getElem hj)⟩

/-! ### dicts as lists of pairs -/
section
variable {κ α : Type} [DecidableEq κ]
def gA (ks : List (κ × α)) (c : κ) : Option α := (ks.find? fun k => decide (k.1 = c)).map (·.2)
def pA (ks : List (κ × α)) (c : κ) (x : α) : List (κ × α) := if (ks.any fun k => decide (k.1 = c)) = true then ks.map (fun k => if k.1 = c then (k.1, x) else k) else ks ++ [(c, x)]
/-- the pairs as they stand in a dict -/
def kvs (em : κ → Key) (f : α → V) (ks : List (κ × α)) : List (Key × V) := ks.map fun k => (em k.1, f k.2)
def kOk (ks : List (κ × α)) : Prop := (ks.map (·.1)).Nodup
theorem gA_kvs {em : κ → Key} (inj : ∀ a b, em a = em b → a = b) (f : α → V) : ∀ (ks : List (κ × α)) (c : κ), valV (kvs em f ks) (em c) = (gA ks c).map f
  | [], _ => rfl
  | k :: r, c => by
    have ih := gA_kvs inj f r c
    unfold kvs valV gA at ih ⊢
    rw [List.map_cons, List.find?_cons, List.find?_cons]
    by_cases h : k.1 = c
    · have h1 : decide (em k.1 = em c) = true := decide_eq_true (by rw [h])
      rw [h1, decide_eq_true h]; rfl
    · have h1 : decide (em k.1 = em c) = false := decide_eq_false (fun z => h (inj _ _ z))
      rw [h1, decide_eq_false h]; exact ih
theorem pA_kvs {em : κ → Key} (inj : ∀ a b, em a = em b → a = b) (f : α → V) (ks : List (κ × α)) (c : κ) (x : α) : putK (kvs em f ks) (em c) (f x) = kvs em f (pA ks c x) := by
  have e : ∀ k : κ × α, decide (em k.1 = em c) = decide (k.1 = c) := fun k => decide_eq_decide.mpr ⟨fun z => inj _ _ z, fun z => by rw [z]⟩
  unfold putK pA kvs
  rw [List.any_map, show ((fun kv : Key × V => decide (kv.1 = em c)) ∘ fun k : κ × α => (em k.1, f k.2)) = fun k => decide (k.1 = c) from funext e]
  split
  · rw [List.map_map, List.map_map]
    refine List.map_congr_left fun k _ => ?_
    show (if em k.1 = em c then (em k.1, f x) else (em k.1, f k.2)) = (fun k : κ × α => (em k.1, f k.2)) (if k.1 = c then (k.1, x) else k)
    by_cases h : k.1 = c
    · rw [if_pos h, if_pos (by rw [h])]
    · rw [if_neg h, if_neg (fun z => h (inj _ _ z))]
  · rw [List.map_append]; rfl
theorem pA_len (ks : List (κ × α)) (c : κ) (x : α) : (pA ks c x).length ≤ ks.length + 1 := by
  unfold pA
  split
  · rw [List.length_map]; omega
  · rw [List.length_append]; exact Nat.le_refl _
theorem kvs_len (em : κ → Key) (f : α → V) (ks : List (κ × α)) : (kvs em f ks).length = ks.length := List.length_map _
theorem any_mem {ks : List (κ × α)} {c : κ} : (ks.any fun k => decide (k.1 = c)) = true ↔ c ∈ ks.map (·.1) := by
  rw [List.any_eq_true, List.mem_map]
  constructor
  · rintro ⟨k, hk, e⟩; exact ⟨k, hk, of_decide_eq_true e⟩
  · rintro ⟨k, hk, e⟩; exact ⟨k, hk, decide_eq_true e⟩
theorem pA_keys (ks : List (κ × α)) (c : κ) (x : α) : (pA ks c x).map (·.1) = if c ∈ ks.map (·.1) then ks.map (·.1) else ks.map (·.1) ++ [c] := by
  unfold pA
  by_cases h : c ∈ ks.map (·.1)
  · rw [if_pos (any_mem.mpr h), if_pos h, List.map_map]
    refine List.map_congr_left fun k _ => ?_
    show (if k.1 = c then (k.1, x) else k).1 = k.1
    split <;> rfl
  · rw [if_neg (fun z => h (any_mem.mp z)), if_neg h, List.map_append]; rfl
theorem pA_ok {ks : List (κ × α)} (c : κ) (x : α) (h : kOk ks) : kOk (pA ks c x) := by
  unfold kOk at *
  rw [pA_keys]
  split
  · exact h
  · rename_i hn
    rw [List.nodup_append]
    refine ⟨h, by simp, fun a ha b hb => ?_⟩
    have hb : b = c := by simpa using hb
    rw [hb]
    intro e
    exact hn (e ▸ ha)
theorem gA_none {ks : List (κ × α)} {c : κ} : gA ks c = none ↔ c ∉ ks.map (·.1) := by
  unfold gA
  rw [Option.map_eq_none_iff, List.find?_eq_none]
  constructor
  · intro h m
    obtain ⟨k, hk, e⟩ := List.mem_map.mp m
    exact h k hk (decide_eq_true e)
  · intro h k hk e
    exact h (List.mem_map.mpr ⟨k, hk, of_decide_eq_true e⟩)
theorem gA_mem : ∀ {ks : List (κ × α)} {k : κ × α}, kOk ks → k ∈ ks → gA ks k.1 = some k.2
  | q :: r, k, h, m => by
    unfold kOk at h
    rw [List.map_cons, List.nodup_cons] at h
    unfold gA
    rw [List.find?_cons]
    rcases List.mem_cons.mp m with rfl | m
    · rw [decide_eq_true rfl]; rfl
    · by_cases e : q.1 = k.1
      · exact absurd (e ▸ List.mem_map_of_mem (f := (·.1)) m) h.1
      · rw [decide_eq_false e]
        exact gA_mem (ks := r) h.2 m
theorem gA_some {ks : List (κ × α)} {c : κ} {x : α} (h : gA ks c = some x) : (c, x) ∈ ks := by
  unfold gA at h
  rw [Option.map_eq_some_iff] at h
  obtain ⟨k, h1, rfl⟩ := h
  have h2 := List.find?_some h1
  have h3 := List.mem_of_find?_eq_some h1
  have : k.1 = c := of_decide_eq_true h2
  rw [← this]; exact h3
theorem pA_mem {ks : List (κ × α)} {c : κ} {x : α} {k : κ × α} (h : k ∈ pA ks c x) : k = (c, x) ∨ (k ∈ ks ∧ k.1 ≠ c) := by
  unfold pA at h
  split at h
  · obtain ⟨q, hq, e⟩ := List.mem_map.mp h
    by_cases hc : q.1 = c
    · rw [if_pos hc] at e; exact .inl (by rw [← e, hc])
    · rw [if_neg hc] at e; subst e; exact .inr ⟨hq, hc⟩
  · rename_i hn
    rcases List.mem_append.mp h with h | h
    · exact .inr ⟨h, fun e => hn (any_mem.mpr (List.mem_map.mpr ⟨k, h, e⟩))⟩
    · exact .inl (List.mem_singleton.mp h)
theorem gA_put {ks : List (κ × α)} (h : kOk ks) (c d : κ) (x : α) : gA (pA ks c x) d = if d = c then some x else gA ks d := by
  have h2 := pA_ok c x h
  by_cases e : d = c
  · subst e
    rw [if_pos rfl]
    have hm : d ∈ (pA ks d x).map (·.1) := by
      rw [pA_keys]; split
      · assumption
      · exact List.mem_append_right _ (List.mem_singleton.mpr rfl)
    obtain ⟨k, hk, ek⟩ := List.mem_map.mp hm
    have := gA_mem h2 hk
    rw [ek] at this
    rw [this]
    rcases pA_mem hk with e | ⟨_, e⟩
    · rw [e]
    · exact absurd ek e
  · rw [if_neg e]
    cases g : gA ks d with
    | none =>
      rw [gA_none] at g ⊢
      rw [pA_keys]
      split
      · exact g
      · intro m
        rcases List.mem_append.mp m with m | m
        · exact g m
        · exact e (List.mem_singleton.mp m)
    | some y =>
      have hm := gA_some g
      have : (d, y) ∈ pA ks c x := by
        unfold pA
        split
        · exact List.mem_map.mpr ⟨(d, y), hm, if_neg e⟩
        · exact List.mem_append_left _ hm
      exact gA_mem h2 this
theorem kvs_keys {em : κ → Key} {f : α → V} {ks : List (κ × α)} : (kvs em f ks).map (·.1) = (ks.map (·.1)).map em := by
  unfold kvs
  rw [List.map_map, List.map_map]; rfl
end
theorem inlI : ∀ a b : Int, (Sum.inl a : Key) = Sum.inl b → a = b := fun _ _ z => Sum.inl.inj z
theorem inrI : ∀ a b : Str, (Sum.inr a : Key) = Sum.inr b → a = b := fun _ _ z => Sum.inr.inj z

/-! ### data for comparisons: shape and depth -/
def Ly (k : Nat) (d : PyData) : Prop := d.canLay0 = true ∧ d.depth ≤ k
theorem ly_all {k : Nat} : ∀ {ds : List PyData}, (∀ d ∈ ds, Ly k d) → PyData.canLayAll0 ds = true ∧ PyData.depthAll ds ≤ k
  | [], _ => ⟨by simp [PyData.canLayAll0], by simp [PyData.depthAll]⟩
  | d :: r, h => by
    obtain ⟨i1, i2⟩ := ly_all fun z hz => h z (List.mem_cons_of_mem _ hz)
    obtain ⟨l1, l2⟩ := h d List.mem_cons_self
    constructor
    · rw [PyData.canLayAll0, i1, l1]; rfl
    · rw [PyData.depthAll]; omega
theorem ly_tup {k : Nat} {ds : List PyData} (h : ∀ d ∈ ds, Ly k d) : Ly (k + 1) (.tuple ds) := by
  obtain ⟨a, b⟩ := ly_all h
  exact ⟨by rw [PyData.canLay0]; exact a, by rw [PyData.depth]; omega⟩
theorem ly_lst {k : Nat} {ds : List PyData} (h : ∀ d ∈ ds, Ly k d) : Ly (k + 1) (.list ds) := by
  obtain ⟨a, b⟩ := ly_all h
  exact ⟨by rw [PyData.canLay0]; exact a, by rw [PyData.depth]; omega⟩
theorem ly_int {k : Nat} (i : Int) : Ly k (.int i) := ⟨by simp [PyData.canLay0], by simp [PyData.depth]⟩
theorem ly_non {k : Nat} : Ly k .none := ⟨by simp [PyData.canLay0], by simp [PyData.depth]⟩
theorem ly_bl {k : Nat} (b : Bool) : Ly k (.bool b) := ⟨by simp [PyData.canLay0], by simp [PyData.depth]⟩
theorem ly_str {k : Nat} {z : Str} (h : PyData.strOk z = true) : Ly k (.str z) := ⟨by simp [PyData.canLay0, h], by simp [PyData.depth]⟩
theorem Ly.mono {k j : Nat} {d : PyData} (h : Ly k d) (le : k ≤ j) : Ly j d := ⟨h.1, Nat.le_trans h.2 le⟩
theorem ly_nil {k : Nat} : ∀ d ∈ ([] : List PyData), Ly k d := fun _ m => nomatch m
theorem ly_cons {k : Nat} {d : PyData} {r : List PyData} (h : Ly k d) (hr : ∀ d ∈ r, Ly k d) : ∀ e ∈ d :: r, Ly k e := fun e m => by
  rcases List.mem_cons.mp m with rfl | m
  · exact h
  · exact hr e m
theorem ly_app {k : Nat} {r s : List PyData} (hr : ∀ d ∈ r, Ly k d) (hs : ∀ d ∈ s, Ly k d) : ∀ e ∈ r ++ s, Ly k e := fun e m => by
  rcases List.mem_append.mp m with m | m
  · exact hr e m
  · exact hs e m
theorem shpL {d : PyData} (h : Ly 20 d) : SeqAt.shaped d = true ∧ PyData.eqv d d = true := by
  refine ⟨?_, SeqAt.eqv_refl _ h.1⟩
  unfold SeqAt.shaped
  rw [h.1, decide_eq_true (by have := h.2; omega)]; rfl

theorem unlock_same {H H' : Hp} {d : Addr} {od : Obj} {u : HO} (hd : H d = some u) (s : Same (upd H d (.frz od u)) H') : Same H (upd H' d u) := fun b o e => by
  by_cases h : b = d
  · subst h; rw [upd_same]; rw [hd] at e; exact e
  · rw [upd_ne h]; exact s _ _ (by rw [upd_ne h]; exact e)
theorem tp_unlock {H' : Hp} {d : Addr} {od : Obj} {u v : HO} (hd : H' d = some (.frz od v)) : Tp H' (upd H' d u) := fun a xs e => by
  rw [upd_ne (ne_of e hd (by intro z; cases z))]; exact e
theorem tp_lockT {H : Hp} {d : Addr} {od : Obj} {kv : List (List Key × V)} {u : HO} (hd : H d = some (.dT kv)) : Tp H (upd H d u) := fun a xs e => by
  rw [upd_ne (ne_of e hd (by intro z; cases z))]; exact e

/-! ### comprehensions over a list or a range, as data -/
section
variable {K : PySem.W.Frag}
theorem filterMap_take {α β : Type} (F : α → Option β) (ds : List α) {i : Nat} {d : α} (h : ds[i]? = some d) : (ds.take (i + 1)).filterMap F = (ds.take i).filterMap F ++ (F d).toList := by
  rw [List.take_add_one, h, List.filterMap_append]
  congr 1
theorem noLs_app {xs ys : List PyData} (h1 : noLs xs = true) (h2 : noLs ys = true) : noLs (xs ++ ys) = true := noLs_all fun d hd => by
  rcases List.mem_append.mp hd with h | h
  · exact noLs_mem' h1 h
  · exact noLs_mem' h2 h
where noLs_mem' : ∀ {ds : List PyData} {d : PyData}, noLs ds = true → d ∈ ds → noL d = true
  | e :: r, d, h, m => by
    have h : (noL e && noLs r) = true := h
    rw [Bool.and_eq_true] at h
    rcases List.mem_cons.mp m with rfl | m
    · exact h.1
    · exact noLs_mem' h.2 m
/-- over a walk whose items are told by P -/
theorem lc_walk {α : Type} {J : It} {n : Nat} {G : Hp → Prop} {Y : Nat → Hp → V → Hp → Prop} (w : Walk J n G Y) {g : TG} {tt : TT} {te : TE} {vs : List Nat} {σ : L2.St} {H1 : Hp} {D : Addr} {Qd : Hp → Prop} (hD : H1 D = none) (ds : List α) (hl : ds.length = n) (hn : n ≤ 100000) (F : α → Option PyData)
    (hF : ∀ d e, d ∈ ds → F d = some e → noL e = true)
    (hG : ∀ H', Same H1 H' → G H') (hY : ∀ i H x H', Y i H x H' → H' = H)
    (hs : ∀ i x d H7, i < n → ds[i]? = some d → Same H1 H7 → Y i H7 x H7 → ∀ (R : V → Hp → Prop) (R0 : Hp → Prop), (∀ e, F d = some e → ∀ y H8, Same H7 H8 → Dt K H8 none y e → R y H8) → (F d = none → ∀ H8, Same H7 H8 → R0 H8) →
      g x (wipe σ vs) H7 fun σ2 H2 => wipe σ2 vs = wipe σ vs ∧ tt σ2 H2 fun b H3 => if b = true then te σ2 H3 R else R0 H3)
    (hd : ∀ H' xs', Same H1 H' → H' D = some (.lst xs') → DtAll K H' none xs' (ds.filterMap F) → Qd H') :
    ∃ W : Nat → Nat → Hp → Prop, (∃ m, W 0 m (upd H1 D (.lst []))) ∧ ∀ i m H, W i m H →
      (J.stop i H ∧ Qd H) ∨ (J.go i H ∧ ∃ Nx : Hp → Prop, (∀ H', Nx H' → ∃ m', m' < m ∧ W (i + 1) m' H') ∧ ∀ x H', J.yld i H x H' → g x (wipe σ vs) H' fun σ2 H2 => wipe σ2 vs = wipe σ vs ∧ tt σ2 H2 fun b H3 =>
        if b = true then te σ2 H3 fun y H4 => ∃ acc, H4 D = some (.lst acc) ∧ acc.length < sizeLine ∧ Nx (upd H4 D (.lst (acc ++ [y]))) else Nx H3) := by
  refine lc_it w (Pv := fun i H' => ∃ xs', Same H1 H' ∧ H' D = some (.lst xs') ∧ DtAll K H' none xs' ((ds.take i).filterMap F)) ⟨[], same_upd hD, upd_same, .nil⟩ (fun i H _ h => by obtain ⟨_, h, _⟩ := h; exact hG _ h) (fun i x H6 H7 hi hp hy => ?_) (fun H6 hp => ?_)
  · obtain ⟨xs', s6, hD6, hx6⟩ := hp
    obtain rfl := hY i H6 x H7 hy
    obtain ⟨d, gd⟩ : ∃ d, ds[i]? = some d := ⟨_, List.getElem?_eq_getElem (by omega)⟩
    have hx7 := filterMap_take F ds gd
    have hnl : noLs ((ds.take i).filterMap F) = true := noLs_all fun e he => by
      obtain ⟨d', hd', e'⟩ := List.mem_filterMap.mp he
      exact hF d' e (List.mem_of_mem_take hd') e'
    have hll : xs'.length ≤ i := by
      rw [hx6.length]
      have := List.length_filterMap_le F (ds.take i)
      rw [List.length_take] at this
      omega
    refine hs i x d H7 hi gd s6 hy _ _ (fun e he y H8 s8 hdy => ?_) (fun he H8 s8 => ?_)
    · have hD8 := s8 _ _ hD6
      refine ⟨xs', hD8, sz1000' (by omega), xs' ++ [y], same_mut (s6.trans s8) hD, upd_same, ?_⟩
      rw [hx7, he]
      have hne := hF d e (List.mem_of_getElem? gd) he
      exact DtAll.keep (A := none) (tp_put hD8) _ _ (noLs_app hnl (by show (noL e && true) = true; rw [hne]; rfl)) ((hx6.on s8).snoc hdy)
    · refine ⟨xs', s6.trans s8, s8 _ _ hD6, ?_⟩
      rw [hx7, he]
      show DtAll K H8 none xs' (_ ++ [])
      rw [List.append_nil]
      exact hx6.on s8
  · obtain ⟨xs', s6, hD6, hx6⟩ := hp
    rw [List.take_of_length_le (by omega)] at hx6
    exact hd _ _ s6 hD6 hx6
/-- over a list of data -/
theorem lc_list_dt {g : TG} {tt : TT} {te : TE} {vs : List Nat} {σ : L2.St} {H1 : Hp} {D a : Addr} {xs : List V} {ds : List PyData} {Qd : Hp → Prop} (hD : H1 D = none) (hq : SqL K H1 a xs) (hx : DtAll K H1 none xs ds) (hn : xs.length ≤ 100000) (F : PyData → Option PyData)
    (hF : ∀ d e, d ∈ ds → F d = some e → noL e = true)
    (hs : ∀ x d H7, d ∈ ds → Same H1 H7 → Dt K H7 none x d → ∀ (R : V → Hp → Prop) (R0 : Hp → Prop), (∀ e, F d = some e → ∀ y H8, Same H7 H8 → Dt K H8 none y e → R y H8) → (F d = none → ∀ H8, Same H7 H8 → R0 H8) →
      g x (wipe σ vs) H7 fun σ2 H2 => wipe σ2 vs = wipe σ vs ∧ tt σ2 H2 fun b H3 => if b = true then te σ2 H3 R else R0 H3)
    (hd : ∀ H' xs', Same H1 H' → H' D = some (.lst xs') → DtAll K H' none xs' (ds.filterMap F) → Qd H') :
    ∃ W : Nat → Nat → Hp → Prop, (∃ m, W 0 m (upd H1 D (.lst []))) ∧ ∀ i m H, W i m H →
      ((Itl K a).stop i H ∧ Qd H) ∨ ((Itl K a).go i H ∧ ∃ Nx : Hp → Prop, (∀ H', Nx H' → ∃ m', m' < m ∧ W (i + 1) m' H') ∧ ∀ x H', (Itl K a).yld i H x H' → g x (wipe σ vs) H' fun σ2 H2 => wipe σ2 vs = wipe σ vs ∧ tt σ2 H2 fun b H3 =>
        if b = true then te σ2 H3 fun y H4 => ∃ acc, H4 D = some (.lst acc) ∧ acc.length < sizeLine ∧ Nx (upd H4 D (.lst (acc ++ [y]))) else Nx H3) :=
  lc_walk (K := K) walk_list hD ds hx.length.symm hn F hF (fun _ s => s.seq hq) (fun _ _ _ _ y => y.1) (fun i x d H7 hi gd s7 hy R R0 => hs x d H7 (List.mem_of_getElem? gd) s7 (by
    obtain ⟨d', g', hd'⟩ := hx.get hy.2
    rw [gd] at g'
    cases g'
    exact hd'.on s7) R R0) hd
/-- over a range -/
theorem lc_range_dt {g : TG} {tt : TT} {te : TE} {vs : List Nat} {σ : L2.St} {H1 : Hp} {D : Addr} {lo : Int} {n : Nat} {Qd : Hp → Prop} (hD : H1 D = none) (hn : n ≤ 100000) (F : Nat → Option PyData)
    (hF : ∀ d e, d < n → F d = some e → noL e = true)
    (hs : ∀ i H7, i < n → Same H1 H7 → ∀ (R : V → Hp → Prop) (R0 : Hp → Prop), (∀ e, F i = some e → ∀ y H8, Same H7 H8 → Dt K H8 none y e → R y H8) → (F i = none → ∀ H8, Same H7 H8 → R0 H8) →
      g (.int (lo + i)) (wipe σ vs) H7 fun σ2 H2 => wipe σ2 vs = wipe σ vs ∧ tt σ2 H2 fun b H3 => if b = true then te σ2 H3 R else R0 H3)
    (hd : ∀ H' xs', Same H1 H' → H' D = some (.lst xs') → DtAll K H' none xs' ((List.range n).filterMap F) → Qd H') :
    ∃ W : Nat → Nat → Hp → Prop, (∃ m, W 0 m (upd H1 D (.lst []))) ∧ ∀ i m H, W i m H →
      ((Itr lo n).stop i H ∧ Qd H) ∨ ((Itr lo n).go i H ∧ ∃ Nx : Hp → Prop, (∀ H', Nx H' → ∃ m', m' < m ∧ W (i + 1) m' H') ∧ ∀ x H', (Itr lo n).yld i H x H' → g x (wipe σ vs) H' fun σ2 H2 => wipe σ2 vs = wipe σ vs ∧ tt σ2 H2 fun b H3 =>
        if b = true then te σ2 H3 fun y H4 => ∃ acc, H4 D = some (.lst acc) ∧ acc.length < sizeLine ∧ Nx (upd H4 D (.lst (acc ++ [y]))) else Nx H3) :=
  lc_walk (K := K) walk_range hD (List.range n) List.length_range hn F (fun d e hd he => hF d e (List.mem_range.mp hd) he) (fun _ _ => trivial) (fun _ _ _ _ y => y.1) (fun i x d H7 hi gd s7 hy R R0 h1 h2 => by
    obtain ⟨_, rfl⟩ := hy
    rw [List.getElem?_range hi] at gd
    cases gd
    exact hs i H7 hi s7 R R0 h1 h2) hd
end

section
open Calls
theorem kbm {X : Cx} {K : PySem.W.Frag} {T : String} {name : Str} {id : String} {r : V → List V → Hp → VK → Prop} {to : TE} {t : TA} {o e : Expr} {es : List Expr} {apos cpos : Pos} (pa : PlainAttrs T) (slot : Slot T name id) (hty : typeOf (.builtin id) = pure (.type "method_descriptor")) (hm : MtR X id r) (ho : PE X o to) (ha : PA X (e :: es) t)
    (hbase : attributeBase o name X.env (eval o X.env) = eval o X.env := by rfl)
    (hfew : ((backTo cpos (starEach (e :: es) X.env)).all (fun x => !x.1) && (backToKw cpos (keywordEach [] X.env)).all (fun x => x.1.isSome)
      && decide ((e :: es).length + ([] : List Keyword).length + (if ([] : List Keyword).isEmpty then 0 else 1) < 30)) = true := by rfl)
    (hline : (apos.endLine == cpos.line) = true := by rfl) (hs : starEach (e :: es) X.env = (false, eval e X.env) :: starEach es X.env := by rfl) (hplain : (backTo cpos (starEach es X.env)).any (·.1) = false := by rfl) (hK : X.K = K := by rfl) :
    PE X (.Call (.Attribute o name apos) (e :: es) [] cpos) (tBM K T r to t) := by
  subst hK
  exact pe_bm pa slot hty hm ho ha hbase hfew hline hs hplain
end

/-! ### list(d.values()).count(x): rules -/
section
variable {X : Cx}
theorem mt_dvals : MtR X "dict.values" (fun x xs H Q => ∃ (a : Addr) (kvs : List (Key × V)), x = .ref a ∧ xs = [] ∧ H a = some (.dK kvs) ∧ ∀ p, H p = none → Q (.ref p) (upd H p (viewO "dict_values" p a))) := by
  intro pins s σ H x xs v us Q I rx rxs h
  obtain ⟨a, kvs, rfl, rfl, ha, q⟩ := h
  cases rx
  cases rxs
  obtain ⟨_, hsys, vs, rel, dof⟩ := dk_of I.hok ha
  obtain ⟨ep, dat⟩ := dof.dictAt
  have dat' := dat
  obtain ⟨ob, es, ho, ex, hdat, hko, hpr, hnd⟩ := dat'
  refine call_meetsIn F.slot_dict_values ⟨ob, ho, ex.1⟩ F.entry_dict_values (F.args_dict_values_1 _) (meets_dict_values (mixKind X.prog X.w) a hsys) ⟨⟨vs, dof⟩, ?_⟩
  exact ⟨.ref s.heap.objs.size, _, I.laid (t' := s.toks) (fun b o q => Heap.get?_push_of_some _ q) (Nat.le_refl _) (viewO_ok (Heap.get?_push_size _ rfl)), rfl, q _ (I.hok.fresh (Nat.le_refl _))⟩
theorem call_listVals (hcalm : X.calm = true) : CallR X (.type "list") (fun xs H Q => ∃ (p a : Addr) (kvs : List (Key × V)), xs = [.ref p] ∧ H p = some (viewO "dict_values" p a) ∧ H a = some (.dK kvs) ∧ ∀ l, H l = none → Q (.ref l) (upd H l (.lst (kvs.map (·.2))))) := by
  intro pins s σ H xs us Q I r q
  obtain ⟨p, a, kvs, ex, hp, hd, q⟩ := q
  subst ex
  obtain ⟨u, eu, rx⟩ := vals1 r
  subst eu
  cases rx
  obtain ⟨z, lo, vs, rel, dd⟩ := dk_of I.hok hd
  obtain ⟨ep, hat⟩ := dd.dictAt
  have hv : s.heap.get? p = some (DSub.viewOb "dict_values" a) := (show ObjOk X.prog X.w H s.heap p (viewO "dict_values" p a) from I.hok p _ hp).1
  refine PySem.W.kdl_call (PySem.W.kdl_values (knd := mixKind X.prog X.w) (kvs := vs) (ep := ep)) (I.ok.hd hcalm) ⟨⟨_, hv, rfl, rfl⟩, hat⟩ (by rw [← rel.length]; exact z) fun h' tk acc c' hk hD hacc => ?_
  have hvv : Vals (kvs.map (·.2)) acc.toList := vals_of_at (by have e1 := hacc.1; have e2 := rel.length; rw [List.length_map, Array.length_toList]; exact e2.trans e1.symm) fun j x u hx hu => by
    obtain ⟨k, hk⟩ := hacc.2 j u (by rw [← Array.getElem?_toList]; exact hu)
    obtain ⟨y, h1, h2⟩ := KV.at' rel hk
    rw [List.getElem?_map, h1] at hx
    cases hx
    exact h2
  exact ⟨.ref s.heap.objs.size, upd H s.heap.objs.size (.lst (kvs.map (·.2))), I.laid (t' := tk) hk (Nat.le_refl _)
    (show ObjOk X.prog X.w _ _ _ (.lst (kvs.map (·.2))) from ⟨by rw [List.length_map]; exact z, acc.toList, c', hvv, by rw [Array.toArray_toList]; exact hD⟩), rfl, q _ (I.hok.fresh (Nat.le_refl _))⟩
def rCountD (K : PySem.W.Frag) : V → List V → Hp → VK → Prop := fun x xs H Q => ∃ (a : Addr) (y : V) (d : PyData) (ds : List PyData), x = V.ref a ∧ xs = [y] ∧ Dp K H (V.ref a) (.list ds) ∧ Dp K H y d ∧
  SeqAt.shaped (.list ds) = true ∧ SeqAt.shaped d = true ∧ Q (.int ((ds.countP fun z => PyData.eqv z d : Nat) : Int)) H
theorem mt_lcountD (hu : X.A.units + 65 < cLine) : MtR X "list.count" (rCountD X.K) := by
  intro pins s σ H x xs v us Q I rx rxs h
  obtain ⟨a, y, d, ds, rfl, rfl, hl, hy, sl, sd, q⟩ := h
  cases rx
  cases rxs with
  | cons ry rt =>
    rename_i uy ut
    cases rt
    obtain ⟨bs, r1⟩ := Dp.reads I d y uy hy ry
    have hxs : PyData.canLayAll0 ds = true := SeqAt.canLay_of_shaped sl
    have hroom : X.A.units + 1 + min (PyData.depthAll ds) d.depth < cLine := room_in_shaped sd hu
    cases hl with
    | lst hs ha =>
      obtain ⟨its, rv, ⟨⟨cls, dd, data, sls⟩, n, ho, hc, hdn, hdt⟩, hlen⟩ := I.list hs
      simp only at hc hdt
      subst hc hdt
      obtain ⟨as, h4⟩ := Dp.readsAll I ds _ its ha rv
      have hmap : its.map (SeqAt.readOf s.heap) = ds := SeqAt.readsAll_map ds its as hxs h4
      refine call_meets PySem.F.slot_list_count ⟨_, ho, rfl⟩ PySem.F.entry_list_count (PySem.F.args_list_count_2 _ _)
        (SeqAt.list_countAt a its.toArray n dd sls uy (fun u => PyData.eqv (SeqAt.readOf s.heap u) d)) ⟨ho, SeqAt.items_eqAt (vs := its.toArray) (show ReadsAll s.heap its.toArray.toList ds as from h4) r1 hxs (SeqAt.canLay_of_shaped sd) hroom, ?_⟩
      have ec : its.toArray.toList.countP (fun u => PyData.eqv (SeqAt.readOf s.heap u) d) = ds.countP fun z => PyData.eqv z d := by
        rw [← hmap, List.countP_map]; rfl
      refine ⟨.int ((ds.countP fun z => PyData.eqv z d : Nat) : Int), H, I.tok _, ⟨s.toks, ?_⟩, q⟩
      show Value.int ((its.toArray.toList.countP (fun u => PyData.eqv (SeqAt.readOf s.heap u) d) : Nat) : Int) s.toks = Value.int _ s.toks
      rw [ec]
end

/-! ### all but some addresses stand -/
def But (S : List Addr) (H H' : Hp) : Prop := ∀ b o, b ∉ S → H b = some o → H' b = some o
theorem Same.but {S : List Addr} {H H' : Hp} (s : Same H H') : But S H H' := fun b o _ h => s b o h
theorem But.trans {S : List Addr} {H H1 H2 : Hp} (a : But S H H1) (b : But S H1 H2) : But S H H2 := fun c o n h => b c o n (a c o n h)
theorem but_upd {S : List Addr} {a : Addr} {o : HO} {H : Hp} (h : a ∈ S) : But S H (upd H a o) := fun b u n e => by
  rw [upd_ne (fun z => n (by rw [z]; exact h))]; exact e
theorem tp_upd {H : Hp} {a : Addr} {o u : HO} (e : H a = some u) (n : ∀ xs, u ≠ .tup xs) : Tp H (upd H a o) := fun b xs f => by
  rw [upd_ne (fun z => by rw [z, e] at f; exact n xs (Option.some.inj f))]; exact f

/-! ### sorted(d), d a dict with text keys, of any length -/
def sortS (ks : List Str) : List Str := ks.mergeSort (PySem.W.dataLe false PyData.str)
theorem sortS_perm (ks : List Str) : (sortS ks).Perm ks := List.mergeSort_perm ks _
theorem sortS_len (ks : List Str) : (sortS ks).length = ks.length := (sortS_perm ks).length_eq
section
open PySem.W PyProof.Rows
theorem each_of_strs {us : List Value} {ks : List Str} (h : StrsAre us ks) : EachIs (fun v x => ∃ t, v = .str x t) us ks := by
  induction h with
  | nil => exact .nil
  | cons y t _ ih => exact .cons ⟨_, rfl⟩ ih
end
section
open PySem.W PyProof.Rows
variable {X : Cx}
theorem vals_strs : ∀ {us : List Value} {ks : List Str}, EachIs (fun v x => ∃ t, v = .str x t) us ks → Vals (ks.map V.str) us
  | _, _, .nil => .nil
  | _, _, .cons ⟨t, h1⟩ r => .cons ⟨t, h1⟩ (vals_strs r)
theorem call_sortedDS (hcalm : X.calm = true) (hu : X.A.units + 65 < cLine) : CallR X (.builtin "sorted") (fun xs H Q => ∃ (a : Addr) (kvs : List (Key × V)) (ks : List Str), xs = [.ref a] ∧ Rd H a (.dK kvs) ∧ kvs.map (·.1) = ks.map Sum.inr ∧ ks.length ≤ 100000 ∧
    ∀ p, H p = none → Q (.ref p) (upd H p (.lst ((sortS ks).map V.str)))) := by
  intro pins s σ H xs us Q I r q
  obtain ⟨a, kvs, ks, ex, hd, hks, h64, q⟩ := q
  subst ex
  obtain ⟨u, eu, rx⟩ := vals1 r
  subst eu
  cases rx
  obtain ⟨z, lo, vs, rel, dd⟩ := dk_rd I.hok hd
  obtain ⟨ep, hat⟩ := dd.dictAt
  have hkeys : vs.map (·.1) = ks.map Sum.inr := rel.keys.symm.trans hks
  have hl : vs.length = ks.length := by
    have e := congrArg List.length hkeys
    rw [List.length_map, List.length_map] at e
    exact e
  have h16 : vs.length ≤ sizeLine := by rw [hl]; exact sz1000 h64
  refine Calls.call_function_entry PyProof.Rows.kind_sorted PyProof.Rows.plain_sorted PyProof.Rows.entry_sorted (PyProof.Rows.args_sorted1 _) ?_
  unfold Builtin.«sorted»
  refine wpAny_bind (m := checkCount "sorted" 1 1 _) (wpAny_pure ?_)
  refine wpAny_bind (PySem.W.kdu_collect (A := X.A.in1) (PySem.W.kdl_dict (knd := mixKind X.prog X.w) (kvs := vs) (ep := ep) lo) (I.ok.hd hcalm) hat h16 fun h' tk acc hk hacc => ?_)
  have hal : acc.toList.length = ks.length := by rw [Array.length_toList, hacc.1, hl]
  have hS : StrsAre acc.toList ks := strs_at hal fun j v e => by
    obtain ⟨k, x, e1, e2⟩ := hacc.2 j v (by rw [← Array.getElem?_toList]; exact e)
    have e3 : (vs.map (·.1))[j]? = some k := by rw [List.getElem?_map, e1]; all_goals rfl
    rw [hkeys, List.getElem?_map] at e3
    cases e4 : ks[j]? with
    | none => rw [e4] at e3; cases e3
    | some y =>
      rw [e4] at e3
      have e5 : Sum.inr y = k := Option.some.inj e3
      subst e5
      obtain ⟨t, ev⟩ := Value.isStrOf_shape (x := y) (v := v) e2
      exact ⟨y, t, rfl, ev⟩
  have I1 : Inv X pins σ H { s with heap := h', toks := tk } := I.kept hk
  refine wpAny_bind (wpAny_newList ?_ (by rw [hal]; exact sz1000 h64))
  have hoL : (h'.push (seqObj "list" acc.toList.toArray 0)).get? h'.objs.size = some (seqObj "list" acc.toList.toArray 0) := Heap.get?_push_size _ rfl
  show wpAny _ _ _ _ _ { s with heap := h'.push (seqObj "list" acc.toList.toArray 0), toks := tk }
  have eS := each_of_strs hS
  refine wpAny_bind (wpAny_holding (list_sort_data (A := X.A.in1) (s := { s with heap := h'.push (seqObj "list" acc.toList.toArray 0), toks := tk }) (R := fun v x => ∃ t, v = .str x t) (enc := PyData.str) hoL eS (eS.mono fun v b h => by obtain ⟨t, e⟩ := h; exact ⟨[], by rw [e]; exact .str _ _, by simp⟩) (AllAlike.of fun b b' => by simp [alike]) (Sortable.others fun b => ⟨(by intro z; cases z), (by intro xs z; cases z)⟩) (sz1000 h64) (fun b _ => by show X.A.units + 1 + 1 + _ < _; simp only [PyData.depth]; omega) fun out ho eo => ?_))
  obtain ⟨e', he'⟩ := PyProof.Rows.sortedHeap_at (vs := acc.toList) (out := out.toArray) hoL
  have hlen : ((sortS ks).map V.str).length ≤ sizeLine := by
    rw [List.length_map, sortS_len]
    exact sz1000 h64
  refine wpAny_pure ⟨_, rfl, .ref h'.objs.size, upd H h'.objs.size (.lst ((sortS ks).map V.str)), I1.laid (t' := tk) (fun b u e => ?_) (Nat.le_refl _)
    (show ObjOk X.prog X.w _ _ _ (.lst ((sortS ks).map V.str)) from ⟨hlen, out, e', vals_strs eo, he'⟩), rfl, q _ (I1.hok.fresh (Nat.le_refl _))⟩
  have hb : b < h'.objs.size := Heap.lt_size e
  rw [PyProof.Rows.sortedHeap_old (Nat.ne_of_lt hb) (by rw [size_push']; exact Nat.lt_succ_of_lt hb)]
  exact Heap.get?_push_of_some _ e
end

/-! ### Refused(reason) -/
def spInit1 (C : Addr) (f : Str) : Sp := fun vs H Q _ => ∃ (a : Addr) (r : V), vs = [.ref a, r] ∧ H a = some (exo a C none) ∧
  ∀ d, H d = none → d ≠ a → Q .non (upd (upd H d (exd d [(f, r)])) a (exo a C (some d)))
theorem mk_one {C : Addr} {f : Str} {H1 : Hp} {Q : XK} {r : V} (q : ∀ H' d, Same H1 H' → H1 d = none → H' d = some (.xd [(f, r)]) → Q (.ref C) (some d) H') :
    ([r] : List V).length ≤ 1000 ∧ ∀ a, H1 a = none → spInit1 C f (.ref a :: ([r] ++ [])) (upd H1 a (exo a C none)) (fun v H2 => v = .non ∧ ∃ (d : Addr) (fs : List (Str × V)), H2 a = some (exo a C (some d)) ∧ H2 d = some (exd d fs) ∧ H1 d = none ∧ Q (.ref C) (some d) (upd (del H2 a) d (.xd fs))) (fun _ _ _ => False) := by
  refine ⟨by show 1 ≤ 1000; decide, fun a ha => ⟨a, r, rfl, upd_same, fun d hd hne => ⟨rfl, d, [(f, r)], upd_same, ?_, ?_, q _ d ?_ ?_ upd_same⟩⟩⟩
  · rw [upd_ne hne]; exact upd_same
  · rw [upd_ne hne] at hd; exact hd
  · intro b o e
    have hb : b ≠ d := fun z => by rw [z] at e; rw [upd_ne hne] at hd; rw [hd] at e; cases e
    have hba : b ≠ a := fun z => by rw [z, ha] at e; cases e
    rw [upd_ne hb, del_ne hba, upd_ne hba, upd_ne hb, upd_ne hba]
    exact e
  · rw [upd_ne hne] at hd; exact hd
/-- Refused(r) is raised -/
def Rz (B : Addr) (H : Hp) (E : XK) (r : Str) : Prop := ∀ H' d, Same H H' → H' d = some (.xd [("reason", .str r)]) → E (.ref B) (some d) H'
theorem Rz.on {B : Addr} {H H1 : Hp} {E : XK} {r : Str} (h : Rz B H E r) (s : Same H H1) : Rz B H1 E r := fun H' d s' e => h H' d (s.trans s') e
section
variable {P : Program} {w : World} {K : PySem.W.Frag} {mg : Str → Option Value} {base : Heap}
theorem i_Refused {C_Accounts : Addr} {C_LedgerError : Addr} {C_Refused : Addr} (T : Txt K mg C_Accounts C_LedgerError C_Refused) : ExMk P w K mg base 1 "Refused" C_Refused (spInit1 C_Refused "reason") := by
  refine exmk T.x_Refused T.ei_Refused sc_Refused____init__ (fun vs H Q E h => ?_) (fun f cdv A' outer s H vs Q E hr h => ?_)
  · obtain ⟨a, r, rfl, _⟩ := h; rfl
  obtain ⟨a, r, rfl, ha, q⟩ := h
  refine ⟨_, (pss_one (ps_ost (pv 0) (pv 1))), ?_⟩
  walk_at "rds"
  refine ⟨a, C_Refused, rfl, T.x_Refused.ox, T.xn_Refused_reason, .inl ⟨ha, fun d hd hne => ?_⟩⟩
  exact q d hd hne
end

/-! ### isinstance(e, C), e an own exception with fields -/
section
open PySem.W PySem.Calls
variable {prog : Program} {w : World} {A : Around} {E : Value → Shared → Prop} {s : Shared} {K : PySem.W.Frag} {x D : Addr} {ox : Obj} {od : Option Obj}
theorem findObj_dataO {C : Addr} {name : Str} {a g : Value} (hc : (clsIn K C).isSome = true) (ha : findIn K (.ref C) name = some (some a)) (hg : specialIn K a "__get__" = some (some g)) (ht : takesIn K a = some true) : findObj K C od name = some (.bind g a) := by
  obtain ⟨cd, hc⟩ := Option.isSome_iff_exists.mp hc
  unfold findObj
  rw [hc, Option.bind_some, ha, Option.bind_some]
  simp [hg, ht]
theorem kin_classD {Q : Option Value → Shared → Prop} (hga : findIn K (.ref D) "__getattribute__" = some (some (.builtin "BaseException.__getattribute__"))) (hgt : findIn K (.ref D) "__getattr__" = some none) (hsub : subIn K (.ref D) (.type "BaseException") = some true)
    (hdct : hasDictIn K D = true) (ha : findIn K (.ref D) "__class__" = some (some (.builtin "object.__class__")))
    (hn : specialIn K (.builtin "object.__class__") "__get__" = some (some (.builtin "getset_descriptor.__get__"))) (htk : takesIn K (.builtin "object.__class__") = some true) (hm : mroIn K D (.type "object") = some true)
    (X : K.In s.heap) (I : InstAt s.heap x ox D od) (h : Q (some (.ref D)) { s with toks := s.toks + 1 }) : wpAny (model prog w) A (getAttr? (.ref x) "__class__") Q E s := by
  have hf : findObj K D od "__class__" = some (.bind (.builtin "getset_descriptor.__get__") (.builtin "object.__class__")) := findObj_dataO (by obtain ⟨cd, hc, _⟩ := any_some hdct; rw [hc]; rfl) ha hn htk
  obtain ⟨hp, g, d, t, os⟩ := s
  have L0 := I.type (M := model prog w)
  have L1 := looks_findIn (M := model prog w) X hga
  have L2 := looks_findIn (M := model prog w) X hgt
  have L3 := looks_find (M := model prog w) X I hf
  have sub : Looks (model prog w) hp (isInstance (.ref x) (.type "BaseException")) true := L0.andThen (looks_subIn X hsub)
  have hx0 : (false && onTheHeap (Value.builtin "BaseException.__getattribute__")) = false := rfl
  have hx2 : (Value.builtin "BaseException.__getattribute__" == Value.builtin "object.__getattribute__") = false := by decide +kernel
  have hx1 : (onTheHeap (Value.ref D) && Value.builtin "BaseException.__getattribute__" == Value.builtin "object.__getattribute__") = false := by rw [hx2]; rfl
  unfold getAttr? getAttrBy? getAttrBy
  refine wpAny_bind (wpAny_mkText (wpAny_bind (wpAny_attempt (wpAny_holding (wpAny_bind (L0.at (wpAny_bind (L1.at ?_))))))))
  show wpAny _ _ (if (onTheHeap (Value.ref D) && Value.builtin "BaseException.__getattribute__" == Value.builtin "object.__getattribute__") = true then _ else _) _ _ _
  rw [hx1, if_neg Bool.false_ne_true]
  unfold getAttrByItsOwn hookBefore
  refine wpAny_bind ?_
  rw [if_pos (show onTheHeap (Value.ref D) = true from rfl)]
  refine L2.at ?_
  refine wpAny_bind (wpAny_attempt (wpAny_holding ?_))
  unfold callGetattribute
  rw [hx0, if_neg Bool.false_ne_true]
  unfold boundAndCalled
  rw [PySem.F.excAttr_ValueError.ga.bind (.ref x)]
  refine wpAny_bind (wpAny_pure ?_)
  show wpAny _ _ (call (.builtin "BaseException.__getattribute__") [.ref x, .str "__class__" t]) _ _ _
  refine wpAny_call (codeAny_call_builtin PySem.F.excAttr_ValueError.ga.plain PySem.F.entry_bexc_ga ?_)
  refine @check_slot (model prog w) _ _ ⟨hp, g, d, t + 1, os⟩ "BaseException.__getattribute__" "BaseException" "__getattribute__" (.ref x) [.str "__class__" t] [] _ (by decide +kernel) (by decide +kernel) sub (PySem.F.args_bexc_ga (.ref x) (.str "__class__" t)) ?_
  unfold Builtin.«object.__getattribute__»
  refine wpAny_bind (wpAny_of_eq (a := ((Value.ref x : Value), [Value.str "__class__" t])) (by first | rfl | (simp only [slotArgs]; rfl)) ?_)
  refine wpAny_bind (wpAny_pure (wpAny_bind (L0.at (wpAny_bind (L3.at ?_)))))
  show wpAny _ _ (holding [Value.builtin "object.__class__"] (call (.builtin "getset_descriptor.__get__") [.builtin "object.__class__", .ref x, .ref D]) >>= ret) _ _ _
  refine wpAny_bind (wpAny_holding (wpAny_call (class_get (s := ⟨hp, g, d, t + 1, os⟩) (ox := ox) (od := od) X I hm ?_)))
  refine wpAny_pure ?_
  show wpAny _ _ (handedOut (.ref D)) _ _ _
  rw [handedOut_of (v := .ref D) rfl]
  first
    | exact wpAny_pure (wpAny_pure h)
    | exact wpAny_pure h
    | exact wpAny_pure (wpAny_bind (wpAny_pure (wpAny_pure h)))
theorem kitx_excD (hga : findIn K (.ref D) "__getattribute__" = some (some (.builtin "BaseException.__getattribute__"))) (hgt : findIn K (.ref D) "__getattr__" = some none) (hsub : subIn K (.ref D) (.type "BaseException") = some true) (hdct : hasDictIn K D = true) (ha : findIn K (.ref D) "__class__" = some (some (.builtin "object.__class__")))
    (hn : specialIn K (.builtin "object.__class__") "__get__" = some (some (.builtin "getset_descriptor.__get__"))) (htk : takesIn K (.builtin "object.__class__") = some true) (hm : mroIn K D (.type "object") = some true) :
    KitX K (.ref x) (.ref D) (fun h => ∃ od, InstAt h x ox D od) where
  ty := fun _ _ _ ⟨_, I⟩ => I.type
  it := fun _ _ X _ => by
    obtain ⟨cdD, hcD, _⟩ := any_some hdct
    unfold clsIn at hcD
    split at hcD
    · rename_i c' d' cd' sl' ho
      intro A' Q' E' s' k q
      unfold isType loadHead
      exact wpAny_bind (wpAny_loadPart (k _ _ (X _ _ ho)) (wpAny_pure q))
    · cases hcD
  ne := fun h tp dd its n sl X htp => by
    obtain ⟨cdD, hcD, _⟩ := any_some hdct
    refine Bool.eq_false_iff.mpr fun q => ?_
    have e : D = tp := Value.ref.inj (beq_iff_eq.mp q)
    subst e
    unfold clsIn at hcD
    split at hcD
    · rename_i c' d' cd' sl' ho
      have z := (X _ _ ho).symm.trans htp
      cases z
    · cases hcD
  ca := fun X ⟨_, I⟩ k => kin_classD hga hgt hsub hdct ha hn htk hm X I k
end
theorem call_isED {X : Cx} {a D : Addr} {cls : Value} {d : Option Addr} {oe : Obj} {pn : List (Addr × Obj)} (C : ExcC X.K D) (hz : Zc cls d oe) (hf : ∃ vs, oe.data = .fields vs) :
    CallR (X.suite a ((a, oe) :: pn)) (.builtin "isinstance") (fun xs H Q => (cls = .ref D ∧ ∃ dx fs, d = some dx ∧ H dx = some (.xd fs)) ∧ rIsE X.K D a xs H Q) := by
  intro pins s σ H xs us Q I r hh
  obtain ⟨⟨h1, dx, fs, h2, hdx⟩, c, cv, b, rfl, hcv, e, q⟩ := hh
  subst h1 h2
  cases r with
  | cons rx rr =>
    cases rr with
    | cons rt rr =>
      cases rr
      cases rx
      have ec := hcv _ rt
      subst ec
      obtain ⟨hget, _⟩ := I.pin (a, oe) (List.mem_append.mpr (.inl List.mem_cons_self))
      obtain ⟨vs, hv⟩ := hf
      obtain ⟨mA, ⟨o, es, ep, ho, hd, hk, hu, hn⟩, _⟩ := (I.hok dx _ hdx : ∃ mA, s.heap.Ns1 dx mA ∧ ∀ f, RelO (fs.lookup f) (mA f))
      have J : ∃ od, PySem.W.InstAt s.heap a oe D od := by
        obtain ⟨oc, od, oda, osl⟩ := oe
        obtain ⟨h1, h2⟩ := hz
        dsimp only at h1 h2 hv
        subst h1 h2 hv
        exact ⟨some o, hget, rfl, rfl, ho⟩
      exact PySem.W.kia_one (kitx_excD C.hg C.hk C.hs C.hd C.ha C.hn C.ht C.hm) I.kIn J e (fun z => nomatch z) fun tk => ⟨.bl b, H, I.kept (t' := tk) fun _ _ z => z, rfl, q⟩

/-! ### accounts -/
abbrev AB := List (Str × (Int × Int))
abbrev HS := List (Str × (Str × Str × Int))
abbrev HE := List (Str × (Addr × (Str × Str × Int)))
def aowD (ac : AB) : List (Key × V) := kvs Sum.inr (fun x => V.int x.1) ac
def baD (ac : AB) : List (Key × V) := kvs Sum.inr (fun x => V.int x.2) ac
def hoD (he : HE) : List (Key × V) := kvs Sum.inr (fun x => V.ref x.1) he
def hsOf (he : HE) : HS := he.map fun e => (e.1, e.2.2)
def holdV (x : Str × Str × Int) : List V := [.str x.1, .str x.2.1, .int x.2.2]
def rmA {κ α : Type} [DecidableEq κ] (ks : List (κ × α)) (c : κ) : List (κ × α) := ks.filter fun k => decide (k.1 ≠ c)
theorem dropK_rmA {κ α : Type} [DecidableEq κ] {em : κ → Key} (inj : ∀ a b, em a = em b → a = b) (f : α → V) (ks : List (κ × α)) (c : κ) : dropK (kvs em f ks) (em c) = kvs em f (rmA ks c) := by
  unfold dropK kvs rmA
  rw [List.filter_map]
  congr 1
  refine List.filter_congr fun k _ => ?_
  show decide (em k.1 ≠ em c) = decide (k.1 ≠ c)
  exact decide_eq_decide.mpr ⟨fun n z => n (by rw [z]), fun n z => n (inj _ _ z)⟩
theorem rmA_len {κ α : Type} [DecidableEq κ] (ks : List (κ × α)) (c : κ) : (rmA ks c).length ≤ ks.length := List.length_filter_le _ _
theorem rmA_ok {κ α : Type} [DecidableEq κ] {ks : List (κ × α)} (c : κ) (h : kOk ks) : kOk (rmA ks c) := List.Nodup.sublist (List.Sublist.map _ List.filter_sublist) h
theorem gA_rmA {κ α : Type} [DecidableEq κ] : ∀ (ks : List (κ × α)) (c d : κ), gA (rmA ks c) d = if d = c then none else gA ks d
  | [], c, d => by unfold rmA gA; rw [List.filter_nil, List.find?_nil]; split <;> rfl
  | e :: r, c, d => by
    have ih := gA_rmA r c d
    unfold rmA at ih ⊢
    rw [List.filter_cons]
    by_cases h : e.1 = c
    · rw [if_neg (by simp [h]), ih]
      by_cases hd : d = c
      · rw [if_pos hd, if_pos hd]
      · rw [if_neg hd, if_neg hd]
        unfold gA
        rw [List.find?_cons, decide_eq_false (fun z => hd (z.symm.trans h))]
    · rw [if_pos (by simp [h])]
      unfold gA at ih ⊢
      rw [List.find?_cons, List.find?_cons]
      by_cases hd : e.1 = d
      · rw [decide_eq_true hd, if_neg (fun z => h (hd.trans z))]
      · rw [decide_eq_false hd]; exact ih
theorem hsOf_keys (he : HE) : (hsOf he).map (fun k => k.1) = he.map (fun k => k.1) := by unfold hsOf; rw [List.map_map]; rfl
theorem hsOf_len (he : HE) : (hsOf he).length = he.length := List.length_map _
theorem gA_hsOf : ∀ (es : HE) (c : Str), gA (hsOf es) c = (gA es c).map (·.2)
  | [], _ => rfl
  | e :: r, c => by
    have ih := gA_hsOf r c
    unfold gA hsOf at ih ⊢
    rw [List.map_cons, List.find?_cons, List.find?_cons]
    by_cases h : e.1 = c
    · rw [decide_eq_true h]
      rfl
    · rw [decide_eq_false h]; exact ih
theorem pA_hsOf (es : HE) (c : Str) (x : Addr × (Str × Str × Int)) : hsOf (pA es c x) = pA (hsOf es) c x.2 := by
  unfold pA hsOf
  rw [List.any_map]
  have : ((fun k : Str × (Str × Str × Int) => decide (k.1 = c)) ∘ fun e : Str × (Addr × (Str × Str × Int)) => (e.1, e.2.2)) = fun k => decide (k.1 = c) := rfl
  rw [this]
  split
  · rw [List.map_map, List.map_map]
    refine List.map_congr_left fun k _ => ?_
    show (fun e : Str × (Addr × (Str × Str × Int)) => (e.1, e.2.2)) (if k.1 = c then (k.1, x) else k) = if k.1 = c then (k.1, x.2) else (k.1, k.2.2)
    split <;> rfl
  · rw [List.map_append]; rfl
theorem rmA_hsOf (es : HE) (c : Str) : hsOf (rmA es c) = rmA (hsOf es) c := by
  unfold rmA hsOf
  rw [List.filter_map]; rfl
theorem aow_val (ac : AB) (c : Str) : valV (aowD ac) (Sum.inr c : Key) = (gA ac c).map fun x => V.int x.1 := gA_kvs inrI _ ac c
theorem ba_val (ac : AB) (c : Str) : valV (baD ac) (Sum.inr c : Key) = (gA ac c).map fun x => V.int x.2 := gA_kvs inrI _ ac c
theorem ho_val (he : HE) (c : Str) : valV (hoD he) (Sum.inr c : Key) = (gA he c).map fun x => V.ref x.1 := gA_kvs inrI _ he c
def acF (n b h : Addr) (s : Int) : List (Str × V) := putF "_supply" (.int s) (putF "_holds" (.ref h) (putF "_balances" (.ref b) (putF "_owners" (.ref n) [])))
structure AcAt (C : Addr) (H : Hp) (p n b h : Addr) (ac : AB) (he : HE) (su : Int) : Prop where
  ins : ∃ dx, H p = some (.ins C dx (acF n b h su))
  ow : H n = some (.dK (aowD ac))
  ba : H b = some (.dK (baD ac))
  ho : H h = some (.dK (hoD he))
  tp : ∀ e ∈ he, H e.2.1 = some (.tup (holdV e.2.2))
  n1 : n ≠ b
  n2 : n ≠ h
  n3 : b ≠ h
theorem AcAt.on {C : Addr} {H H' : Hp} {p n b h : Addr} {ac : AB} {he : HE} {su : Int} (a : AcAt C H p n b h ac he su) (s : Same H H') : AcAt C H' p n b h ac he su := by
  obtain ⟨dx, g⟩ := a.ins
  exact ⟨⟨dx, s _ _ g⟩, s _ _ a.ow, s _ _ a.ba, s _ _ a.ho, fun e m => s _ _ (a.tp e m), a.n1, a.n2, a.n3⟩
section
variable {C : Addr} {H : Hp} {p n b h : Addr} {ac : AB} {he : HE} {su : Int}
theorem AcAt.pn (a : AcAt C H p n b h ac he su) : p ≠ n ∧ p ≠ b ∧ p ≠ h := by
  obtain ⟨dx, g⟩ := a.ins
  exact ⟨ne_of g a.ow (by intro z; cases z), ne_of g a.ba (by intro z; cases z), ne_of g a.ho (by intro z; cases z)⟩
/-- another supply -/
theorem AcAt.sup (a : AcAt C H p n b h ac he su) (s' : Int) {dx : Addr} (g : H p = some (.ins C dx (acF n b h su))) : AcAt C (upd H p (.ins C dx (acF n b h s'))) p n b h ac he s' := by
  obtain ⟨h1, h2, h3⟩ := a.pn
  exact ⟨⟨dx, upd_same⟩, by rw [upd_ne h1.symm]; exact a.ow, by rw [upd_ne h2.symm]; exact a.ba, by rw [upd_ne h3.symm]; exact a.ho, fun e m => by rw [upd_ne (ne_of (a.tp e m) g (by intro z; cases z))]; exact a.tp e m, a.n1, a.n2, a.n3⟩
theorem aow_same {k : Str} {x : Int × Int} (ok : kOk ac) (g : gA ac k = some x) (v : Int) : aowD (pA ac k (x.1, v)) = aowD ac := by
  have m : k ∈ ac.map (·.1) := List.mem_map.mpr ⟨_, gA_some g, rfl⟩
  unfold pA aowD kvs
  rw [if_pos (any_mem.mpr m), List.map_map]
  refine List.map_congr_left fun y my => ?_
  show (Sum.inr (if y.1 = k then (y.1, (x.1, v)) else y).1, V.int (if y.1 = k then (y.1, (x.1, v)) else y).2.1) = ((Sum.inr y.1 : Key), V.int y.2.1)
  by_cases e : y.1 = k
  · have := gA_mem ok my
    rw [e, g] at this
    rw [if_pos e, ← Option.some.inj this]
  · rw [if_neg e]
theorem ba_put (k : Str) (o v : Int) : putK (baD ac) (Sum.inr k) (V.int v) = baD (pA ac k (o, v)) := by unfold baD; rw [← pA_kvs inrI]
theorem aow_put (k : Str) (o v : Int) : putK (aowD ac) (Sum.inr k) (V.int o) = aowD (pA ac k (o, v)) := by unfold aowD; rw [← pA_kvs inrI]
theorem ho_put (k : Str) (t : Addr) (x : Str × Str × Int) : putK (hoD he) (Sum.inr k) (V.ref t) = hoD (pA he k (t, x)) := by unfold hoD; rw [← pA_kvs inrI]
/-- another balance -/
theorem AcAt.bal (a : AcAt C H p n b h ac he su) {k : Str} {x : Int × Int} (ok : kOk ac) (g : gA ac k = some x) (v : Int) : AcAt C (upd H b (.dK (baD (pA ac k (x.1, v))))) p n b h (pA ac k (x.1, v)) he su := by
  obtain ⟨h1, h2, h3⟩ := a.pn
  obtain ⟨dx, g0⟩ := a.ins
  exact ⟨⟨dx, by rw [upd_ne h2]; exact g0⟩, by rw [upd_ne a.n1, aow_same ok g v]; exact a.ow, upd_same, by rw [upd_ne a.n3.symm]; exact a.ho, fun e m => by rw [upd_ne (ne_of (a.tp e m) a.ba (by intro z; cases z))]; exact a.tp e m, a.n1, a.n2, a.n3⟩
/-- a new account -/
theorem AcAt.new (a : AcAt C H p n b h ac he su) (k : Str) (o v : Int) : AcAt C (upd (upd H n (.dK (aowD (pA ac k (o, v))))) b (.dK (baD (pA ac k (o, v))))) p n b h (pA ac k (o, v)) he su := by
  obtain ⟨h1, h2, h3⟩ := a.pn
  obtain ⟨dx, g0⟩ := a.ins
  exact ⟨⟨dx, by rw [upd_ne h2, upd_ne h1]; exact g0⟩, by rw [upd_ne a.n1]; exact upd_same, upd_same, by rw [upd_ne a.n3.symm, upd_ne a.n2.symm]; exact a.ho, fun e m => by rw [upd_ne (ne_of (a.tp e m) a.ba (by intro z; cases z)), upd_ne (ne_of (a.tp e m) a.ow (by intro z; cases z))]; exact a.tp e m, a.n1, a.n2, a.n3⟩
theorem AcAt.del (a : AcAt C H p n b h ac he su) (k : Str) : AcAt C (upd (upd H n (.dK (aowD (rmA ac k)))) b (.dK (baD (rmA ac k)))) p n b h (rmA ac k) he su := by
  obtain ⟨h1, h2, h3⟩ := a.pn
  obtain ⟨dx, g0⟩ := a.ins
  exact ⟨⟨dx, by rw [upd_ne h2, upd_ne h1]; exact g0⟩, by rw [upd_ne a.n1]; exact upd_same, upd_same, by rw [upd_ne a.n3.symm, upd_ne a.n2.symm]; exact a.ho, fun e m => by rw [upd_ne (ne_of (a.tp e m) a.ba (by intro z; cases z)), upd_ne (ne_of (a.tp e m) a.ow (by intro z; cases z))]; exact a.tp e m, a.n1, a.n2, a.n3⟩
/-- the holds -/
theorem AcAt.hold (a : AcAt C H p n b h ac he su) {k : Str} {t : Addr} {x : Str × Str × Int} (ht : H t = some (.tup (holdV x))) : AcAt C (upd H h (.dK (hoD (pA he k (t, x))))) p n b h ac (pA he k (t, x)) su := by
  obtain ⟨h1, h2, h3⟩ := a.pn
  obtain ⟨dx, g0⟩ := a.ins
  have key : ∀ c xs, H c = some (.tup xs) → upd H h (.dK (hoD (pA he k (t, x)))) c = some (.tup xs) := fun c xs e => by rw [upd_ne (ne_of e a.ho (by intro z; cases z))]; exact e
  exact ⟨⟨dx, by rw [upd_ne h3]; exact g0⟩, by rw [upd_ne a.n2]; exact a.ow, by rw [upd_ne a.n3]; exact a.ba, upd_same, fun e m => by
    rcases pA_mem m with rfl | ⟨m, _⟩
    · exact key _ _ ht
    · exact key _ _ (a.tp e m), a.n1, a.n2, a.n3⟩
theorem AcAt.free (a : AcAt C H p n b h ac he su) (k : Str) : AcAt C (upd H h (.dK (hoD (rmA he k)))) p n b h ac (rmA he k) su := by
  obtain ⟨h1, h2, h3⟩ := a.pn
  obtain ⟨dx, g0⟩ := a.ins
  exact ⟨⟨dx, by rw [upd_ne h3]; exact g0⟩, by rw [upd_ne a.n2]; exact a.ow, by rw [upd_ne a.n3]; exact a.ba, upd_same, fun e m => by
    have m := (List.mem_filter.mp m).1
    rw [upd_ne (ne_of (a.tp e m) a.ho (by intro z; cases z))]; exact a.tp e m, a.n1, a.n2, a.n3⟩
end
/-! what the operations do -/
structure AS where
  ac : AB
  ho : HS
  su : Int
def chk (s : AS) (n : Str) : Option Str := match gA s.ac n with
  | none => some "missing"
  | some _ => none
def chkO (s : AS) (c : Int) (n : Str) : Option Str := match gA s.ac n with
  | none => some "missing"
  | some x => if x.1 ≠ c then some "owner" else none
def chkF (s : AS) (n : Str) (a : Int) : Option Str := match gA s.ac n with
  | none => none
  | some x => if x.2 < a then some "funds" else none
def chkP (s : AS) (c : Int) (src tgt : Str) (a : Int) : Option Str := match chk s tgt with
  | some z => some z
  | none => match chkO s c src with
    | some z => some z
    | none => chkF s src a
def addB (ac : AB) (n : Str) (d : Int) : AB := match gA ac n with
  | none => ac
  | some x => pA ac n (x.1, x.2 + d)
def heldB (ho : HS) (n : Str) : Bool := ho.any fun e => decide (e.2.1 = n) || decide (e.2.2.1 = n)
def opCreate (s : AS) (c : Int) (n : Str) : Sum Str AS := match gA s.ac n with
  | some _ => .inl "taken"
  | none => if 100 ≤ s.ac.length then .inl "full" else .inr { s with ac := pA s.ac n (c, 0) }
def opClose (s : AS) (c : Int) (n : Str) : Sum Str AS := match chkO s c n with
  | some z => .inl z
  | none => match gA s.ac n with
    | none => .inl "missing"
    | some x => if x.2 ≠ 0 ∨ heldB s.ho n = true then .inl "busy" else .inr { s with ac := rmA s.ac n }
def opIssue (s : AS) (c : Int) (n : Str) (a : Int) : Sum Str AS := if c ≠ -1 then .inl "mint" else match chk s n with
  | some z => .inl z
  | none => if 1000000000000000 < s.su + a then .inl "limit" else .inr { s with ac := addB s.ac n a, su := s.su + a }
def opBurn (s : AS) (c : Int) (n : Str) (a : Int) : Sum Str AS := match chkO s c n with
  | some z => .inl z
  | none => match chkF s n a with
    | some z => .inl z
    | none => .inr { s with ac := addB s.ac n (-a), su := s.su - a }
def opPay (s : AS) (c : Int) (src tgt : Str) (a : Int) : Sum Str AS := match chkP s c src tgt a with
  | some z => .inl z
  | none => .inr { s with ac := addB (addB s.ac src (-a)) tgt a }
def opHold (s : AS) (c : Int) (src tgt : Str) (a : Int) (k : Str) : Sum Str AS := match chkP s c src tgt a with
  | some z => .inl z
  | none => match gA s.ho k with
    | some _ => .inl "taken"
    | none => if 100 ≤ s.ho.length then .inl "full" else .inr { s with ac := addB s.ac src (-a), ho := pA s.ho k (src, tgt, a) }
def opSettle (s : AS) (c : Int) (k : Str) : Sum Str AS := match gA s.ho k with
  | none => .inl "missing"
  | some x => match chkO s c x.1 with
    | some z => .inl z
    | none => .inr { s with ac := addB s.ac x.2.1 x.2.2, ho := rmA s.ho k }
def opRelease (s : AS) (c : Int) (k : Str) : Sum Str AS := match gA s.ho k with
  | none => .inl "missing"
  | some x => match chkO s c x.2.1 with
    | some z => .inl z
    | none => .inr { s with ac := addB s.ac x.1 x.2.2, ho := rmA s.ho k }
/-- the accounts stand so; each hold's two accounts are there -/
structure AW (C : Addr) (H : Hp) (p n b h : Addr) (he : HE) (s : AS) : Prop where
  at_ : AcAt C H p n b h s.ac he s.su
  hs : hsOf he = s.ho
  ok : kOk s.ac
  len : s.ac.length ≤ 1000
  hlen : s.ho.length ≤ 1000
  src : ∀ e ∈ s.ho, gA s.ac e.2.1 ≠ none ∧ gA s.ac e.2.2.1 ≠ none
def OutA (B C : Addr) (H : Hp) (p n b h : Addr) (Q : VK) (E : XK) (r : Sum Str AS) : Prop := match r with
  | .inl z => Rz B H E z
  | .inr s => ∀ H' he, But [p, n, b, h] H H' → AcAt C H' p n b h s.ac he s.su → hsOf he = s.ho → Q .non H'
def OutC (B : Addr) (H : Hp) (Q : VK) (E : XK) (r : Option Str) : Prop := match r with
  | some z => Rz B H E z
  | none => Q .non H
def spAcInit (C : Addr) : Sp := fun vs H Q _ => ∃ (p dx : Addr), vs = [.ref p] ∧ H p = some (.ins C dx []) ∧
  ∀ (H' : Hp) (n b h : Addr), (∀ c o, H c = some o → c ≠ p → H' c = some o) → H n = none → H b = none → H h = none → AcAt C H' p n b h [] [] 0 → Q .non H'
def spAcChk (B C : Addr) : Sp := fun vs H Q E => ∃ (p n b h : Addr) (he : HE) (s : AS) (k : Str), vs = [.ref p, .str k] ∧ AW C H p n b h he s ∧ OutC B H Q E (chk s k)
def spAcOwn (B C : Addr) : Sp := fun vs H Q E => ∃ (p n b h : Addr) (he : HE) (s : AS) (c : Int) (k : Str), vs = [.ref p, .int c, .str k] ∧ AW C H p n b h he s ∧ OutC B H Q E (chkO s c k)
def spAcFunds (B C : Addr) : Sp := fun vs H Q E => ∃ (p n b h : Addr) (he : HE) (s : AS) (k : Str) (a : Int), vs = [.ref p, .str k, .int a] ∧ AW C H p n b h he s ∧ gA s.ac k ≠ none ∧ OutC B H Q E (chkF s k a)
def spAcPaym (B C : Addr) : Sp := fun vs H Q E => ∃ (p n b h : Addr) (he : HE) (s : AS) (c : Int) (x y : Str) (a : Int), vs = [.ref p, .int c, .str x, .str y, .int a] ∧ AW C H p n b h he s ∧ OutC B H Q E (chkP s c x y a)
def spAcHoldOf (B C : Addr) : Sp := fun vs H Q E => ∃ (p n b h : Addr) (he : HE) (s : AS) (k : Str), vs = [.ref p, .str k] ∧ AW C H p n b h he s ∧ (gA he k = none → Rz B H E "missing") ∧ (∀ x, gA he k = some x → Q (.ref x.1) H)
def spAcHeld (C : Addr) : Sp := fun vs H Q _ => ∃ (p n b h : Addr) (he : HE) (s : AS) (k : Str), vs = [.ref p, .str k] ∧ AW C H p n b h he s ∧ ∀ H', Same H H' → Q (.bl (heldB s.ho k)) H'
def spAcCreate (B C : Addr) : Sp := fun vs H Q E => ∃ (p n b h : Addr) (he : HE) (s : AS) (c : Int) (k : Str), vs = [.ref p, .int c, .str k] ∧ AW C H p n b h he s ∧ OutA B C H p n b h Q E (opCreate s c k)
def spAcClose (B C : Addr) : Sp := fun vs H Q E => ∃ (p n b h : Addr) (he : HE) (s : AS) (c : Int) (k : Str), vs = [.ref p, .int c, .str k] ∧ AW C H p n b h he s ∧ OutA B C H p n b h Q E (opClose s c k)
def spAcIssue (B C : Addr) : Sp := fun vs H Q E => ∃ (p n b h : Addr) (he : HE) (s : AS) (c : Int) (k : Str) (a : Int), vs = [.ref p, .int c, .str k, .int a] ∧ AW C H p n b h he s ∧ OutA B C H p n b h Q E (opIssue s c k a)
def spAcBurn (B C : Addr) : Sp := fun vs H Q E => ∃ (p n b h : Addr) (he : HE) (s : AS) (c : Int) (k : Str) (a : Int), vs = [.ref p, .int c, .str k, .int a] ∧ AW C H p n b h he s ∧ OutA B C H p n b h Q E (opBurn s c k a)
def spAcPay (B C : Addr) : Sp := fun vs H Q E => ∃ (p n b h : Addr) (he : HE) (s : AS) (c : Int) (x y : Str) (a : Int), vs = [.ref p, .int c, .str x, .str y, .int a] ∧ AW C H p n b h he s ∧ OutA B C H p n b h Q E (opPay s c x y a)
def spAcHold (B C : Addr) : Sp := fun vs H Q E => ∃ (p n b h : Addr) (he : HE) (s : AS) (c : Int) (x y : Str) (a : Int) (k : Str), vs = [.ref p, .int c, .str x, .str y, .int a, .str k] ∧ AW C H p n b h he s ∧ OutA B C H p n b h Q E (opHold s c x y a k)
def spAcSettle (B C : Addr) : Sp := fun vs H Q E => ∃ (p n b h : Addr) (he : HE) (s : AS) (c : Int) (k : Str), vs = [.ref p, .int c, .str k] ∧ AW C H p n b h he s ∧ OutA B C H p n b h Q E (opSettle s c k)
def spAcRelease (B C : Addr) : Sp := fun vs H Q E => ∃ (p n b h : Addr) (he : HE) (s : AS) (c : Int) (k : Str), vs = [.ref p, .int c, .str k] ∧ AW C H p n b h he s ∧ OutA B C H p n b h Q E (opRelease s c k)

section
variable {P : Program} {w : World} {K : PySem.W.Frag} {mg : Str → Option Value} {base : Heap}
theorem k_Accounts {C_Accounts : Addr} {C_LedgerError : Addr} {C_Refused : Addr} (T : Txt K mg C_Accounts C_LedgerError C_Refused) : Mak P w K mg base 1 "Accounts" C_Accounts (spAcInit C_Accounts) [] := by
  refine mak T.g_Accounts T.mk_Accounts sc_Accounts____init__ (fun vs H Q E h => ?_) (fun f cdv A outer s H vs Q E hr h => ?_)
  · obtain ⟨p, dx, rfl, _⟩ := h; rfl
  obtain ⟨p, dx, rfl, hp, q⟩ := h
  have fresh : ∀ {H3 : Hp} {x : Addr}, (∀ c o, H c = some o → c ≠ p → H3 c = some o) → (∃ o, H3 p = some o) → H3 x = none → H x = none ∧ x ≠ p := fun {H3 x} k e z => by
    have n : x ≠ p := fun y => by obtain ⟨o, e⟩ := e; rw [y, e] at z; cases z
    refine ⟨?_, n⟩
    cases hx : H x with
    | none => rfl
    | some o => rw [k x o hx n] at z; cases z
  refine ⟨_, (pss_cons (ps_fld (pv 0) pe_dnewK rfl)
      (pss_cons (ps_fld (pv 0) pe_dnewK rfl)
      (pss_cons (ps_fld (pv 0) pe_dnewK rfl)
      (pss_one (ps_fld (pv 0) pe_int rfl))))), ?_⟩
  intro n hn
  have nnp : n ≠ p := (ne_of_none hp hn).symm
  walk_at "rds"
  refine ⟨p, _, dx, _, rfl, (same_upd hn) _ _ hp, T.cl_Accounts, T.na_Accounts__owners, by decide, ?_⟩
  have k1 : ∀ c o, H c = some o → c ≠ p → upd (upd H n (.dK [])) p (.ins C_Accounts dx (putF "_owners" (.ref n) [])) c = some o := fun c o e m => by rw [upd_ne m, upd_ne (ne_of_none e hn)]; exact e
  have p1 : upd (upd H n (.dK [])) p (.ins C_Accounts dx (putF "_owners" (.ref n) [])) p = some (.ins C_Accounts dx (putF "_owners" (.ref n) [])) := upd_same
  have n1 : upd (upd H n (.dK [])) p (.ins C_Accounts dx (putF "_owners" (.ref n) [])) n = some (.dK []) := by rw [upd_ne nnp]; exact upd_same
  generalize upd (upd H n (.dK [])) p (.ins C_Accounts dx (putF "_owners" (.ref n) [])) = H1 at k1 p1 n1
  intro b hb
  obtain ⟨hb0, bp⟩ := fresh k1 ⟨_, p1⟩ hb
  have nb : n ≠ b := ne_of_none n1 hb
  walk_at "rds"
  refine ⟨p, _, dx, _, rfl, (same_upd hb) _ _ p1, T.cl_Accounts, T.na_Accounts__balances, (by show 1 < 1000; decide), ?_⟩
  have k2 : ∀ c o, H c = some o → c ≠ p → upd (upd H1 b (.dK [])) p (.ins C_Accounts dx (putF "_balances" (.ref b) (putF "_owners" (.ref n) []))) c = some o := fun c o e m => by rw [upd_ne m]; exact (same_upd hb) _ _ (k1 c o e m)
  have p2 : upd (upd H1 b (.dK [])) p (.ins C_Accounts dx (putF "_balances" (.ref b) (putF "_owners" (.ref n) []))) p = some (.ins C_Accounts dx (putF "_balances" (.ref b) (putF "_owners" (.ref n) []))) := upd_same
  have n2 : upd (upd H1 b (.dK [])) p (.ins C_Accounts dx (putF "_balances" (.ref b) (putF "_owners" (.ref n) []))) n = some (.dK []) := by rw [upd_ne nnp]; exact (same_upd hb) _ _ n1
  have b2 : upd (upd H1 b (.dK [])) p (.ins C_Accounts dx (putF "_balances" (.ref b) (putF "_owners" (.ref n) []))) b = some (.dK []) := by rw [upd_ne bp]; exact upd_same
  generalize upd (upd H1 b (.dK [])) p (.ins C_Accounts dx (putF "_balances" (.ref b) (putF "_owners" (.ref n) []))) = H2 at k2 p2 n2 b2
  walk_at "rds"
  intro h hh
  obtain ⟨hh0, hp'⟩ := fresh k2 ⟨_, p2⟩ hh
  have nh : n ≠ h := ne_of_none n2 hh
  have bh : b ≠ h := ne_of_none b2 hh
  walk_at "rds"
  refine ⟨p, _, dx, _, rfl, (same_upd hh) _ _ p2, T.cl_Accounts, T.na_Accounts__holds, (by show 2 < 1000; decide), ?_⟩
  walk_at "rds"
  refine ⟨p, _, dx, _, rfl, upd_same, T.cl_Accounts, T.na_Accounts__supply, (by show 3 < 1000; decide), ?_⟩
  refine q _ n b h (fun c o e m => ?_) hn hb0 hh0 ⟨⟨dx, upd_same⟩, ?_, ?_, ?_, (fun _ m => nomatch m), nb, nh, bh⟩
  · rw [upd_ne m, upd_ne m]; exact (same_upd hh) _ _ (k2 c o e m)
  · rw [upd_ne nnp, upd_ne nnp]; exact (same_upd hh) _ _ n2
  · rw [upd_ne bp, upd_ne bp]; exact (same_upd hh) _ _ b2
  · rw [upd_ne hp', upd_ne hp']; exact upd_same
theorem m_Accounts___check {C_Accounts : Addr} {C_LedgerError : Addr} {C_Refused : Addr} (T : Txt K mg C_Accounts C_LedgerError C_Refused) : MetX P w K mg base 3 C_Accounts "_check" (spAcChk C_Refused C_Accounts) := by
  have i_Refused := i_Refused (P := P) (w := w) (base := base) T
  refine metX T.cl_Accounts T.me_Accounts___check sc_Accounts___check (fun vs H Q E h => ?_) (fun f cdv A outer s H vs Q E hr h => ?_)
  · obtain ⟨p, n, b, h, he, s, k, rfl, _⟩ := h; rfl
  obtain ⟨p, n, b, h, he, s, k, rfl, aw, out⟩ := h
  obtain ⟨dx, g⟩ := aw.at_.ins
  refine ⟨_, (pss_one (ps_if (pt_cmp (pc_dnotin (by exact hu_of hr) (pv 1) (pe_fld (pv 0) rfl))) (pss_one (ps_raise rfl (takes_of rfl rfl rfl rfl) (pmk_ei i_Refused hr (by decide) (by rfl) (pa_cons pe_str pa_nil)))) pss_nil)), ?_⟩
  walk_at "rds"
  refine ⟨p, _, dx, _, _, rfl, g, T.cl_Accounts, T.na_Accounts__owners, rfl, ?_⟩
  refine ⟨n, _, rfl, DGet.k (k := Sum.inr k) aw.at_.ow, ?_⟩
  rw [aow_val]
  unfold chk at out
  cases gk : gA s.ac k with
  | none =>
    rw [gk] at out
    walk_at "rds"
    exact mk_one fun H' d s1 _ hd => out H' d s1 hd
  | some x =>
    rw [gk] at out
    walk_at "rds"
    exact out
theorem m_Accounts___check_owner {C_Accounts : Addr} {C_LedgerError : Addr} {C_Refused : Addr} (T : Txt K mg C_Accounts C_LedgerError C_Refused) : MetX P w K mg base 4 C_Accounts "_check_owner" (spAcOwn C_Refused C_Accounts) := by
  have i_Refused := i_Refused (P := P) (w := w) (base := base) T
  have m_Accounts___check := m_Accounts___check (P := P) (w := w) (base := base) T
  refine metX T.cl_Accounts T.me_Accounts___check_owner sc_Accounts___check_owner (fun vs H Q E h => ?_) (fun f cdv A outer s H vs Q E hr h => ?_)
  · obtain ⟨p, n, b, h, he, s, c, k, rfl, _⟩ := h; rfl
  obtain ⟨p, n, b, h, he, s, c, k, rfl, aw, out⟩ := h
  obtain ⟨dx, g⟩ := aw.at_.ins
  refine ⟨_, (pss_cons (ps_expr (pe_mtX m_Accounts___check hr (by decide) (fun σ => passAt (takes_of rfl rfl rfl rfl) σ) (pv 0) (pa_cons (pv 2) pa_nil)))
      (pss_one (ps_if (pt_cmpR op_ne (pe_dget (by exact hu_of hr) (pe_fld (pv 0) rfl) (pv 2) (fun _ _ => rfl)) (pv 1) (nomark _)) (pss_one (ps_raise rfl (takes_of rfl rfl rfl rfl) (pmk_ei i_Refused hr (by decide) (by rfl) (pa_cons pe_str pa_nil)))) pss_nil))), ?_⟩
  walk_at "rds"
  refine ⟨p, dx, _, rfl, g, rfl, ?_⟩
  walk_at "rds"
  refine ⟨p, n, b, h, he, s, k, rfl, aw, ?_⟩
  unfold chkO at out
  cases gk : gA s.ac k with
  | none =>
    rw [gk] at out
    have e : chk s k = some ("missing" : Str) := by unfold chk; rw [gk]
    rw [e]
    exact out
  | some x =>
    rw [gk] at out
    have out : OutC C_Refused H Q E (if x.1 ≠ c then some "owner" else none) := out
    have e : chk s k = none := by unfold chk; rw [gk]
    rw [e]
    walk_at "rds"
    refine ⟨p, _, dx, _, _, rfl, g, T.cl_Accounts, T.na_Accounts__owners, rfl, ?_⟩
    walk_at "rds"
    refine ⟨n, _, rfl, .inl ⟨_, Sum.inr k, .inl aw.at_.ow, rfl, by rw [aow_val, gk]; rfl⟩, ?_⟩
    walk_at "rds"
    rw [decV']
    by_cases h : x.1 = c
    · rw [if_neg (fun n => n h)] at out
      refine ifF (by rw [decide_eq_true h]; rfl) ?_
      exact out
    · rw [if_pos h] at out
      refine ifT (by rw [decide_eq_false h]; rfl) ?_
      walk_at "rds"
      exact mk_one fun H' d s1 _ hd => out H' d s1 hd
theorem m_Accounts___check_funds {C_Accounts : Addr} {C_LedgerError : Addr} {C_Refused : Addr} (T : Txt K mg C_Accounts C_LedgerError C_Refused) : MetX P w K mg base 3 C_Accounts "_check_funds" (spAcFunds C_Refused C_Accounts) := by
  have i_Refused := i_Refused (P := P) (w := w) (base := base) T
  refine metX T.cl_Accounts T.me_Accounts___check_funds sc_Accounts___check_funds (fun vs H Q E h => ?_) (fun f cdv A outer s H vs Q E hr h => ?_)
  · obtain ⟨p, n, b, h, he, s, k, a, rfl, _⟩ := h; rfl
  obtain ⟨p, n, b, h, he, s, k, a, rfl, aw, g0, out⟩ := h
  obtain ⟨dx, g⟩ := aw.at_.ins
  refine ⟨_, (pss_one (ps_if (pt_cmpR op_lt (pe_dget (by exact hu_of hr) (pe_fld (pv 0) rfl) (pv 1) (fun _ _ => rfl)) (pv 2) (nomark _)) (pss_one (ps_raise rfl (takes_of rfl rfl rfl rfl) (pmk_ei i_Refused hr (by decide) (by rfl) (pa_cons pe_str pa_nil)))) pss_nil)), ?_⟩
  unfold chkF at out
  cases gk : gA s.ac k with
  | none => exact absurd gk g0
  | some x =>
    rw [gk] at out
    have out : OutC C_Refused H Q E (if x.2 < a then some "funds" else none) := out
    walk_at "rds"
    refine ⟨p, _, dx, _, _, rfl, g, T.cl_Accounts, T.na_Accounts__balances, rfl, ?_⟩
    walk_at "rds"
    refine ⟨b, _, rfl, .inl ⟨_, Sum.inr k, .inl aw.at_.ba, rfl, by rw [ba_val, gk]; rfl⟩, ?_⟩
    walk_at "rds"
    by_cases h : x.2 < a
    · rw [if_pos h] at out
      refine ifT (decide_eq_true h) ?_
      walk_at "rds"
      exact mk_one fun H' d s1 _ hd => out H' d s1 hd
    · rw [if_neg h] at out
      refine ifF (decide_eq_false h) ?_
      exact out
theorem m_Accounts___check_payment {C_Accounts : Addr} {C_LedgerError : Addr} {C_Refused : Addr} (T : Txt K mg C_Accounts C_LedgerError C_Refused) : MetX P w K mg base 5 C_Accounts "_check_payment" (spAcPaym C_Refused C_Accounts) := by
  have m_Accounts___check := m_Accounts___check (P := P) (w := w) (base := base) T
  have m_Accounts___check_owner := m_Accounts___check_owner (P := P) (w := w) (base := base) T
  have m_Accounts___check_funds := m_Accounts___check_funds (P := P) (w := w) (base := base) T
  refine metX T.cl_Accounts T.me_Accounts___check_payment sc_Accounts___check_payment (fun vs H Q E h => ?_) (fun f cdv A outer s H vs Q E hr h => ?_)
  · obtain ⟨p, n, b, h, he, s, c, x, y, a, rfl, _⟩ := h; rfl
  obtain ⟨p, n, b, h, he, s, c, x, y, a, rfl, aw, out⟩ := h
  obtain ⟨dx, g⟩ := aw.at_.ins
  refine ⟨_, (pss_cons (ps_expr (pe_mtX m_Accounts___check hr (by decide) (fun σ => passAt (takes_of rfl rfl rfl rfl) σ) (pv 0) (pa_cons (pv 3) pa_nil)))
      (pss_cons (ps_expr (pe_mtX m_Accounts___check_owner hr (by decide) (fun σ => passAt (takes_of rfl rfl rfl rfl) σ) (pv 0) (pa_cons (pv 1) (pa_cons (pv 2) pa_nil))))
      (pss_one (ps_expr (pe_mtX m_Accounts___check_funds hr (by decide) (fun σ => passAt (takes_of rfl rfl rfl rfl) σ) (pv 0) (pa_cons (pv 2) (pa_cons (pv 4) pa_nil))))))), ?_⟩
  unfold chkP at out
  walk_at "rds"
  refine ⟨p, dx, _, rfl, g, rfl, ?_⟩
  walk_at "rds"
  refine ⟨p, n, b, h, he, s, y, rfl, aw, ?_⟩
  cases e1 : chk s y with
  | some z => rw [e1] at out; exact out
  | none =>
    rw [e1] at out
    dsimp only at out
    walk_at "rds"
    refine ⟨p, dx, _, rfl, g, rfl, ?_⟩
    walk_at "rds"
    refine ⟨p, n, b, h, he, s, c, x, rfl, aw, ?_⟩
    cases e2 : chkO s c x with
    | some z => rw [e2] at out; exact out
    | none =>
      rw [e2] at out
      dsimp only at out
      have g0 : gA s.ac x ≠ none := fun z => by unfold chkO at e2; rw [z] at e2; cases e2
      walk_at "rds"
      refine ⟨p, dx, _, rfl, g, rfl, ?_⟩
      walk_at "rds"
      refine ⟨p, n, b, h, he, s, x, a, rfl, aw, g0, ?_⟩
      cases e3 : chkF s x a with
      | some z => rw [e3] at out; exact out
      | none => rw [e3] at out; exact out
theorem m_Accounts___hold_of {C_Accounts : Addr} {C_LedgerError : Addr} {C_Refused : Addr} (T : Txt K mg C_Accounts C_LedgerError C_Refused) : MetX P w K mg base 3 C_Accounts "_hold_of" (spAcHoldOf C_Refused C_Accounts) := by
  have i_Refused := i_Refused (P := P) (w := w) (base := base) T
  refine metX T.cl_Accounts T.me_Accounts___hold_of sc_Accounts___hold_of (fun vs H Q E h => ?_) (fun f cdv A outer s H vs Q E hr h => ?_)
  · obtain ⟨p, n, b, h, he, s, k, rfl, _⟩ := h; rfl
  obtain ⟨p, n, b, h, he, s, k, rfl, aw, hE, q⟩ := h
  obtain ⟨dx, g⟩ := aw.at_.ins
  refine ⟨_, (pss_cons (ps_if (pt_cmp (pc_dnotin (by exact hu_of hr) (pv 1) (pe_fld (pv 0) rfl))) (pss_one (ps_raise rfl (takes_of rfl rfl rfl rfl) (pmk_ei i_Refused hr (by decide) (by rfl) (pa_cons pe_str pa_nil)))) pss_nil)
      (pss_one (ps_ret (pe_dget (by exact hu_of hr) (pe_fld (pv 0) rfl) (pv 1) (fun _ _ => rfl))))), ?_⟩
  walk_at "rds"
  refine ⟨p, _, dx, _, _, rfl, g, T.cl_Accounts, T.na_Accounts__holds, rfl, ?_⟩
  refine ⟨h, _, rfl, DGet.k (k := Sum.inr k) aw.at_.ho, ?_⟩
  rw [ho_val]
  cases gk : gA he k with
  | none =>
    walk_at "rds"
    exact mk_one fun H' d s1 _ hd => hE gk H' d s1 hd
  | some x =>
    walk_at "rds"
    refine ⟨p, _, dx, _, _, rfl, g, T.cl_Accounts, T.na_Accounts__holds, rfl, ?_⟩
    walk_at "rds"
    refine ⟨h, _, rfl, .inl ⟨_, Sum.inr k, .inl aw.at_.ho, rfl, by rw [ho_val, gk]; rfl⟩, ?_⟩
    exact q x gk
end

theorem addB_some {ac : AB} {n : Str} {d : Int} {x : Int × Int} (g : gA ac n = some x) : addB ac n d = pA ac n (x.1, x.2 + d) := by unfold addB; rw [g]
theorem addB_ok {ac : AB} (n : Str) (d : Int) (ok : kOk ac) : kOk (addB ac n d) := by
  unfold addB
  split
  · exact ok
  · exact pA_ok _ _ ok
theorem addB_get {ac : AB} {n m : Str} {d : Int} (ok : kOk ac) (g : gA ac m ≠ none) : gA (addB ac n d) m ≠ none := by
  cases h : gA ac n with
  | none => unfold addB; rw [h]; exact g
  | some x =>
    rw [addB_some h, gA_put ok]
    split
    · intro z; cases z
    · exact g
theorem addB_len {ac : AB} {n : Str} {d : Int} (h : gA ac n ≠ none) : (addB ac n d).length = ac.length := by
  cases g : gA ac n with
  | none => exact absurd g h
  | some x =>
    rw [addB_some g]
    have m : n ∈ ac.map (·.1) := List.mem_map.mpr ⟨_, gA_some g, rfl⟩
    unfold pA
    rw [if_pos (any_mem.mpr m), List.length_map]
theorem some_of {α : Type} {o : Option α} (h : o ≠ none) : ∃ x, o = some x := by
  cases o with
  | none => exact absurd rfl h
  | some x => exact ⟨x, rfl⟩
theorem chkO_none {s : AS} {c : Int} {n : Str} (h : chkO s c n = none) : ∃ x, gA s.ac n = some x ∧ x.1 = c := by
  unfold chkO at h
  cases g : gA s.ac n with
  | none => rw [g] at h; cases h
  | some x =>
    rw [g] at h
    have h : (if x.1 ≠ c then some ("owner" : Str) else none) = none := h
    by_cases e : x.1 = c
    · exact ⟨x, rfl, e⟩
    · rw [if_pos e] at h; cases h
theorem chk_none {s : AS} {n : Str} (h : chk s n = none) : ∃ x, gA s.ac n = some x := by
  unfold chk at h
  cases g : gA s.ac n with
  | none => rw [g] at h; cases h
  | some x => exact ⟨x, rfl⟩
theorem chkP_none {s : AS} {c : Int} {x y : Str} {a : Int} (h : chkP s c x y a = none) : (∃ u, gA s.ac x = some u) ∧ ∃ v, gA s.ac y = some v := by
  unfold chkP at h
  cases e1 : chk s y with
  | some z => rw [e1] at h; cases h
  | none =>
    rw [e1] at h
    dsimp only at h
    cases e2 : chkO s c x with
    | some z => rw [e2] at h; cases h
    | none =>
      obtain ⟨u, gu, _⟩ := chkO_none e2
      exact ⟨⟨u, gu⟩, chk_none e1⟩
section
variable {P : Program} {w : World} {K : PySem.W.Frag} {mg : Str → Option Value} {base : Heap}
theorem inV_two (k s t : Str) : inV (V.str k) [V.str s, V.str t] = (decide (s = k) || decide (t = k)) := by
  unfold inV
  rw [List.any_cons, List.any_cons, List.any_nil, Bool.or_false]
  rfl
theorem m_Accounts___is_held {C_Accounts : Addr} {C_LedgerError : Addr} {C_Refused : Addr} (T : Txt K mg C_Accounts C_LedgerError C_Refused) : Met P w K mg base 1 C_Accounts "_is_held" (spAcHeld C_Accounts) [] := by
  refine met T.cl_Accounts T.me_Accounts___is_held sc_Accounts___is_held (fun vs H Q E h => ?_) (fun f cdv A outer s H vs Q E hr h => ?_)
  · obtain ⟨p, n, b, h, he, s, k, rfl, _⟩ := h; rfl
  obtain ⟨p, n, b, h, he, s, k, rfl, aw, q⟩ := h
  obtain ⟨dx, g⟩ := aw.at_.ins
  refine ⟨_, (pss_one (ps_ret (pe_callB (cr_any rfl) (by rfl) T.z_any (by decide +kernel) (pa_cons (pe_lc (own := [("hold", 2)]) (g := gName 2) (by rfl) sc_Accounts___is_held.nd (pi_list (pe_callTy (call_listVals rfl) (by rfl) T.z_list (by decide +kernel) (pa_cons (pe_bm0 PySem.F.plainAttrs_dict PySem.F.slot_dict_values PySem.F.type_dict_values mt_dvals (pe_fld (pv 0) rfl)) pa_nil))) (blkOk_by (own := [("hold", 2)]) (N := ["self", "name", "hold"]) (sc := defScope s_Accounts___is_held) (by decide +kernel)) (fun _ _ _ _ _ => pg_name (i := 2) sc_Accounts___is_held.nd rfl (Or.inl rfl)) (fun _ _ _ _ _ => pts_nil) (fun _ _ _ _ _ => (pe_cmpR (kin (K := K)) (pv 1) (pe_slice (ksla (K := K)) (pv 2) po_none (po_some pe_int)) (by rfl)))) pa_nil)))), ?_⟩
  walk_at "rds"
  refine ⟨p, _, dx, _, _, rfl, g, T.cl_Accounts, T.na_Accounts__holds, rfl, ?_⟩
  refine ⟨.inr (.inr (.inl ⟨rfl, .inl ⟨_, aw.at_.ho⟩⟩)), ?_⟩
  refine ⟨h, _, rfl, rfl, aw.at_.ho, fun pv hpv => ?_⟩
  walk_at "rds"
  refine ⟨pv, h, _, rfl, upd_same, (same_upd hpv) _ _ aw.at_.ho, fun l hl => ?_⟩
  have s1 := (same_upd (o := viewO "dict_values" pv h) hpv).trans (same_upd (o := .lst ((hoD he).map (·.2))) hl)
  have el : upd (upd H pv (viewO "dict_values" pv h)) l (.lst ((hoD he).map (·.2))) l = some (.lst (he.map fun e => V.ref e.2.1)) := by
    rw [upd_same]; unfold hoD kvs; rw [List.map_map]; rfl
  generalize upd (upd H pv (viewO "dict_values" pv h)) l (.lst ((hoD he).map (·.2))) = H1 at s1 el
  have a1 := aw.at_.on s1
  have lh : he.length ≤ 1000 := by have := aw.hlen; rw [← aw.hs, hsOf_len] at this; exact this
  walk_at "rds"
  refine ⟨⟨_, sq el⟩, fun M hM => ?_⟩
  refine lc_it (walk_list (K := K) (a := l) (xs := he.map fun e => V.ref e.2.1)) (Pv := fun j H' => Same H1 H' ∧ H' M = some (.lst (((he.take j).map fun e => decide (e.2.2.1 = k) || decide (e.2.2.2.1 = k)).map V.bl))) ⟨same_upd hM, upd_same⟩ (fun _ _ _ h => sq (h.1 _ _ el)) (fun j x H6 H7 hj hp hy => ?_) (fun H6 hp => ?_)
  · obtain ⟨s6, eM⟩ := hp
    obtain ⟨rfl, gx⟩ := hy
    rw [List.length_map] at hj
    have gb : he[j]? = some he[j] := List.getElem?_eq_getElem hj
    rw [List.getElem?_map, gb] at gx
    obtain rfl : V.ref he[j].2.1 = x := Option.some.inj gx
    have ht := s6 _ _ (a1.tp _ (List.getElem_mem hj))
    have tk : ((he.take (j + 1)).map fun e => decide (e.2.2.1 = k) || decide (e.2.2.2.1 = k)) = ((he.take j).map fun e => decide (e.2.2.1 = k) || decide (e.2.2.2.1 = k)) ++ [decide (he[j].2.2.1 = k) || decide (he[j].2.2.2.1 = k)] := by
      rw [List.take_add_one, gb, List.map_append]; rfl
    have ll : ((he.take j).map fun e => decide (e.2.2.1 = k) || decide (e.2.2.2.1 = k)).length ≤ 1000 := by rw [List.length_map, List.length_take]; omega
    generalize (he.take j).map (fun e => decide (e.2.2.1 = k) || decide (e.2.2.2.1 = k)) = acc at eM tk ll
    generalize he[j] = e at ht tk
    refine ⟨rfl, tyes ?_⟩
    walk_at "rds"
    refine ⟨e.2.1, _, rfl, SqT.of ht, fun hw => absurd hw.2 (show ¬ HT.sIx 3 3 (some 2) = 3 by decide), fun _ t2 ht2 => ?_⟩
    have e2 : upd H7 t2 (.tup (cutV (holdV e.2.2) none (some 2))) t2 = some (.tup [.str e.2.2.1, .str e.2.2.2.1]) := upd_same
    have s7 := s6.trans (same_upd (o := .tup (cutV (holdV e.2.2) none (some 2))) ht2)
    have eM2 := (same_upd (o := .tup (cutV (holdV e.2.2) none (some 2))) ht2) _ _ eM
    generalize upd H7 t2 (.tup (cutV (holdV e.2.2) none (some 2))) = H8 at e2 s7 eM2
    walk_at "rds"
    refine ⟨t2, _, rfl, .inr (SqT.of e2), rfl, rfl, ?_⟩
    rw [if_neg (by decide), inV_two]
    exact ⟨_, eM2, sz1000' (by rw [List.length_map]; omega), same_mut s7 hM, by rw [upd_same, tk, List.map_append]; rfl⟩
  obtain ⟨s6, eM⟩ := hp
  rw [List.length_map, List.take_of_length_le (Nat.le_refl _)] at eM
  walk_at "rds"
  refine ⟨M, _, rfl, sq eM, ?_⟩
  have e1 : (he.map fun e => decide (e.2.2.1 = k) || decide (e.2.2.2.1 = k)).any id = heldB s.ho k := by
    unfold heldB
    rw [← aw.hs]
    unfold hsOf
    rw [List.any_map, List.any_map]
    rfl
  rw [e1]
  exact q _ (s1.trans s6)
theorem m_Accounts__create {C_Accounts : Addr} {C_LedgerError : Addr} {C_Refused : Addr} (T : Txt K mg C_Accounts C_LedgerError C_Refused) : MetX P w K mg base 3 C_Accounts "create" (spAcCreate C_Refused C_Accounts) := by
  have i_Refused := i_Refused (P := P) (w := w) (base := base) T
  refine metX T.cl_Accounts T.me_Accounts__create sc_Accounts__create (fun vs H Q E h => ?_) (fun f cdv A outer s H vs Q E hr h => ?_)
  · obtain ⟨p, n, b, h, he, s, c, k, rfl, _⟩ := h; rfl
  obtain ⟨p, n, b, h, he, s, c, k, rfl, aw, out⟩ := h
  obtain ⟨dx, g⟩ := aw.at_.ins
  obtain ⟨hpn, hpb, hph⟩ := aw.at_.pn
  have la := aw.len
  unfold opCreate at out
  refine ⟨_, (pss_cons (ps_if (pt_cmp (pc_din (by exact hu_of hr) (pv 2) (pe_fld (pv 0) rfl))) (pss_one (ps_raise rfl (takes_of rfl rfl rfl rfl) (pmk_ei i_Refused hr (by decide) (by rfl) (pa_cons pe_str pa_nil)))) pss_nil)
      (pss_cons (ps_if (pt_cmpR op_ge (pe_callB call_lenD (by rfl) T.z_len (by decide +kernel) (pa_cons (pe_fld (pv 0) rfl) pa_nil)) (pe_gc (by rfl) T.c_ACCOUNT_LIMIT) (nomark _)) (pss_one (ps_raise rfl (takes_of rfl rfl rfl rfl) (pmk_ei i_Refused hr (by decide) (by rfl) (pa_cons pe_str pa_nil)))) pss_nil)
      (pss_cons (ps_dput (hu_of hr) (pe_fld (pv 0) rfl) (pv 2) (pv 1) rfl)
      (pss_one (ps_dput (hu_of hr) (pe_fld (pv 0) rfl) (pv 2) pe_int rfl))))), ?_⟩
  walk_at "rds"
  refine ⟨p, _, dx, _, _, rfl, g, T.cl_Accounts, T.na_Accounts__owners, rfl, ?_⟩
  refine ⟨n, _, rfl, DGet.k (k := Sum.inr k) aw.at_.ow, ?_⟩
  rw [aow_val]
  cases gk : gA s.ac k with
  | some x =>
    rw [gk] at out
    walk_at "rds"
    exact mk_one fun H' d s1 _ hd => out H' d s1 hd
  | none =>
    rw [gk] at out
    have out : OutA C_Refused C_Accounts H p n b h Q E (if 100 ≤ s.ac.length then .inl "full" else .inr { s with ac := pA s.ac k (c, 0) }) := out
    walk_at "rds"
    refine ⟨p, _, dx, _, _, rfl, g, T.cl_Accounts, T.na_Accounts__owners, rfl, ?_⟩
    walk_at "rds"
    refine ⟨n, _, rfl, aw.at_.ow, ?_⟩
    rw [show (aowD s.ac).length = s.ac.length from kvs_len _ _ _]
    walk_at "rds"
    by_cases hl : 100 ≤ s.ac.length
    · rw [if_pos hl] at out
      refine ifT (decide_eq_true (by omega)) ?_
      walk_at "rds"
      exact mk_one fun H' d s1 _ hd => out H' d s1 hd
    · rw [if_neg hl] at out
      refine ifF (decide_eq_false (by omega)) ?_
      walk_at "rds"
      refine ⟨p, _, dx, _, _, rfl, g, T.cl_Accounts, T.na_Accounts__owners, rfl, ?_⟩
      walk_at "rds"
      refine ⟨n, _, rfl, DPut.k (k := Sum.inr k) aw.at_.ow (by unfold aowD; rw [kvs_len]; exact sz1000' (by omega)), ?_⟩
      rw [aow_put k c 0]
      walk_at "rds"
      refine ⟨p, _, dx, _, _, rfl, (by rw [upd_ne hpn]; exact g), T.cl_Accounts, T.na_Accounts__balances, rfl, ?_⟩
      walk_at "rds"
      refine ⟨b, _, rfl, DPut.k (k := Sum.inr k) (by rw [upd_ne aw.at_.n1.symm]; exact aw.at_.ba) (by unfold baD; rw [kvs_len]; exact sz1000' (by omega)), ?_⟩
      rw [ba_put k c 0]
      exact out _ he (.trans (but_upd (by simp)) (but_upd (by simp))) (aw.at_.new k c 0) aw.hs
theorem m_Accounts__close {C_Accounts : Addr} {C_LedgerError : Addr} {C_Refused : Addr} (T : Txt K mg C_Accounts C_LedgerError C_Refused) : MetX P w K mg base 5 C_Accounts "close" (spAcClose C_Refused C_Accounts) := by
  have i_Refused := i_Refused (P := P) (w := w) (base := base) T
  have m_Accounts___check_owner := m_Accounts___check_owner (P := P) (w := w) (base := base) T
  have m_Accounts___is_held := m_Accounts___is_held (P := P) (w := w) (K := K) (base := base) T
  refine metX T.cl_Accounts T.me_Accounts__close sc_Accounts__close (fun vs H Q E h => ?_) (fun f cdv A outer s H vs Q E hr h => ?_)
  · obtain ⟨p, n, b, h, he, s, c, k, rfl, _⟩ := h; rfl
  obtain ⟨p, n, b, h, he, s, c, k, rfl, aw, out⟩ := h
  obtain ⟨dx, g⟩ := aw.at_.ins
  unfold opClose at out
  refine ⟨_, (pss_cons (ps_expr (pe_mtX m_Accounts___check_owner hr (by decide) (fun σ => passAt (takes_of rfl rfl rfl rfl) σ) (pv 0) (pa_cons (pv 1) (pa_cons (pv 2) pa_nil))))
      (pss_cons (ps_if (PW.pt (pw_or (pt_cmpR op_ne (pe_dget (by exact hu_of hr) (pe_fld (pv 0) rfl) (pv 2) (fun _ _ => rfl)) pe_int (nomark _)) (pw_or1 (pt_val (pe_mt m_Accounts___is_held hr (by decide) (pv 0) (pa_cons (pv 2) pa_nil)))))) (pss_one (ps_raise rfl (takes_of rfl rfl rfl rfl) (pmk_ei i_Refused hr (by decide) (by rfl) (pa_cons pe_str pa_nil)))) pss_nil)
      (pss_cons (ps_ddel (pe_fld (pv 0) rfl) (pv 2))
      (pss_one (ps_ddel (pe_fld (pv 0) rfl) (pv 2)))))), ?_⟩
  walk_at "rds"
  refine ⟨p, dx, _, rfl, g, rfl, ?_⟩
  walk_at "rds"
  refine ⟨p, n, b, h, he, s, c, k, rfl, aw, ?_⟩
  cases e2 : chkO s c k with
  | some z => rw [e2] at out; exact out
  | none =>
    rw [e2] at out
    dsimp only at out
    obtain ⟨x, gk, _⟩ := chkO_none e2
    rw [gk] at out
    dsimp only at out
    have del : ∀ H1, Same H H1 → AcAt C_Accounts H1 p n b h s.ac he s.su → (¬ (x.2 ≠ 0 ∨ heldB s.ho k = true)) → ∃ t, t = t ∧ Q .non (upd (upd H1 n (.dK (aowD (rmA s.ac k)))) b (.dK (baD (rmA s.ac k)))) := fun H1 s1 a1 no => by
      rw [if_neg no] at out
      exact ⟨(), rfl, out _ he (.trans (Same.but s1) (.trans (but_upd (by simp)) (but_upd (by simp)))) (a1.del k) aw.hs⟩
    walk_at "rds"
    refine ⟨p, _, dx, _, _, rfl, g, T.cl_Accounts, T.na_Accounts__balances, rfl, ?_⟩
    walk_at "rds"
    refine ⟨b, _, rfl, .inl ⟨_, Sum.inr k, .inl aw.at_.ba, rfl, by rw [ba_val, gk]; rfl⟩, ?_⟩
    walk_at "rds"
    rw [decV']
    by_cases h0 : x.2 = 0
    · refine ifF (by rw [decide_eq_true h0]; rfl) ?_
      walk_at "rds"
      refine ⟨p, dx, _, rfl, g, rfl, ?_⟩
      walk_at "rds"
      refine ⟨p, n, b, h, he, s, k, rfl, aw, fun H1 s1 => ?_⟩
      refine ⟨_, rfl, ?_⟩
      cases hb : heldB s.ho k with
      | true =>
        rw [if_pos (.inr hb)] at out
        refine ifT rfl ?_
        walk_at "rds"
        exact mk_one fun H' d s2 _ hd => out H' d (s1.trans s2) hd
      | false =>
        have a1 := aw.at_.on s1
        obtain ⟨_, _, fin⟩ := del H1 s1 a1 (fun z => z.elim (fun z => z h0) (fun z => by rw [hb] at z; cases z))
        obtain ⟨dx1, g1⟩ := a1.ins
        refine ifF rfl ?_
        walk_at "rds"
        refine ⟨p, _, dx1, _, _, rfl, g1, T.cl_Accounts, T.na_Accounts__owners, rfl, ?_⟩
        walk_at "rds"
        refine ⟨n, _, Sum.inr k, rfl, a1.ow, rfl, by rw [aow_val, gk]; rfl, ?_⟩
        rw [show dropK (aowD s.ac) (Sum.inr k) = aowD (rmA s.ac k) from dropK_rmA inrI _ s.ac k]
        walk_at "rds"
        refine ⟨p, _, dx1, _, _, rfl, (by rw [upd_ne a1.pn.1]; exact g1), T.cl_Accounts, T.na_Accounts__balances, rfl, ?_⟩
        walk_at "rds"
        refine ⟨b, _, Sum.inr k, rfl, (by rw [upd_ne a1.n1.symm]; exact a1.ba), rfl, by rw [ba_val, gk]; rfl, ?_⟩
        rw [show dropK (baD s.ac) (Sum.inr k) = baD (rmA s.ac k) from dropK_rmA inrI _ s.ac k]
        exact fin
    · rw [if_pos (.inl h0)] at out
      refine ifT (by rw [decide_eq_false h0]; rfl) ?_
      refine ifT rfl ?_
      walk_at "rds"
      exact mk_one fun H' d s1 _ hd => out H' d s1 hd
end

section
variable {P : Program} {w : World} {K : PySem.W.Frag} {mg : Str → Option Value} {base : Heap}
theorem Out.bal {B C : Addr} {H H' : Hp} {p n b h : Addr} {Q : VK} {E : XK} {s' : AS} {he : HE} (out : OutA B C H p n b h Q E (.inr s')) (bt : But [p, n, b, h] H H') (a : AcAt C H' p n b h s'.ac he s'.su) (e : hsOf he = s'.ho) : Q .non H' := out H' he bt a e
theorem m_Accounts__issue {C_Accounts : Addr} {C_LedgerError : Addr} {C_Refused : Addr} (T : Txt K mg C_Accounts C_LedgerError C_Refused) : MetX P w K mg base 4 C_Accounts "issue" (spAcIssue C_Refused C_Accounts) := by
  have i_Refused := i_Refused (P := P) (w := w) (base := base) T
  have m_Accounts___check := m_Accounts___check (P := P) (w := w) (base := base) T
  refine metX T.cl_Accounts T.me_Accounts__issue sc_Accounts__issue (fun vs H Q E h => ?_) (fun f cdv A outer s H vs Q E hr h => ?_)
  · obtain ⟨p, n, b, h, he, s, c, k, a, rfl, _⟩ := h; rfl
  obtain ⟨p, n, b, h, he, s, c, k, a, rfl, aw, out⟩ := h
  obtain ⟨dx, g⟩ := aw.at_.ins
  have la := aw.len
  unfold opIssue at out
  refine ⟨_, (pss_cons (ps_if (pt_cmpR op_ne (pv 1) (pe_gc (by rfl) T.c_MINT) (nomark _)) (pss_one (ps_raise rfl (takes_of rfl rfl rfl rfl) (pmk_ei i_Refused hr (by decide) (by rfl) (pa_cons pe_str pa_nil)))) pss_nil)
      (pss_cons (ps_expr (pe_mtX m_Accounts___check hr (by decide) (fun σ => passAt (takes_of rfl rfl rfl rfl) σ) (pv 0) (pa_cons (pv 2) pa_nil)))
      (pss_cons (ps_if (pt_cmpR op_gt (pe_op op_add (pe_fld (pv 0) rfl) (pv 3)) (pe_gc (by rfl) T.c_SUPPLY_LIMIT) (nomark _)) (pss_one (ps_raise rfl (takes_of rfl rfl rfl rfl) (pmk_ei i_Refused hr (by decide) (by rfl) (pa_cons pe_str pa_nil)))) pss_nil)
      (pss_cons (ps_daug (hu_of hr) (pe_fld (pv 0) rfl) (pv 2) (pv 3) in_add (fun _ _ _ => rfl))
      (pss_one (ps_fldaug (pv 0) (pv 3) in_add)))))), ?_⟩
  walk_at "rds"
  by_cases h1 : c = -1
  case neg =>
    rw [if_pos h1] at out
    refine ifT (by show (!decide (V.int c = V.int (-1))) = true; rw [decV', decide_eq_false h1]; rfl) ?_
    walk_at "rds"
    exact mk_one fun H' d s1 _ hd => out H' d s1 hd
  rw [if_neg (fun n => n h1)] at out
  refine ifF (by show (!decide (V.int c = V.int (-1))) = false; rw [decV', decide_eq_true h1]; rfl) ?_
  walk_at "rds"
  refine ⟨p, dx, _, rfl, g, rfl, ?_⟩
  walk_at "rds"
  refine ⟨p, n, b, h, he, s, k, rfl, aw, ?_⟩
  cases e1 : chk s k with
  | some z => rw [e1] at out; exact out
  | none =>
    rw [e1] at out
    dsimp only at out
    obtain ⟨x, gk⟩ := chk_none e1
    walk_at "rds"
    refine ⟨p, _, dx, _, _, rfl, g, T.cl_Accounts, T.na_Accounts__supply, rfl, ?_⟩
    walk_at "rds"
    by_cases h2 : 1000000000000000 < s.su + a
    · rw [if_pos h2] at out
      refine ifT (decide_eq_true h2) ?_
      walk_at "rds"
      exact mk_one fun H' d s1 _ hd => out H' d s1 hd
    rw [if_neg h2] at out
    refine ifF (decide_eq_false h2) ?_
    walk_at "rds"
    refine ⟨p, _, dx, _, _, rfl, g, T.cl_Accounts, T.na_Accounts__balances, rfl, ?_⟩
    walk_at "rds"
    refine ⟨b, _, rfl, .inl ⟨_, Sum.inr k, .inl aw.at_.ba, rfl, by rw [ba_val, gk]; rfl⟩, ?_⟩
    walk_at "rds"
    refine ⟨_, DPut.k (k := Sum.inr k) aw.at_.ba (by unfold baD; rw [kvs_len]; exact sz1000' (by omega)), ?_⟩
    rw [ba_put k x.1 (x.2 + a)]
    have a1 := aw.at_.bal aw.ok gk (x.2 + a)
    have bt1 : But [p, n, b, h] H (upd H b (.dK (baD (pA s.ac k (x.1, x.2 + a))))) := but_upd (by simp)
    generalize upd H b (.dK (baD (pA s.ac k (x.1, x.2 + a)))) = H1 at a1 bt1
    obtain ⟨dx1, g1⟩ := a1.ins
    walk_at "rds"
    refine ⟨p, _, dx1, _, _, rfl, g1, T.cl_Accounts, T.na_Accounts__supply, rfl, ?_⟩
    walk_at "rds"
    refine ⟨dx1, _, g1, (by show 4 < 1000; decide), ?_⟩
    refine Out.bal out (bt1.trans (but_upd (by simp))) ?_ aw.hs
    show AcAt _ _ p n b h (addB s.ac k a) he (s.su + a)
    rw [addB_some gk]
    exact a1.sup (s.su + a) g1
theorem m_Accounts__burn {C_Accounts : Addr} {C_LedgerError : Addr} {C_Refused : Addr} (T : Txt K mg C_Accounts C_LedgerError C_Refused) : MetX P w K mg base 5 C_Accounts "burn" (spAcBurn C_Refused C_Accounts) := by
  have m_Accounts___check_owner := m_Accounts___check_owner (P := P) (w := w) (base := base) T
  have m_Accounts___check_funds := m_Accounts___check_funds (P := P) (w := w) (base := base) T
  refine metX T.cl_Accounts T.me_Accounts__burn sc_Accounts__burn (fun vs H Q E h => ?_) (fun f cdv A outer s H vs Q E hr h => ?_)
  · obtain ⟨p, n, b, h, he, s, c, k, a, rfl, _⟩ := h; rfl
  obtain ⟨p, n, b, h, he, s, c, k, a, rfl, aw, out⟩ := h
  obtain ⟨dx, g⟩ := aw.at_.ins
  have la := aw.len
  unfold opBurn at out
  refine ⟨_, (pss_cons (ps_expr (pe_mtX m_Accounts___check_owner hr (by decide) (fun σ => passAt (takes_of rfl rfl rfl rfl) σ) (pv 0) (pa_cons (pv 1) (pa_cons (pv 2) pa_nil))))
      (pss_cons (ps_expr (pe_mtX m_Accounts___check_funds hr (by decide) (fun σ => passAt (takes_of rfl rfl rfl rfl) σ) (pv 0) (pa_cons (pv 2) (pa_cons (pv 3) pa_nil))))
      (pss_cons (ps_daug (hu_of hr) (pe_fld (pv 0) rfl) (pv 2) (pv 3) in_sub (fun _ _ _ => rfl))
      (pss_one (ps_fldaug (pv 0) (pv 3) in_sub))))), ?_⟩
  walk_at "rds"
  refine ⟨p, dx, _, rfl, g, rfl, ?_⟩
  walk_at "rds"
  refine ⟨p, n, b, h, he, s, c, k, rfl, aw, ?_⟩
  cases e2 : chkO s c k with
  | some z => rw [e2] at out; exact out
  | none =>
    rw [e2] at out
    dsimp only at out
    obtain ⟨x, gk, _⟩ := chkO_none e2
    walk_at "rds"
    refine ⟨p, dx, _, rfl, g, rfl, ?_⟩
    walk_at "rds"
    refine ⟨p, n, b, h, he, s, k, a, rfl, aw, (by rw [gk]; intro z; cases z), ?_⟩
    cases e3 : chkF s k a with
    | some z => rw [e3] at out; exact out
    | none =>
      rw [e3] at out
      dsimp only at out
      walk_at "rds"
      refine ⟨p, _, dx, _, _, rfl, g, T.cl_Accounts, T.na_Accounts__balances, rfl, ?_⟩
      walk_at "rds"
      refine ⟨b, _, rfl, .inl ⟨_, Sum.inr k, .inl aw.at_.ba, rfl, by rw [ba_val, gk]; rfl⟩, ?_⟩
      walk_at "rds"
      refine ⟨_, DPut.k (k := Sum.inr k) aw.at_.ba (by unfold baD; rw [kvs_len]; exact sz1000' (by omega)), ?_⟩
      rw [ba_put k x.1 (x.2 - a)]
      have a1 := aw.at_.bal aw.ok gk (x.2 - a)
      have bt1 : But [p, n, b, h] H (upd H b (.dK (baD (pA s.ac k (x.1, x.2 - a))))) := but_upd (by simp)
      generalize upd H b (.dK (baD (pA s.ac k (x.1, x.2 - a)))) = H1 at a1 bt1
      obtain ⟨dx1, g1⟩ := a1.ins
      walk_at "rds"
      refine ⟨p, _, dx1, _, _, rfl, g1, T.cl_Accounts, T.na_Accounts__supply, rfl, ?_⟩
      walk_at "rds"
      refine ⟨dx1, _, g1, (by show 4 < 1000; decide), ?_⟩
      refine Out.bal out (bt1.trans (but_upd (by simp))) ?_ aw.hs
      show AcAt _ _ p n b h (addB s.ac k (-a)) he (s.su - a)
      rw [addB_some gk, show x.2 + -a = x.2 - a by omega]
      exact a1.sup (s.su - a) g1
theorem m_Accounts__pay {C_Accounts : Addr} {C_LedgerError : Addr} {C_Refused : Addr} (T : Txt K mg C_Accounts C_LedgerError C_Refused) : MetX P w K mg base 6 C_Accounts "pay" (spAcPay C_Refused C_Accounts) := by
  have m_Accounts___check_payment := m_Accounts___check_payment (P := P) (w := w) (base := base) T
  refine metX T.cl_Accounts T.me_Accounts__pay sc_Accounts__pay (fun vs H Q E h => ?_) (fun f cdv A outer s H vs Q E hr h => ?_)
  · obtain ⟨p, n, b, h, he, s, c, x, y, a, rfl, _⟩ := h; rfl
  obtain ⟨p, n, b, h, he, s, c, x, y, a, rfl, aw, out⟩ := h
  obtain ⟨dx, g⟩ := aw.at_.ins
  have la := aw.len
  unfold opPay at out
  refine ⟨_, (pss_cons (ps_expr (pe_mtX m_Accounts___check_payment hr (by decide) (fun σ => passAt (takes_of rfl rfl rfl rfl) σ) (pv 0) (pa_cons (pv 1) (pa_cons (pv 2) (pa_cons (pv 3) (pa_cons (pv 4) pa_nil))))))
      (pss_cons (ps_daug (hu_of hr) (pe_fld (pv 0) rfl) (pv 2) (pv 4) in_sub (fun _ _ _ => rfl))
      (pss_one (ps_daug (hu_of hr) (pe_fld (pv 0) rfl) (pv 3) (pv 4) in_add (fun _ _ _ => rfl))))), ?_⟩
  walk_at "rds"
  refine ⟨p, dx, _, rfl, g, rfl, ?_⟩
  walk_at "rds"
  refine ⟨p, n, b, h, he, s, c, x, y, a, rfl, aw, ?_⟩
  cases e2 : chkP s c x y a with
  | some z => rw [e2] at out; exact out
  | none =>
    rw [e2] at out
    dsimp only at out
    obtain ⟨⟨u, gu⟩, v, gv⟩ := chkP_none e2
    walk_at "rds"
    refine ⟨p, _, dx, _, _, rfl, g, T.cl_Accounts, T.na_Accounts__balances, rfl, ?_⟩
    walk_at "rds"
    refine ⟨b, _, rfl, .inl ⟨_, Sum.inr x, .inl aw.at_.ba, rfl, by rw [ba_val, gu]; rfl⟩, ?_⟩
    walk_at "rds"
    refine ⟨_, DPut.k (k := Sum.inr x) aw.at_.ba (by unfold baD; rw [kvs_len]; exact sz1000' (by omega)), ?_⟩
    rw [ba_put x u.1 (u.2 - a)]
    have a1 := aw.at_.bal aw.ok gu (u.2 - a)
    have bt1 : But [p, n, b, h] H (upd H b (.dK (baD (pA s.ac x (u.1, u.2 - a))))) := but_upd (by simp)
    have ea : addB s.ac x (-a) = pA s.ac x (u.1, u.2 - a) := by rw [addB_some gu, show u.2 + -a = u.2 - a by omega]
    generalize upd H b (.dK (baD (pA s.ac x (u.1, u.2 - a)))) = H1 at a1 bt1
    rw [← ea] at a1
    have ok1 := addB_ok x (-a) aw.ok
    have l1 : (addB s.ac x (-a)).length = s.ac.length := addB_len (by rw [gu]; intro z; cases z)
    obtain ⟨v', gv'⟩ := some_of (addB_get (n := x) (m := y) (d := -a) aw.ok (by rw [gv]; intro z; cases z))
    have eo : addB (addB s.ac x (-a)) y a = pA (addB s.ac x (-a)) y (v'.1, v'.2 + a) := addB_some gv'
    generalize addB s.ac x (-a) = ac1 at a1 ok1 l1 gv' eo out
    obtain ⟨dx1, g1⟩ := a1.ins
    walk_at "rds"
    refine ⟨p, _, dx1, _, _, rfl, g1, T.cl_Accounts, T.na_Accounts__balances, rfl, ?_⟩
    walk_at "rds"
    refine ⟨b, _, rfl, .inl ⟨_, Sum.inr y, .inl a1.ba, rfl, by rw [ba_val, gv']; rfl⟩, ?_⟩
    walk_at "rds"
    refine ⟨_, DPut.k (k := Sum.inr y) a1.ba (by unfold baD; rw [kvs_len]; exact sz1000' (by omega)), ?_⟩
    rw [ba_put y v'.1 (v'.2 + a)]
    refine Out.bal out (bt1.trans (but_upd (by simp))) ?_ aw.hs
    show AcAt _ _ p n b h (addB ac1 y a) he s.su
    rw [eo]
    exact a1.bal ok1 gv' (v'.2 + a)
theorem m_Accounts__hold {C_Accounts : Addr} {C_LedgerError : Addr} {C_Refused : Addr} (T : Txt K mg C_Accounts C_LedgerError C_Refused) : MetX P w K mg base 6 C_Accounts "hold" (spAcHold C_Refused C_Accounts) := by
  have i_Refused := i_Refused (P := P) (w := w) (base := base) T
  have m_Accounts___check_payment := m_Accounts___check_payment (P := P) (w := w) (base := base) T
  refine metX T.cl_Accounts T.me_Accounts__hold sc_Accounts__hold (fun vs H Q E h => ?_) (fun f cdv A outer s H vs Q E hr h => ?_)
  · obtain ⟨p, n, b, h, he, s, c, x, y, a, k, rfl, _⟩ := h; rfl
  obtain ⟨p, n, b, h, he, s, c, x, y, a, k, rfl, aw, out⟩ := h
  obtain ⟨dx, g⟩ := aw.at_.ins
  have la := aw.len
  have lh := aw.hlen
  have le := hsOf_len he
  rw [aw.hs] at le
  unfold opHold at out
  refine ⟨_, (pss_cons (ps_expr (pe_mtX m_Accounts___check_payment hr (by decide) (fun σ => passAt (takes_of rfl rfl rfl rfl) σ) (pv 0) (pa_cons (pv 1) (pa_cons (pv 2) (pa_cons (pv 3) (pa_cons (pv 4) pa_nil))))))
      (pss_cons (ps_if (pt_cmp (pc_din (by exact hu_of hr) (pv 5) (pe_fld (pv 0) rfl))) (pss_one (ps_raise rfl (takes_of rfl rfl rfl rfl) (pmk_ei i_Refused hr (by decide) (by rfl) (pa_cons pe_str pa_nil)))) pss_nil)
      (pss_cons (ps_if (pt_cmpR op_ge (pe_callB call_lenD (by rfl) T.z_len (by decide +kernel) (pa_cons (pe_fld (pv 0) rfl) pa_nil)) (pe_gc (by rfl) T.c_HOLD_LIMIT) (nomark _)) (pss_one (ps_raise rfl (takes_of rfl rfl rfl rfl) (pmk_ei i_Refused hr (by decide) (by rfl) (pa_cons pe_str pa_nil)))) pss_nil)
      (pss_cons (ps_daug (hu_of hr) (pe_fld (pv 0) rfl) (pv 2) (pv 4) in_sub (fun _ _ _ => rfl))
      (pss_one (ps_dput (hu_of hr) (pe_fld (pv 0) rfl) (pv 5) (pe_tup (pa_cons (pv 2) (pa_cons (pv 3) (pa_cons (pv 4) pa_nil)))) rfl)))))), ?_⟩
  walk_at "rds"
  refine ⟨p, dx, _, rfl, g, rfl, ?_⟩
  walk_at "rds"
  refine ⟨p, n, b, h, he, s, c, x, y, a, rfl, aw, ?_⟩
  cases e2 : chkP s c x y a with
  | some z => rw [e2] at out; exact out
  | none =>
    rw [e2] at out
    dsimp only at out
    obtain ⟨⟨u, gu⟩, v, gv⟩ := chkP_none e2
    have gh := gA_hsOf he k
    rw [aw.hs] at gh
    walk_at "rds"
    refine ⟨p, _, dx, _, _, rfl, g, T.cl_Accounts, T.na_Accounts__holds, rfl, ?_⟩
    refine ⟨h, _, rfl, DGet.k (k := Sum.inr k) aw.at_.ho, ?_⟩
    rw [ho_val]
    cases gk : gA he k with
    | some z =>
      rw [gk] at gh
      rw [show gA s.ho k = some z.2 from gh] at out
      walk_at "rds"
      exact mk_one fun H' d s1 _ hd => out H' d s1 hd
    | none =>
      rw [gk] at gh
      rw [show gA s.ho k = none from gh] at out
      have out : OutA C_Refused C_Accounts H p n b h Q E (if 100 ≤ s.ho.length then .inl "full" else .inr { s with ac := addB s.ac x (-a), ho := pA s.ho k (x, y, a) }) := out
      walk_at "rds"
      refine ⟨p, _, dx, _, _, rfl, g, T.cl_Accounts, T.na_Accounts__holds, rfl, ?_⟩
      walk_at "rds"
      refine ⟨h, _, rfl, aw.at_.ho, ?_⟩
      rw [show (hoD he).length = he.length from kvs_len _ _ _]
      walk_at "rds"
      by_cases hl : 100 ≤ s.ho.length
      · rw [if_pos hl] at out
        refine ifT (decide_eq_true (by omega)) ?_
        walk_at "rds"
        exact mk_one fun H' d s1 _ hd => out H' d s1 hd
      rw [if_neg hl] at out
      refine ifF (decide_eq_false (by omega)) ?_
      walk_at "rds"
      refine ⟨p, _, dx, _, _, rfl, g, T.cl_Accounts, T.na_Accounts__balances, rfl, ?_⟩
      walk_at "rds"
      refine ⟨b, _, rfl, .inl ⟨_, Sum.inr x, .inl aw.at_.ba, rfl, by rw [ba_val, gu]; rfl⟩, ?_⟩
      walk_at "rds"
      refine ⟨_, DPut.k (k := Sum.inr x) aw.at_.ba (by unfold baD; rw [kvs_len]; exact sz1000' (by omega)), ?_⟩
      rw [ba_put x u.1 (u.2 - a)]
      have a1 := aw.at_.bal aw.ok gu (u.2 - a)
      have bt1 : But [p, n, b, h] H (upd H b (.dK (baD (pA s.ac x (u.1, u.2 - a))))) := but_upd (by simp)
      have ea : addB s.ac x (-a) = pA s.ac x (u.1, u.2 - a) := by rw [addB_some gu, show u.2 + -a = u.2 - a by omega]
      generalize upd H b (.dK (baD (pA s.ac x (u.1, u.2 - a)))) = H1 at a1 bt1
      rw [← ea] at a1
      walk_at "rds"
      intro t ht
      have st := same_upd (o := .tup [.str x, .str y, .int a]) ht
      have et : upd H1 t (.tup [.str x, .str y, .int a]) t = some (.tup (holdV (x, y, a))) := upd_same
      have a2 := a1.on st
      have bt2 := bt1.trans (Same.but st)
      generalize upd H1 t (.tup [V.str x, .str y, .int a]) = H2 at et a2 bt2
      obtain ⟨dx2, g2⟩ := a2.ins
      walk_at "rds"
      refine ⟨p, _, dx2, _, _, rfl, g2, T.cl_Accounts, T.na_Accounts__holds, rfl, ?_⟩
      walk_at "rds"
      refine ⟨h, _, rfl, DPut.k (k := Sum.inr k) a2.ho (by unfold hoD; rw [kvs_len]; exact sz1000' (by omega)), ?_⟩
      rw [ho_put k t (x, y, a)]
      refine Out.bal out (bt2.trans (but_upd (by simp))) (a2.hold (k := k) et) ?_
      rw [pA_hsOf, aw.hs]
end

def rowA (ac : AB) (k : Str) : PyData := match gA ac k with
  | some x => .tuple [.str k, .int x.1, .int x.2]
  | none => .none
def rowH (ho : HS) (k : Str) : PyData := match gA ho k with
  | some x => .tuple [.str k, .str x.1, .str x.2.1, .int x.2.2]
  | none => .none
def Tx (z : Str) : Prop := z.length ≤ 1000 ∧ PyData.strOk z = true
def sortK {α : Type} (ks : List (Str × α)) : List Str := sortS (ks.map (·.1))
theorem sortK_mem {α : Type} {ks : List (Str × α)} {k : Str} : k ∈ sortK ks ↔ k ∈ ks.map (·.1) := (sortS_perm _).mem_iff
theorem sortK_len {α : Type} (ks : List (Str × α)) : (sortK ks).length = ks.length := by unfold sortK; rw [sortS_len, List.length_map]
theorem sortK_get {α : Type} {ks : List (Str × α)} (hok : kOk ks) {k : Str} (m : k ∈ sortK ks) : ∃ x, gA ks k = some x ∧ (k, x) ∈ ks := by
  obtain ⟨y, my, rfl⟩ := List.mem_map.mp (sortK_mem.mp m)
  exact ⟨y.2, gA_mem hok my, my⟩
theorem rowA_noL {ac : AB} (k : Str) : noL (rowA ac k) = true := by
  unfold rowA; cases gA ac k <;> rfl
theorem rowH_noL {ho : HS} (k : Str) : noL (rowH ho k) = true := by
  unfold rowH; cases gA ho k <;> rfl
def ShA (s : AS) : Prop := (∀ e ∈ s.ac, Tx e.1) ∧ ∀ e ∈ s.ho, Tx e.1 ∧ Tx e.2.1 ∧ Tx e.2.2.1
def spAcRows (K : PySem.W.Frag) (C : Addr) : Sp := fun vs H Q _ => ∃ (p n b h : Addr) (he : HE) (s : AS), vs = [.ref p] ∧ AW C H p n b h he s ∧ ShA s ∧
  ∀ (xs : List V) H' r, Same H H' → H r = none → H' r = some (.lst xs) → DtAll K H' none xs ((sortK s.ac).map (rowA s.ac)) → Q (.ref r) H'
def spAcHelds (K : PySem.W.Frag) (C : Addr) : Sp := fun vs H Q _ => ∃ (p n b h : Addr) (he : HE) (s : AS), vs = [.ref p] ∧ AW C H p n b h he s ∧ kOk s.ho ∧ ShA s ∧
  ∀ (xs : List V) H' r, Same H H' → H r = none → H' r = some (.lst xs) → DtAll K H' none xs ((sortK s.ho).map (rowH s.ho)) → Q (.ref r) H'
def spAcSup (C : Addr) : Sp := fun vs H Q _ => ∃ (p n b h : Addr) (he : HE) (s : AS), vs = [.ref p] ∧ AW C H p n b h he s ∧ Q (.int s.su) H
theorem AW.on {C : Addr} {H H' : Hp} {p n b h : Addr} {he : HE} {s : AS} (a : AW C H p n b h he s) (sm : Same H H') : AW C H' p n b h he s := { a with at_ := a.at_.on sm }
section
variable {P : Program} {w : World} {K : PySem.W.Frag} {mg : Str → Option Value} {base : Heap}
theorem m_Accounts__settle {C_Accounts : Addr} {C_LedgerError : Addr} {C_Refused : Addr} (T : Txt K mg C_Accounts C_LedgerError C_Refused) : MetX P w K mg base 5 C_Accounts "settle" (spAcSettle C_Refused C_Accounts) := by
  have m_Accounts___hold_of := m_Accounts___hold_of (P := P) (w := w) (base := base) T
  have m_Accounts___check_owner := m_Accounts___check_owner (P := P) (w := w) (base := base) T
  refine metX T.cl_Accounts T.me_Accounts__settle sc_Accounts__settle (fun vs H Q E h => ?_) (fun f cdv A outer s H vs Q E hr h => ?_)
  · obtain ⟨p, n, b, h, he, s, c, k, rfl, _⟩ := h; rfl
  obtain ⟨p, n, b, h, he, s, c, k, rfl, aw, out⟩ := h
  obtain ⟨dx, g⟩ := aw.at_.ins
  have la := aw.len
  have gh := gA_hsOf he k
  rw [aw.hs] at gh
  unfold opSettle at out
  refine ⟨_, (pss_cons (ps_asg (pe_mtX m_Accounts___hold_of hr (by decide) (fun σ => passAt (takes_of rfl rfl rfl rfl) σ) (pv 0) (pa_cons (pv 2) pa_nil)) (pg_tup (by rfl) (pgs_cons (pg_name (i := 3) sc_Accounts__settle.nd rfl (Or.inl rfl)) (pgs_cons (pg_name (i := 4) sc_Accounts__settle.nd rfl (Or.inl rfl)) (pgs_cons (pg_name (i := 5) sc_Accounts__settle.nd rfl (Or.inl rfl)) pgs_nil)))))
      (pss_cons (ps_expr (pe_mtX m_Accounts___check_owner hr (by decide) (fun σ => passAt (takes_of rfl rfl rfl rfl) σ) (pv 0) (pa_cons (pv 1) (pa_cons (pv 3) pa_nil))))
      (pss_cons (ps_daug (hu_of hr) (pe_fld (pv 0) rfl) (pv 4) (pv 5) in_add (fun _ _ _ => rfl))
      (pss_one (ps_ddel (pe_fld (pv 0) rfl) (pv 2)))))), ?_⟩
  walk_at "rds"
  refine ⟨p, dx, _, rfl, g, rfl, ?_⟩
  walk_at "rds"
  refine ⟨p, n, b, h, he, s, k, rfl, aw, fun gk => ?_, fun x gk => ?_⟩
  · rw [gk] at gh
    rw [show gA s.ho k = none from gh] at out
    exact out
  rw [gk] at gh
  have gh : gA s.ho k = some x.2 := gh
  have mh : (k, x.2) ∈ s.ho := gA_some gh
  rw [gh] at out
  have out : OutA C_Refused C_Accounts H p n b h Q E (match chkO s c x.2.1 with
    | some z => .inl z
    | none => .inr { s with ac := addB s.ac x.2.2.1 x.2.2.2, ho := rmA s.ho k }) := out
  have ht := aw.at_.tp _ (gA_some gk)
  obtain ⟨y, gy⟩ := some_of (aw.src _ mh).2
  have gy : gA s.ac x.2.2.1 = some y := gy
  refine ⟨x.1, _, rfl, SqT.of ht, rfl, _, _, rfl, _, _, rfl, _, _, rfl, rfl, ?_⟩
  walk_at "rds"
  refine ⟨p, dx, _, rfl, g, rfl, ?_⟩
  walk_at "rds"
  refine ⟨p, n, b, h, he, s, c, x.2.1, rfl, aw, ?_⟩
  cases e2 : chkO s c x.2.1 with
  | some z => rw [e2] at out; exact out
  | none =>
    rw [e2] at out
    dsimp only at out
    walk_at "rds"
    refine ⟨p, _, dx, _, _, rfl, g, T.cl_Accounts, T.na_Accounts__balances, rfl, ?_⟩
    walk_at "rds"
    refine ⟨b, _, rfl, .inl ⟨_, Sum.inr x.2.2.1, .inl aw.at_.ba, rfl, by rw [ba_val, gy]; rfl⟩, ?_⟩
    walk_at "rds"
    refine ⟨_, DPut.k (k := Sum.inr x.2.2.1) aw.at_.ba (by unfold baD; rw [kvs_len]; exact sz1000' (by omega)), ?_⟩
    rw [ba_put x.2.2.1 y.1 (y.2 + x.2.2.2)]
    have a1 := aw.at_.bal aw.ok gy (y.2 + x.2.2.2)
    have bt1 : But [p, n, b, h] H (upd H b (.dK (baD (pA s.ac x.2.2.1 (y.1, y.2 + x.2.2.2))))) := but_upd (by simp)
    generalize upd H b (.dK (baD (pA s.ac x.2.2.1 (y.1, y.2 + x.2.2.2)))) = H1 at a1 bt1
    obtain ⟨dx1, g1⟩ := a1.ins
    walk_at "rds"
    refine ⟨p, _, dx1, _, _, rfl, g1, T.cl_Accounts, T.na_Accounts__holds, rfl, ?_⟩
    walk_at "rds"
    refine ⟨h, _, Sum.inr k, rfl, a1.ho, rfl, by rw [ho_val, gk]; rfl, ?_⟩
    rw [show dropK (hoD he) (Sum.inr k) = hoD (rmA he k) from dropK_rmA inrI _ he k]
    refine Out.bal out (bt1.trans (but_upd (by simp))) ?_ (by rw [rmA_hsOf, aw.hs])
    show AcAt _ _ p n b h (addB s.ac x.2.2.1 x.2.2.2) (rmA he k) s.su
    rw [addB_some gy]
    exact a1.free k
theorem m_Accounts__release {C_Accounts : Addr} {C_LedgerError : Addr} {C_Refused : Addr} (T : Txt K mg C_Accounts C_LedgerError C_Refused) : MetX P w K mg base 5 C_Accounts "release" (spAcRelease C_Refused C_Accounts) := by
  have m_Accounts___hold_of := m_Accounts___hold_of (P := P) (w := w) (base := base) T
  have m_Accounts___check_owner := m_Accounts___check_owner (P := P) (w := w) (base := base) T
  refine metX T.cl_Accounts T.me_Accounts__release sc_Accounts__release (fun vs H Q E h => ?_) (fun f cdv A outer s H vs Q E hr h => ?_)
  · obtain ⟨p, n, b, h, he, s, c, k, rfl, _⟩ := h; rfl
  obtain ⟨p, n, b, h, he, s, c, k, rfl, aw, out⟩ := h
  obtain ⟨dx, g⟩ := aw.at_.ins
  have la := aw.len
  have gh := gA_hsOf he k
  rw [aw.hs] at gh
  unfold opRelease at out
  refine ⟨_, (pss_cons (ps_asg (pe_mtX m_Accounts___hold_of hr (by decide) (fun σ => passAt (takes_of rfl rfl rfl rfl) σ) (pv 0) (pa_cons (pv 2) pa_nil)) (pg_tup (by rfl) (pgs_cons (pg_name (i := 3) sc_Accounts__release.nd rfl (Or.inl rfl)) (pgs_cons (pg_name (i := 4) sc_Accounts__release.nd rfl (Or.inl rfl)) (pgs_cons (pg_name (i := 5) sc_Accounts__release.nd rfl (Or.inl rfl)) pgs_nil)))))
      (pss_cons (ps_expr (pe_mtX m_Accounts___check_owner hr (by decide) (fun σ => passAt (takes_of rfl rfl rfl rfl) σ) (pv 0) (pa_cons (pv 1) (pa_cons (pv 4) pa_nil))))
      (pss_cons (ps_daug (hu_of hr) (pe_fld (pv 0) rfl) (pv 3) (pv 5) in_add (fun _ _ _ => rfl))
      (pss_one (ps_ddel (pe_fld (pv 0) rfl) (pv 2)))))), ?_⟩
  walk_at "rds"
  refine ⟨p, dx, _, rfl, g, rfl, ?_⟩
  walk_at "rds"
  refine ⟨p, n, b, h, he, s, k, rfl, aw, fun gk => ?_, fun x gk => ?_⟩
  · rw [gk] at gh
    rw [show gA s.ho k = none from gh] at out
    exact out
  rw [gk] at gh
  have gh : gA s.ho k = some x.2 := gh
  have mh : (k, x.2) ∈ s.ho := gA_some gh
  rw [gh] at out
  have out : OutA C_Refused C_Accounts H p n b h Q E (match chkO s c x.2.2.1 with
    | some z => .inl z
    | none => .inr { s with ac := addB s.ac x.2.1 x.2.2.2, ho := rmA s.ho k }) := out
  have ht := aw.at_.tp _ (gA_some gk)
  obtain ⟨y, gy⟩ := some_of (aw.src _ mh).1
  have gy : gA s.ac x.2.1 = some y := gy
  refine ⟨x.1, _, rfl, SqT.of ht, rfl, _, _, rfl, _, _, rfl, _, _, rfl, rfl, ?_⟩
  walk_at "rds"
  refine ⟨p, dx, _, rfl, g, rfl, ?_⟩
  walk_at "rds"
  refine ⟨p, n, b, h, he, s, c, x.2.2.1, rfl, aw, ?_⟩
  cases e2 : chkO s c x.2.2.1 with
  | some z => rw [e2] at out; exact out
  | none =>
    rw [e2] at out
    dsimp only at out
    walk_at "rds"
    refine ⟨p, _, dx, _, _, rfl, g, T.cl_Accounts, T.na_Accounts__balances, rfl, ?_⟩
    walk_at "rds"
    refine ⟨b, _, rfl, .inl ⟨_, Sum.inr x.2.1, .inl aw.at_.ba, rfl, by rw [ba_val, gy]; rfl⟩, ?_⟩
    walk_at "rds"
    refine ⟨_, DPut.k (k := Sum.inr x.2.1) aw.at_.ba (by unfold baD; rw [kvs_len]; exact sz1000' (by omega)), ?_⟩
    rw [ba_put x.2.1 y.1 (y.2 + x.2.2.2)]
    have a1 := aw.at_.bal aw.ok gy (y.2 + x.2.2.2)
    have bt1 : But [p, n, b, h] H (upd H b (.dK (baD (pA s.ac x.2.1 (y.1, y.2 + x.2.2.2))))) := but_upd (by simp)
    generalize upd H b (.dK (baD (pA s.ac x.2.1 (y.1, y.2 + x.2.2.2)))) = H1 at a1 bt1
    obtain ⟨dx1, g1⟩ := a1.ins
    walk_at "rds"
    refine ⟨p, _, dx1, _, _, rfl, g1, T.cl_Accounts, T.na_Accounts__holds, rfl, ?_⟩
    walk_at "rds"
    refine ⟨h, _, Sum.inr k, rfl, a1.ho, rfl, by rw [ho_val, gk]; rfl, ?_⟩
    rw [show dropK (hoD he) (Sum.inr k) = hoD (rmA he k) from dropK_rmA inrI _ he k]
    refine Out.bal out (bt1.trans (but_upd (by simp))) ?_ (by rw [rmA_hsOf, aw.hs])
    show AcAt _ _ p n b h (addB s.ac x.2.1 x.2.2.2) (rmA he k) s.su
    rw [addB_some gy]
    exact a1.free k
theorem m_Accounts__supply {C_Accounts : Addr} {C_LedgerError : Addr} {C_Refused : Addr} (T : Txt K mg C_Accounts C_LedgerError C_Refused) : Met P w K mg base 1 C_Accounts "supply" (spAcSup C_Accounts) [] := by
  refine met T.cl_Accounts T.me_Accounts__supply sc_Accounts__supply (fun vs H Q E h => ?_) (fun f cdv A outer s H vs Q E hr h => ?_)
  · obtain ⟨p, n, b, h, he, s, rfl, _⟩ := h; rfl
  obtain ⟨p, n, b, h, he, s, rfl, aw, q⟩ := h
  obtain ⟨dx, g⟩ := aw.at_.ins
  refine ⟨_, (pss_one (ps_ret (pe_fld (pv 0) rfl))), ?_⟩
  walk_at "rds"
  refine ⟨p, _, dx, _, _, rfl, g, T.cl_Accounts, T.na_Accounts__supply, rfl, ?_⟩
  exact q
theorem m_Accounts__rows {C_Accounts : Addr} {C_LedgerError : Addr} {C_Refused : Addr} (T : Txt K mg C_Accounts C_LedgerError C_Refused) : Met P w K mg base 1 C_Accounts "rows" (spAcRows K C_Accounts) [] := by
  refine met T.cl_Accounts T.me_Accounts__rows sc_Accounts__rows (fun vs H Q E h => ?_) (fun f cdv A outer s H vs Q E hr h => ?_)
  · obtain ⟨p, n, b, h, he, s, rfl, _⟩ := h; rfl
  obtain ⟨p, n, b, h, he, s, rfl, aw, sh, q⟩ := h
  obtain ⟨dx, g⟩ := aw.at_.ins
  have la := aw.len
  have hok := aw.ok
  refine ⟨_, (pss_one (ps_ret (pe_lc (own := [("name", 1)]) (g := gName 1) (by rfl) sc_Accounts__rows.nd (pi_list (pe_callB (call_sortedDS rfl (units65 hr)) (by rfl) T.z_sorted (by decide +kernel) (pa_cons (pe_fld (pv 0) rfl) pa_nil))) (blkOk_by (own := [("name", 1)]) (N := ["self", "name"]) (sc := defScope s_Accounts__rows) (by decide +kernel)) (fun _ _ _ _ _ => pg_name (i := 1) sc_Accounts__rows.nd rfl (Or.inl rfl)) (fun _ _ _ _ _ => pts_nil) (fun _ _ _ _ _ => (pe_tup (pa_cons (pv 1) (pa_cons (pe_dget (by exact hu_of hr) (kfld (K := K) (pv 0)) (pv 1) (fun _ _ => rfl)) (pa_cons (pe_dget (by exact hu_of hr) (kfld (K := K) (pv 0)) (pv 1) (fun _ _ => rfl)) pa_nil)))))))), ?_⟩
  walk_at "rds"
  refine ⟨p, _, dx, _, _, rfl, g, T.cl_Accounts, T.na_Accounts__owners, rfl, ?_⟩
  walk_at "rds"
  refine ⟨n, _, s.ac.map (fun k => k.1), rfl, .inl aw.at_.ow, (by exact kvs_keys), by rw [List.length_map]; omega, fun l hl => ?_⟩
  walk_at "rds"
  have s1 : Same H (upd H l (.lst ((sortK s.ac).map V.str))) := same_upd hl
  have hl1 : upd H l (.lst ((sortK s.ac).map V.str)) l = some (.lst ((sortK s.ac).map V.str)) := upd_same
  have e1 : upd H l (.lst ((sortS (s.ac.map fun k => k.1)).map V.str)) = upd H l (.lst ((sortK s.ac).map V.str)) := rfl
  rw [e1]
  generalize upd H l (.lst ((sortK s.ac).map V.str)) = H1 at s1 hl1
  have lK : (sortK s.ac).length ≤ 1000 := by rw [sortK_len]; exact la
  refine ⟨⟨_, sq hl1⟩, fun D hD => ?_⟩
  refine lc_it (walk_list (K := K) (a := l) (xs := (sortK s.ac).map V.str)) (Pv := fun i H' => ∃ xs, Same H1 H' ∧ H' D = some (.lst xs) ∧ DtAll K H' none xs (((sortK s.ac).take i).map (rowA s.ac))) ⟨[], same_upd hD, upd_same, .nil⟩ (fun _ _ _ h => by obtain ⟨_, h, _⟩ := h; exact sq (h _ _ hl1)) (fun i x H6 H7 hi hp2 hy => ?_) (fun H6 hp2 => ?_)
  · obtain ⟨xs, s6, hD6, hx6⟩ := hp2
    obtain ⟨rfl, gx⟩ := hy
    rw [List.length_map] at hi
    rw [List.getElem?_map, List.getElem?_eq_getElem hi] at gx
    obtain rfl : V.str (sortK s.ac)[i] = x := Option.some.inj gx
    obtain ⟨x, gk, mk⟩ := sortK_get hok (List.getElem_mem hi)
    have ht : (sortK s.ac).take (i + 1) = (sortK s.ac).take i ++ [(sortK s.ac)[i]] := by rw [List.take_add_one, List.getElem?_eq_getElem hi]; rfl
    have a6 := aw.at_.on (s1.trans s6)
    obtain ⟨dx6, g6⟩ := a6.ins
    rw [ht, List.map_append]
    generalize (sortK s.ac)[i] = c at gk mk
    have e3 : rowA s.ac c = .tuple [.str c, .int x.1, .int x.2] := by unfold rowA; rw [gk]
    have hc := sh.1 _ mk
    refine ⟨rfl, tyes ?_⟩
    walk_at "rds"
    refine ⟨p, _, dx6, _, _, rfl, g6, T.cl_Accounts, T.na_Accounts__owners, rfl, ?_⟩
    walk_at "rds"
    refine ⟨n, _, rfl, .inl ⟨_, Sum.inr c, .inl a6.ow, rfl, by rw [aow_val, gk]; rfl⟩, ?_⟩
    walk_at "rds"
    refine ⟨p, _, dx6, _, _, rfl, g6, T.cl_Accounts, T.na_Accounts__balances, rfl, ?_⟩
    walk_at "rds"
    refine ⟨b, _, rfl, .inl ⟨_, Sum.inr c, .inl a6.ba, rfl, by rw [ba_val, gk]; rfl⟩, ?_⟩
    walk_at "rds"
    intro t htn
    have hD7 := (same_upd (o := .tup [.str c, .int x.1, .int x.2]) htn) _ _ hD6
    have hxl : xs.length ≤ i := by rw [hx6.length, List.length_map, List.length_take]; omega
    refine ⟨xs, hD7, sz1000' (by omega), xs ++ [.ref t], same_mut (s6.trans (same_upd htn)) hD, upd_same, ?_⟩
    have hdt : Dt K (upd H7 t (.tup [.str c, .int x.1, .int x.2])) none (.ref t) (rowA s.ac c) := by
      rw [e3]
      exact .tup (.inl upd_same) (.cons (.str _ (Nat.le_trans hc.1 (by decide))) (.cons (.int _) (.cons (.int _) .nil)))
    refine DtAll.keep (tp_put hD7) _ _ (noLs_all fun d hd => ?_) ((hx6.on (same_upd htn)).snoc hdt)
    rcases List.mem_append.mp hd with hd | hd
    · obtain ⟨z, _, rfl⟩ := List.mem_map.mp hd; exact rowA_noL z
    · rw [List.mem_singleton.mp hd]; exact rowA_noL c
  · obtain ⟨xs, s6, hD6, hx6⟩ := hp2
    rw [List.length_map, List.take_of_length_le (Nat.le_refl _)] at hx6
    exact q xs H6 D (s1.trans s6) (same_none s1 hD) hD6 hx6
theorem m_Accounts__held {C_Accounts : Addr} {C_LedgerError : Addr} {C_Refused : Addr} (T : Txt K mg C_Accounts C_LedgerError C_Refused) : Met P w K mg base 1 C_Accounts "held" (spAcHelds K C_Accounts) [] := by
  refine met T.cl_Accounts T.me_Accounts__held sc_Accounts__held (fun vs H Q E h => ?_) (fun f cdv A outer s H vs Q E hr h => ?_)
  · obtain ⟨p, n, b, h, he, s, rfl, _⟩ := h; rfl
  obtain ⟨p, n, b, h, he, s, rfl, aw, hok, sh, q⟩ := h
  obtain ⟨dx, g⟩ := aw.at_.ins
  have la := aw.hlen
  refine ⟨_, (pss_one (ps_ret (pe_lc (own := [("key", 1)]) (g := gName 1) (by rfl) sc_Accounts__held.nd (pi_list (pe_callB (call_sortedDS rfl (units65 hr)) (by rfl) T.z_sorted (by decide +kernel) (pa_cons (pe_fld (pv 0) rfl) pa_nil))) (blkOk_by (own := [("key", 1)]) (N := ["self", "key"]) (sc := defScope s_Accounts__held) (by decide +kernel)) (fun _ _ _ _ _ => pg_name (i := 1) sc_Accounts__held.nd rfl (Or.inl rfl)) (fun _ _ _ _ _ => pts_nil) (fun _ _ _ _ _ => (pe_op (kcatA (K := K)) (pe_tup (pa_cons (pv 1) pa_nil)) (pe_dget (by exact hu_of hr) (kfld (K := K) (pv 0)) (pv 1) (fun _ _ => rfl))))))), ?_⟩
  walk_at "rds"
  refine ⟨p, _, dx, _, _, rfl, g, T.cl_Accounts, T.na_Accounts__holds, rfl, ?_⟩
  walk_at "rds"
  refine ⟨h, _, he.map (fun k => k.1), rfl, .inl aw.at_.ho, (by exact kvs_keys), by have := hsOf_len he; rw [aw.hs] at this; rw [List.length_map]; omega, fun l hl => ?_⟩
  walk_at "rds"
  have s1 : Same H (upd H l (.lst ((sortK s.ho).map V.str))) := same_upd hl
  have hl1 : upd H l (.lst ((sortK s.ho).map V.str)) l = some (.lst ((sortK s.ho).map V.str)) := upd_same
  have e1 : upd H l (.lst ((sortS (he.map fun k => k.1)).map V.str)) = upd H l (.lst ((sortK s.ho).map V.str)) := by unfold sortK; rw [← aw.hs, hsOf_keys]
  rw [e1]
  generalize upd H l (.lst ((sortK s.ho).map V.str)) = H1 at s1 hl1
  have lK : (sortK s.ho).length ≤ 1000 := by rw [sortK_len]; exact la
  refine ⟨⟨_, sq hl1⟩, fun D hD => ?_⟩
  refine lc_it (walk_list (K := K) (a := l) (xs := (sortK s.ho).map V.str)) (Pv := fun i H' => ∃ xs, Same H1 H' ∧ H' D = some (.lst xs) ∧ DtAll K H' none xs (((sortK s.ho).take i).map (rowH s.ho))) ⟨[], same_upd hD, upd_same, .nil⟩ (fun _ _ _ h => by obtain ⟨_, h, _⟩ := h; exact sq (h _ _ hl1)) (fun i x H6 H7 hi hp2 hy => ?_) (fun H6 hp2 => ?_)
  · obtain ⟨xs, s6, hD6, hx6⟩ := hp2
    obtain ⟨rfl, gx⟩ := hy
    rw [List.length_map] at hi
    rw [List.getElem?_map, List.getElem?_eq_getElem hi] at gx
    obtain rfl : V.str (sortK s.ho)[i] = x := Option.some.inj gx
    obtain ⟨y, gy, mk⟩ := sortK_get hok (List.getElem_mem hi)
    have ht : (sortK s.ho).take (i + 1) = (sortK s.ho).take i ++ [(sortK s.ho)[i]] := by rw [List.take_add_one, List.getElem?_eq_getElem hi]; rfl
    have a6 := aw.at_.on (s1.trans s6)
    obtain ⟨dx6, g6⟩ := a6.ins
    rw [ht, List.map_append]
    generalize (sortK s.ho)[i] = c at gy mk
    have e3 : rowH s.ho c = .tuple [.str c, .str y.1, .str y.2.1, .int y.2.2] := by unfold rowH; rw [gy]
    have hc := sh.2 _ mk
    have gh := gA_hsOf he c
    rw [aw.hs, gy] at gh
    obtain ⟨x, gk, ex⟩ := Option.map_eq_some_iff.mp gh.symm
    have htx := a6.tp _ (gA_some gk)
    subst ex
    refine ⟨rfl, tyes ?_⟩
    walk_at "rds"
    intro t0 ht0
    have st0 := same_upd (o := .tup [.str c]) ht0
    have e0 : upd H7 t0 (.tup [.str c]) t0 = some (.tup [.str c]) := upd_same
    have a7 := a6.on st0
    have hD7 := st0 _ _ hD6
    have hx7 := hx6.on st0
    have s7 := s6.trans st0
    have htx7 := st0 _ _ htx
    generalize upd H7 t0 (.tup [V.str c]) = H8 at e0 a7 hD7 hx7 s7 htx7
    obtain ⟨dx7, g7⟩ := a7.ins
    walk_at "rds"
    refine ⟨p, _, dx7, _, _, rfl, g7, T.cl_Accounts, T.na_Accounts__holds, rfl, ?_⟩
    walk_at "rds"
    refine ⟨h, _, rfl, .inl ⟨_, Sum.inr c, .inl a7.ho, rfl, by rw [ho_val, gk]; rfl⟩, ?_⟩
    have dA : Dt K H8 none (.ref t0) (.tuple [.str c]) := .tup (.inl e0) (.cons (.str _ (Nat.le_trans hc.1.1 (by decide))) .nil)
    have dB : Dt K H8 none (.ref x.1) (.tuple [.str x.2.1, .str x.2.2.1, .int x.2.2.2]) := .tup (.inl htx7) (.cons (.str _ (Nat.le_trans hc.2.1.1 (by decide))) (.cons (.str _ (Nat.le_trans hc.2.2.1 (by decide))) (.cons (.int _) .nil)))
    refine cat_dt dA dB (by show 1 + 3 ≤ 100000; decide) fun H9 v9 s9 d9 => ?_
    have hD9 := s9 _ _ hD7
    have hxl : xs.length ≤ i := by rw [hx6.length, List.length_map, List.length_take]; omega
    refine ⟨xs, hD9, sz1000' (by omega), xs ++ [v9], same_mut (s7.trans s9) hD, upd_same, ?_⟩
    have hdt : Dt K H9 none v9 (rowH s.ho c) := by rw [e3]; exact d9
    refine DtAll.keep (tp_put hD9) _ _ (noLs_all fun d hd => ?_) ((hx7.on s9).snoc hdt)
    rcases List.mem_append.mp hd with hd | hd
    · obtain ⟨z, _, rfl⟩ := List.mem_map.mp hd; exact rowH_noL z
    · rw [List.mem_singleton.mp hd]; exact rowH_noL c
  · obtain ⟨xs, s6, hD6, hx6⟩ := hp2
    rw [List.length_map, List.take_of_length_le (Nat.le_refl _)] at hx6
    exact q xs H6 D (s1.trans s6) (same_none s1 hD) hD6 hx6
end

/-! ### sums -/
def sumI (l : List Int) : Int := l.foldr (· + ·) 0
theorem sumI_cons (a : Int) (l : List Int) : sumI (a :: l) = a + sumI l := rfl
theorem sumI_app (l m : List Int) : sumI (l ++ m) = sumI l + sumI m := by
  induction l with
  | nil => show _ = 0 + _; rw [List.nil_append]; omega
  | cons a r ih => rw [List.cons_append, sumI_cons, sumI_cons, ih]; omega
theorem sumI_perm {l m : List Int} (h : l.Perm m) : sumI l = sumI m := by
  induction h with
  | nil => rfl
  | cons a _ ih => rw [sumI_cons, sumI_cons, ih]
  | swap a b l => rw [sumI_cons, sumI_cons, sumI_cons, sumI_cons]; omega
  | trans _ _ i1 i2 => exact i1.trans i2
theorem sumI_nonneg : ∀ {l : List Int}, (∀ x ∈ l, 0 ≤ x) → 0 ≤ sumI l
  | [], _ => Int.le_refl _
  | a :: r, h => by
    have h1 := h a List.mem_cons_self
    have h2 := sumI_nonneg (l := r) fun x m => h x (List.mem_cons_of_mem _ m)
    rw [sumI_cons]; omega
section
variable {α : Type} (f : α → Int)
def sumF (ks : List (Str × α)) : Int := sumI (ks.map fun e => f e.2)
theorem sumF_new {ks : List (Str × α)} {c : Str} {y : α} (g : gA ks c = none) : sumF f (pA ks c y) = sumF f ks + f y := by
  unfold pA
  rw [if_neg (fun z => gA_none.mp g (any_mem.mp z))]
  unfold sumF
  rw [List.map_append, sumI_app]
  show _ + (f y + 0) = _
  omega
theorem sum_same : ∀ {ks : List (Str × α)} {c : Str} {y : α}, c ∉ ks.map (·.1) → sumI ((ks.map fun k => if k.1 = c then (k.1, y) else k).map fun e => f e.2) = sumI (ks.map fun e => f e.2)
  | [], _, _, _ => rfl
  | e :: r, c, y, h => by
    have h1 : e.1 ≠ c := fun z => h (by rw [← z]; exact List.mem_cons_self)
    have h2 : c ∉ r.map (·.1) := fun z => h (List.mem_cons_of_mem _ z)
    rw [List.map_cons, List.map_cons, List.map_cons, sumI_cons, sumI_cons, sum_same (ks := r) h2, if_neg h1]
theorem sum_map : ∀ {ks : List (Str × α)} {c : Str} {x y : α}, kOk ks → gA ks c = some x → sumI ((ks.map fun k => if k.1 = c then (k.1, y) else k).map fun e => f e.2) = sumI (ks.map fun e => f e.2) - f x + f y
  | e :: r, c, x, y, ok, g => by
    have ok' : kOk (e :: r) := ok
    unfold kOk at ok'
    rw [List.map_cons, List.nodup_cons] at ok'
    rw [List.map_cons, List.map_cons, List.map_cons, sumI_cons, sumI_cons]
    by_cases h : e.1 = c
    · have gx : x = e.2 := by
        unfold gA at g
        rw [List.find?_cons, decide_eq_true h] at g
        exact (Option.some.inj g).symm
      rw [if_pos h, sum_same f (by rw [← h]; exact ok'.1), gx]
      show f y + _ = _
      omega
    · rw [if_neg h]
      have g' : gA r c = some x := by
        unfold gA at g ⊢
        rw [List.find?_cons, decide_eq_false h] at g
        exact g
      rw [sum_map (ks := r) ok'.2 g']
      omega
theorem sumF_put {ks : List (Str × α)} {c : Str} {x y : α} (ok : kOk ks) (g : gA ks c = some x) : sumF f (pA ks c y) = sumF f ks - f x + f y := by
  have m : c ∈ ks.map (·.1) := List.mem_map.mpr ⟨_, gA_some g, rfl⟩
  unfold pA
  rw [if_pos (any_mem.mpr m)]
  exact sum_map f ok g
theorem rm_same : ∀ {ks : List (Str × α)} {c : Str}, c ∉ ks.map (·.1) → rmA ks c = ks
  | [], _, _ => rfl
  | e :: r, c, h => by
    have h1 : e.1 ≠ c := fun z => h (by rw [← z]; exact List.mem_cons_self)
    have h2 : c ∉ r.map (·.1) := fun z => h (List.mem_cons_of_mem _ z)
    have ih := rm_same (ks := r) h2
    unfold rmA at ih ⊢
    rw [List.filter_cons, if_pos (decide_eq_true h1), ih]
theorem sumF_rm : ∀ {ks : List (Str × α)} {c : Str} {x : α}, kOk ks → gA ks c = some x → sumF f (rmA ks c) = sumF f ks - f x
  | e :: r, c, x, ok, g => by
    have ok' : kOk (e :: r) := ok
    unfold kOk at ok'
    rw [List.map_cons, List.nodup_cons] at ok'
    by_cases h : e.1 = c
    · have gx : x = e.2 := by
        unfold gA at g
        rw [List.find?_cons, decide_eq_true h] at g
        exact (Option.some.inj g).symm
      have e1 : rmA (e :: r) c = r := by
        have := rm_same (ks := r) (c := c) (by rw [← h]; exact ok'.1)
        unfold rmA at this ⊢
        rw [List.filter_cons, if_neg (by simp [h]), this]
      rw [e1, gx]
      unfold sumF
      rw [List.map_cons, sumI_cons]
      omega
    · have g' : gA r c = some x := by
        unfold gA at g ⊢
        rw [List.find?_cons, decide_eq_false h] at g
        exact g
      have e1 : rmA (e :: r) c = e :: rmA r c := by unfold rmA; rw [List.filter_cons, if_pos (by simp [h])]
      have ih := sumF_rm (ks := r) ok'.2 g'
      rw [e1]
      unfold sumF at ih ⊢
      rw [List.map_cons, List.map_cons, sumI_cons, sumI_cons, ih]
      omega
end
def sB (ac : AB) : Int := sumF (fun x : Int × Int => x.2) ac
def sH (ho : HS) : Int := sumF (fun x : Str × Str × Int => x.2.2) ho
/-- what always holds -/
structure AInv (s : AS) (m : Nat) : Prop where
  ok : kOk s.ac
  okh : kOk s.ho
  len : s.ac.length ≤ m
  hlen : s.ho.length ≤ m
  src : ∀ e ∈ s.ho, gA s.ac e.2.1 ≠ none ∧ gA s.ac e.2.2.1 ≠ none
  pos : ∀ e ∈ s.ac, 0 ≤ e.2.2
  hpos : ∀ e ∈ s.ho, 0 ≤ e.2.2.2
  sum : sB s.ac + sH s.ho = s.su
  lim : s.su ≤ 1000000000000000
  sh : ShA s
/-- an operation -/
structure OpA where
  verb : Str
  c : Int
  x : Str
  y : Str
  a : Int
  k : Str
structure OpAOk (o : OpA) : Prop where
  verb : o.verb = "create" ∨ o.verb = "issue" ∨ o.verb = "burn" ∨ o.verb = "pay" ∨ o.verb = "hold" ∨ o.verb = "settle" ∨ o.verb = "release" ∨ o.verb = "close"
  x : Tx o.x
  y : Tx o.y
  a : 0 ≤ o.a
  k : Tx o.k
  ne : o.x ≠ ""
def acOp (s : AS) (o : OpA) : Sum Str AS := if o.verb = "create" then opCreate s o.c o.x else if o.verb = "close" then opClose s o.c o.x else if o.verb = "issue" then opIssue s o.c o.x o.a else if o.verb = "burn" then opBurn s o.c o.x o.a else if o.verb = "pay" then opPay s o.c o.x o.y o.a else if o.verb = "hold" then opHold s o.c o.x o.y o.a o.k else if o.verb = "settle" then opSettle s o.c o.k else opRelease s o.c o.k
/-- a balance is changed -/
theorem AInv.addB_pos {s : AS} {m : Nat} (h : AInv s m) {n : Str} {x : Int × Int} {d : Int} (g : gA s.ac n = some x) (hd : 0 ≤ x.2 + d) : ∀ e ∈ addB s.ac n d, 0 ≤ e.2.2 := fun e me => by
  rw [addB_some g] at me
  rcases pA_mem me with rfl | ⟨me, _⟩
  · exact hd
  · exact h.pos e me
theorem addB_sum {ac : AB} {n : Str} {x : Int × Int} {d : Int} (ok : kOk ac) (g : gA ac n = some x) : sB (addB ac n d) = sB ac + d := by
  unfold sB
  rw [addB_some g, sumF_put _ ok g]
  show _ - x.2 + (x.2 + d) = _
  omega
theorem addB_keys {ac : AB} {n : Str} {d : Int} {e : Str × (Int × Int)} (m : e ∈ addB ac n d) : ∃ e' ∈ ac, e'.1 = e.1 := by
  unfold addB at m
  split at m
  · exact ⟨e, m, rfl⟩
  · rename_i x g
    rcases pA_mem m with rfl | ⟨m, _⟩
    · exact ⟨_, gA_some g, rfl⟩
    · exact ⟨e, m, rfl⟩
theorem gA_posB {s : AS} {m : Nat} (h : AInv s m) {n : Str} {x : Int × Int} (g : gA s.ac n = some x) : 0 ≤ x.2 := h.pos _ (gA_some g)
theorem chkF_none {s : AS} {n : Str} {a : Int} {x : Int × Int} (g : gA s.ac n = some x) (h : chkF s n a = none) : a ≤ x.2 := by
  unfold chkF at h
  rw [g] at h
  have h : (if x.2 < a then some ("funds" : Str) else none) = none := h
  by_cases e : x.2 < a
  · rw [if_pos e] at h; cases h
  · omega
theorem chkP_none2 {s : AS} {c : Int} {x y : Str} {a : Int} (h : chkP s c x y a = none) : ∃ u v, gA s.ac x = some u ∧ gA s.ac y = some v ∧ a ≤ u.2 := by
  obtain ⟨⟨u, gu⟩, v, gv⟩ := chkP_none h
  refine ⟨u, v, gu, gv, chkF_none gu ?_⟩
  unfold chkP at h
  cases e1 : chk s y with
  | some z => rw [e1] at h; cases h
  | none =>
    rw [e1] at h
    dsimp only at h
    cases e2 : chkO s c x with
    | some z => rw [e2] at h; cases h
    | none => rw [e2] at h; exact h
/-- balances and holds change, the accounts stay -/
theorem AInv.upd {s s' : AS} {m : Nat} (h : AInv s m) (ok : kOk s'.ac) (okh : kOk s'.ho) (len : s'.ac.length ≤ m + 1) (hlen : s'.ho.length ≤ m + 1) (src : ∀ e ∈ s'.ho, gA s'.ac e.2.1 ≠ none ∧ gA s'.ac e.2.2.1 ≠ none)
    (pos : ∀ e ∈ s'.ac, 0 ≤ e.2.2) (hpos : ∀ e ∈ s'.ho, 0 ≤ e.2.2.2) (sum : sB s'.ac + sH s'.ho = s'.su) (lim : s'.su ≤ 1000000000000000) (sh : ShA s') : AInv s' (m + 1) := ⟨ok, okh, len, hlen, src, pos, hpos, sum, lim, sh⟩

/-! ### each operation keeps what always holds -/
theorem create_inv {s s' : AS} {m : Nat} {c : Int} {n : Str} (h : AInv s m) (tn : Tx n) (e : opCreate s c n = .inr s') : AInv s' (m + 1) ∧ s'.su = s.su := by
  unfold opCreate at e
  cases g : gA s.ac n with
  | some x => rw [g] at e; cases e
  | none =>
    rw [g] at e
    have e : (if 100 ≤ s.ac.length then (.inl "full" : Sum Str AS) else .inr { s with ac := pA s.ac n (c, 0) }) = .inr s' := e
    by_cases l : 100 ≤ s.ac.length
    · rw [if_pos l] at e; cases e
    rw [if_neg l] at e
    cases e
    refine ⟨h.upd (pA_ok _ _ h.ok) h.okh (by have := pA_len s.ac n (c, 0); have := h.len; show (pA s.ac n (c, 0)).length ≤ m + 1; omega) (Nat.le_succ_of_le h.hlen) (fun e me => ?_) (fun e me => ?_) h.hpos ?_ h.lim ⟨fun e me => ?_, h.sh.2⟩, rfl⟩
    · have := h.src e me
      refine ⟨?_, ?_⟩
      · show gA (pA s.ac n (c, 0)) _ ≠ none
        rw [gA_put h.ok]; split
        · intro z; cases z
        · exact this.1
      · show gA (pA s.ac n (c, 0)) _ ≠ none
        rw [gA_put h.ok]; split
        · intro z; cases z
        · exact this.2
    · rcases pA_mem me with rfl | ⟨me, _⟩
      · exact Int.le_refl _
      · exact h.pos e me
    · have e1 : sB (pA s.ac n (c, 0)) = sB s.ac + 0 := sumF_new _ g
      have := h.sum
      show sB (pA s.ac n (c, 0)) + sH s.ho = s.su
      omega
    · rcases pA_mem me with rfl | ⟨me, _⟩
      · exact tn
      · exact h.sh.1 e me
theorem heldB_false {ho : HS} {n : Str} (h : heldB ho n = false) : ∀ e ∈ ho, e.2.1 ≠ n ∧ e.2.2.1 ≠ n := fun e me => by
  have := List.any_eq_false.mp h e me
  simp at this
  exact this
theorem close_inv {s s' : AS} {m : Nat} {c : Int} {n : Str} (h : AInv s m) (e : opClose s c n = .inr s') : AInv s' (m + 1) ∧ s'.su = s.su := by
  unfold opClose at e
  cases e1 : chkO s c n with
  | some z => rw [e1] at e; cases e
  | none =>
    rw [e1] at e
    dsimp only at e
    cases g : gA s.ac n with
    | none => rw [g] at e; cases e
    | some x =>
      rw [g] at e
      dsimp only at e
      by_cases l : x.2 ≠ 0 ∨ heldB s.ho n = true
      · rw [if_pos l] at e; cases e
      rw [if_neg l] at e
      cases e
      have x0 : x.2 = 0 := by
        cases d : decide (x.2 = 0) with
        | true => exact of_decide_eq_true d
        | false => exact absurd (.inl (of_decide_eq_false d)) l
      have hb : heldB s.ho n = false := by
        cases d : heldB s.ho n with
        | true => exact absurd (.inr d) l
        | false => rfl
      have nh := heldB_false hb
      refine ⟨h.upd (rmA_ok _ h.ok) h.okh (by have := rmA_len s.ac n; have := h.len; show (rmA s.ac n).length ≤ m + 1; omega) (Nat.le_succ_of_le h.hlen) (fun e me => ?_) (fun e me => h.pos e (List.mem_filter.mp me).1) h.hpos ?_ h.lim ⟨fun e me => h.sh.1 e (List.mem_filter.mp me).1, h.sh.2⟩, rfl⟩
      · have := h.src e me
        have nn := nh e me
        refine ⟨?_, ?_⟩
        · show gA (rmA s.ac n) _ ≠ none
          rw [gA_rmA, if_neg nn.1]; exact this.1
        · show gA (rmA s.ac n) _ ≠ none
          rw [gA_rmA, if_neg nn.2]; exact this.2
      · have e1 : sB (rmA s.ac n) = sB s.ac - x.2 := sumF_rm _ h.ok g
        have := h.sum
        show sB (rmA s.ac n) + sH s.ho = s.su
        omega
/-- a balance of an account that is there goes up or down -/
theorem bal_inv {s : AS} {m : Nat} (h : AInv s m) {n : Str} {x : Int × Int} {d : Int} (g : gA s.ac n = some x) (hd : 0 ≤ x.2 + d) : kOk (addB s.ac n d) ∧ (addB s.ac n d).length ≤ m ∧ (∀ k, gA s.ac k ≠ none → gA (addB s.ac n d) k ≠ none) ∧ (∀ e ∈ addB s.ac n d, 0 ≤ e.2.2) ∧ (∀ e ∈ addB s.ac n d, Tx e.1) :=
  ⟨addB_ok n d h.ok, by rw [addB_len (by rw [g]; intro z; cases z)]; exact h.len, fun k gk => addB_get h.ok gk, h.addB_pos g hd, fun e me => by
    obtain ⟨e', me', ee⟩ := addB_keys me
    rw [← ee]; exact h.sh.1 e' me'⟩
theorem issue_inv {s s' : AS} {m : Nat} {c : Int} {n : Str} {a : Int} (h : AInv s m) (a0 : 0 ≤ a) (e : opIssue s c n a = .inr s') : AInv s' (m + 1) ∧ s'.su = s.su + a := by
  unfold opIssue at e
  by_cases h1 : c = -1
  case neg => rw [if_pos h1] at e; cases e
  rw [if_neg (fun n => n h1)] at e
  cases e1 : chk s n with
  | some z => rw [e1] at e; cases e
  | none =>
    rw [e1] at e
    dsimp only at e
    obtain ⟨x, g⟩ := chk_none e1
    by_cases l : 1000000000000000 < s.su + a
    · rw [if_pos l] at e; cases e
    rw [if_neg l] at e
    cases e
    have hp := gA_posB h g
    obtain ⟨b1, b2, b3, b4, b5⟩ := bal_inv h g (d := a) (by omega)
    refine ⟨h.upd b1 h.okh (Nat.le_succ_of_le b2) (Nat.le_succ_of_le h.hlen) (fun e me => ⟨b3 _ (h.src e me).1, b3 _ (h.src e me).2⟩) b4 h.hpos ?_ (by show s.su + a ≤ _; omega) ⟨b5, h.sh.2⟩, rfl⟩
    show sB (addB s.ac n a) + sH s.ho = s.su + a
    rw [addB_sum h.ok g]
    have := h.sum
    omega
theorem burn_inv {s s' : AS} {m : Nat} {c : Int} {n : Str} {a : Int} (h : AInv s m) (a0 : 0 ≤ a) (e : opBurn s c n a = .inr s') : AInv s' (m + 1) ∧ s'.su = s.su - a := by
  unfold opBurn at e
  cases e1 : chkO s c n with
  | some z => rw [e1] at e; cases e
  | none =>
    rw [e1] at e
    dsimp only at e
    cases e2 : chkF s n a with
    | some z => rw [e2] at e; cases e
    | none =>
      rw [e2] at e
      cases e
      obtain ⟨x, g, _⟩ := chkO_none e1
      have hf := chkF_none g e2
      obtain ⟨b1, b2, b3, b4, b5⟩ := bal_inv h g (d := -a) (by omega)
      refine ⟨h.upd b1 h.okh (Nat.le_succ_of_le b2) (Nat.le_succ_of_le h.hlen) (fun e me => ⟨b3 _ (h.src e me).1, b3 _ (h.src e me).2⟩) b4 h.hpos ?_ (by have := h.lim; show s.su - a ≤ _; omega) ⟨b5, h.sh.2⟩, rfl⟩
      show sB (addB s.ac n (-a)) + sH s.ho = s.su - a
      rw [addB_sum h.ok g]
      have := h.sum
      omega
theorem pay_inv {s s' : AS} {m : Nat} {c : Int} {x y : Str} {a : Int} (h : AInv s m) (a0 : 0 ≤ a) (e : opPay s c x y a = .inr s') : AInv s' (m + 1) ∧ s'.su = s.su := by
  unfold opPay at e
  cases e1 : chkP s c x y a with
  | some z => rw [e1] at e; cases e
  | none =>
    rw [e1] at e
    cases e
    obtain ⟨u, v, gu, gv, hf⟩ := chkP_none2 e1
    obtain ⟨b1, b2, b3, b4, b5⟩ := bal_inv h gu (d := -a) (by omega)
    have gy := b3 y (by rw [gv]; intro z; cases z)
    obtain ⟨v', gv'⟩ := some_of gy
    have hv' := b4 _ (gA_some gv')
    have hv' : 0 ≤ v'.2 := hv'
    refine ⟨h.upd (addB_ok _ _ b1) h.okh (by show (addB (addB s.ac x (-a)) y a).length ≤ m + 1; rw [addB_len gy]; omega) (Nat.le_succ_of_le h.hlen) (fun e me => ⟨addB_get b1 (b3 _ (h.src e me).1), addB_get b1 (b3 _ (h.src e me).2)⟩) (fun e me => ?_) h.hpos ?_ h.lim ⟨fun e me => ?_, h.sh.2⟩, rfl⟩
    · have me : e ∈ addB (addB s.ac x (-a)) y a := me
      rw [addB_some gv'] at me
      rcases pA_mem me with rfl | ⟨me, _⟩
      · show 0 ≤ v'.2 + a; omega
      · exact b4 e me
    · show sB (addB (addB s.ac x (-a)) y a) + sH s.ho = s.su
      rw [addB_sum b1 gv', addB_sum h.ok gu]
      have := h.sum
      omega
    · obtain ⟨e', me', ee⟩ := addB_keys me
      rw [← ee]; exact b5 e' me'
theorem hold_inv {s s' : AS} {m : Nat} {c : Int} {x y : Str} {a : Int} {k : Str} (h : AInv s m) (a0 : 0 ≤ a) (tx : Tx x) (ty : Tx y) (tk : Tx k) (e : opHold s c x y a k = .inr s') : AInv s' (m + 1) ∧ s'.su = s.su := by
  unfold opHold at e
  cases e1 : chkP s c x y a with
  | some z => rw [e1] at e; cases e
  | none =>
    rw [e1] at e
    dsimp only at e
    cases gk : gA s.ho k with
    | some z => rw [gk] at e; cases e
    | none =>
      rw [gk] at e
      dsimp only at e
      by_cases l : 100 ≤ s.ho.length
      · rw [if_pos l] at e; cases e
      rw [if_neg l] at e
      cases e
      obtain ⟨u, v, gu, gv, hf⟩ := chkP_none2 e1
      obtain ⟨b1, b2, b3, b4, b5⟩ := bal_inv h gu (d := -a) (by omega)
      refine ⟨h.upd b1 (pA_ok _ _ h.okh) (Nat.le_succ_of_le b2) (by have := pA_len s.ho k (x, y, a); have := h.hlen; show (pA s.ho k (x, y, a)).length ≤ m + 1; omega) (fun e me => ?_) b4 (fun e me => ?_) ?_ h.lim ⟨b5, fun e me => ?_⟩, rfl⟩
      · rcases pA_mem me with rfl | ⟨me, _⟩
        · exact ⟨b3 _ (by show gA s.ac x ≠ none; rw [gu]; intro z; cases z), b3 _ (by show gA s.ac y ≠ none; rw [gv]; intro z; cases z)⟩
        · exact ⟨b3 _ (h.src e me).1, b3 _ (h.src e me).2⟩
      · rcases pA_mem me with rfl | ⟨me, _⟩
        · exact a0
        · exact h.hpos e me
      · have e1 : sH (pA s.ho k (x, y, a)) = sH s.ho + a := sumF_new _ gk
        have := h.sum
        show sB (addB s.ac x (-a)) + sH (pA s.ho k (x, y, a)) = s.su
        rw [addB_sum h.ok gu]
        omega
      · rcases pA_mem me with rfl | ⟨me, _⟩
        · exact ⟨tk, tx, ty⟩
        · exact h.sh.2 e me
theorem free_inv {s : AS} {m : Nat} {k t : Str} {x : Str × Str × Int} (h : AInv s m) (gk : gA s.ho k = some x) (ht : t = x.1 ∨ t = x.2.1) : AInv { s with ac := addB s.ac t x.2.2, ho := rmA s.ho k } (m + 1) := by
  have mk := gA_some gk
  have hp := h.hpos _ mk
  have hp : 0 ≤ x.2.2 := hp
  obtain ⟨y, gy⟩ : ∃ y, gA s.ac t = some y := some_of (by rcases ht with rfl | rfl; exact (h.src _ mk).1; exact (h.src _ mk).2)
  have hy := gA_posB h gy
  obtain ⟨b1, b2, b3, b4, b5⟩ := bal_inv h gy (d := x.2.2) (by omega)
  refine h.upd b1 (rmA_ok _ h.okh) (Nat.le_succ_of_le b2) (by have := rmA_len s.ho k; have := h.hlen; show (rmA s.ho k).length ≤ m + 1; omega) (fun e me => ⟨b3 _ (h.src e (List.mem_filter.mp me).1).1, b3 _ (h.src e (List.mem_filter.mp me).1).2⟩) b4 (fun e me => h.hpos e (List.mem_filter.mp me).1) ?_ h.lim ⟨b5, fun e me => h.sh.2 e (List.mem_filter.mp me).1⟩
  have e1 : sH (rmA s.ho k) = sH s.ho - x.2.2 := sumF_rm _ h.okh gk
  have := h.sum
  show sB (addB s.ac t x.2.2) + sH (rmA s.ho k) = s.su
  rw [addB_sum h.ok gy]
  omega
theorem settle_inv {s s' : AS} {m : Nat} {c : Int} {k : Str} (h : AInv s m) (e : opSettle s c k = .inr s') : AInv s' (m + 1) ∧ s'.su = s.su := by
  unfold opSettle at e
  cases gk : gA s.ho k with
  | none => rw [gk] at e; cases e
  | some x =>
    rw [gk] at e
    dsimp only at e
    cases e1 : chkO s c x.1 with
    | some z => rw [e1] at e; cases e
    | none => rw [e1] at e; cases e; exact ⟨free_inv h gk (.inr rfl), rfl⟩
theorem release_inv {s s' : AS} {m : Nat} {c : Int} {k : Str} (h : AInv s m) (e : opRelease s c k = .inr s') : AInv s' (m + 1) ∧ s'.su = s.su := by
  unfold opRelease at e
  cases gk : gA s.ho k with
  | none => rw [gk] at e; cases e
  | some x =>
    rw [gk] at e
    dsimp only at e
    cases e1 : chkO s c x.2.1 with
    | some z => rw [e1] at e; cases e
    | none => rw [e1] at e; cases e; exact ⟨free_inv h gk (.inl rfl), rfl⟩
/-- how the supply changes -/
def dSup (o : OpA) : Int := if o.verb = "issue" then o.a else if o.verb = "burn" then -o.a else 0
theorem AInv.op {s s' : AS} {m : Nat} {o : OpA} (h : AInv s m) (oo : OpAOk o) (e : acOp s o = .inr s') : AInv s' (m + 1) ∧ s'.su = s.su + dSup o := by
  unfold acOp at e
  have z : ∀ {t : AS}, t.su = s.su → (o.verb ≠ "issue") → (o.verb ≠ "burn") → t.su = s.su + dSup o := fun e n1 n2 => by unfold dSup; rw [if_neg n1, if_neg n2]; omega
  by_cases h1 : o.verb = "create"
  · rw [if_pos h1] at e
    obtain ⟨i, j⟩ := create_inv h oo.x e
    exact ⟨i, z j (by rw [h1]; decide) (by rw [h1]; decide)⟩
  rw [if_neg h1] at e
  by_cases h2 : o.verb = "close"
  · rw [if_pos h2] at e
    obtain ⟨i, j⟩ := close_inv h e
    exact ⟨i, z j (by rw [h2]; decide) (by rw [h2]; decide)⟩
  rw [if_neg h2] at e
  by_cases h3 : o.verb = "issue"
  · rw [if_pos h3] at e
    obtain ⟨i, j⟩ := issue_inv h oo.a e
    exact ⟨i, by rw [j]; unfold dSup; rw [if_pos h3]⟩
  rw [if_neg h3] at e
  by_cases h4 : o.verb = "burn"
  · rw [if_pos h4] at e
    obtain ⟨i, j⟩ := burn_inv h oo.a e
    exact ⟨i, by rw [j]; unfold dSup; rw [if_neg h3, if_pos h4]; omega⟩
  rw [if_neg h4] at e
  by_cases h5 : o.verb = "pay"
  · rw [if_pos h5] at e
    obtain ⟨i, j⟩ := pay_inv h oo.a e
    exact ⟨i, z j h3 h4⟩
  rw [if_neg h5] at e
  by_cases h6 : o.verb = "hold"
  · rw [if_pos h6] at e
    obtain ⟨i, j⟩ := hold_inv h oo.a oo.x oo.y oo.k e
    exact ⟨i, z j h3 h4⟩
  rw [if_neg h6] at e
  by_cases h7 : o.verb = "settle"
  · rw [if_pos h7] at e
    obtain ⟨i, j⟩ := settle_inv h e
    exact ⟨i, z j h3 h4⟩
  rw [if_neg h7] at e
  obtain ⟨i, j⟩ := release_inv h e
  exact ⟨i, z j h3 h4⟩
/-- the reasons -/
def Rsn (z : Str) : Prop := z = "taken" ∨ z = "full" ∨ z = "missing" ∨ z = "owner" ∨ z = "busy" ∨ z = "mint" ∨ z = "limit" ∨ z = "funds"
theorem Rsn.ne {z : Str} (h : Rsn z) : z ≠ "" := by
  rcases h with rfl | rfl | rfl | rfl | rfl | rfl | rfl | rfl <;> decide
theorem chk_rsn {s : AS} {n z : Str} (h : chk s n = some z) : Rsn z := by
  unfold chk at h
  split at h
  · cases h; exact .inr (.inr (.inl rfl))
  · cases h
theorem chkO_rsn {s : AS} {c : Int} {n z : Str} (h : chkO s c n = some z) : Rsn z := by
  unfold chkO at h
  split at h
  · cases h; exact .inr (.inr (.inl rfl))
  · split at h
    · cases h; exact .inr (.inr (.inr (.inl rfl)))
    · cases h
theorem chkF_rsn {s : AS} {n z : Str} {a : Int} (h : chkF s n a = some z) : Rsn z := by
  unfold chkF at h
  split at h
  · cases h
  · split at h
    · cases h; exact .inr (.inr (.inr (.inr (.inr (.inr (.inr rfl))))))
    · cases h
theorem chkP_rsn {s : AS} {c : Int} {x y z : Str} {a : Int} (h : chkP s c x y a = some z) : Rsn z := by
  unfold chkP at h
  split at h
  · rename_i z' e; cases h; exact chk_rsn e
  · split at h
    · rename_i z' e; cases h; exact chkO_rsn e
    · exact chkF_rsn h
theorem acOp_rsn {s : AS} {o : OpA} {z : Str} (e : acOp s o = .inl z) : Rsn z := by
  unfold acOp at e
  split at e
  · unfold opCreate at e
    split at e
    · cases e; exact .inl rfl
    · split at e
      · cases e; exact .inr (.inl rfl)
      · cases e
  · split at e
    · unfold opClose at e
      split at e
      · rename_i z' e'; cases e; exact chkO_rsn e'
      · split at e
        · cases e; exact .inr (.inr (.inl rfl))
        · split at e
          · cases e; exact .inr (.inr (.inr (.inr (.inl rfl))))
          · cases e
    · split at e
      · unfold opIssue at e
        split at e
        · cases e; exact .inr (.inr (.inr (.inr (.inr (.inl rfl)))))
        · split at e
          · rename_i z' e'; cases e; exact chk_rsn e'
          · split at e
            · cases e; exact .inr (.inr (.inr (.inr (.inr (.inr (.inl rfl))))))
            · cases e
      · split at e
        · unfold opBurn at e
          split at e
          · rename_i z' e'; cases e; exact chkO_rsn e'
          · split at e
            · rename_i z' e'; cases e; exact chkF_rsn e'
            · cases e
        · split at e
          · unfold opPay at e
            split at e
            · rename_i z' e'; cases e; exact chkP_rsn e'
            · cases e
          · split at e
            · unfold opHold at e
              split at e
              · rename_i z' e'; cases e; exact chkP_rsn e'
              · split at e
                · cases e; exact .inl rfl
                · split at e
                  · cases e; exact .inr (.inl rfl)
                  · cases e
            · split at e
              · unfold opSettle at e
                split at e
                · cases e; exact .inr (.inr (.inl rfl))
                · split at e
                  · rename_i z' e'; cases e; exact chkO_rsn e'
                  · cases e
              · unfold opRelease at e
                split at e
                · cases e; exact .inr (.inr (.inl rfl))
                · split at e
                  · rename_i z' e'; cases e; exact chkO_rsn e'
                  · cases e

/-! ### rows, as data -/
def lastD : PyData → Int
  | .tuple l => match l.getLast? with
    | some (.int i) => i
    | _ => 0
  | _ => 0
def LastOk (d : PyData) : Prop := ∃ pre i, d = .tuple (pre ++ [.int i]) ∧ 0 ≤ i
theorem lastD_at (pre : List PyData) (i : Int) : lastD (.tuple (pre ++ [.int i])) = i := by
  unfold lastD
  simp
theorem rowA_last {s : AS} {m : Nat} (h : AInv s m) {k : Str} (mk : k ∈ sortK s.ac) : LastOk (rowA s.ac k) ∧ ∃ x, gA s.ac k = some x ∧ lastD (rowA s.ac k) = x.2 := by
  obtain ⟨x, g, mm⟩ := sortK_get h.ok mk
  have e : rowA s.ac k = .tuple ([.str k, .int x.1] ++ [.int x.2]) := by unfold rowA; rw [g]; rfl
  exact ⟨⟨_, _, e, h.pos _ mm⟩, x, g, by rw [e]; exact lastD_at _ _⟩
theorem rowH_last {s : AS} {m : Nat} (h : AInv s m) {k : Str} (mk : k ∈ sortK s.ho) : LastOk (rowH s.ho k) ∧ ∃ x, gA s.ho k = some x ∧ lastD (rowH s.ho k) = x.2.2 := by
  obtain ⟨x, g, mm⟩ := sortK_get h.okh mk
  have e : rowH s.ho k = .tuple ([.str k, .str x.1, .str x.2.1] ++ [.int x.2.2]) := by unfold rowH; rw [g]; rfl
  exact ⟨⟨_, _, e, h.hpos _ mm⟩, x, g, by rw [e]; exact lastD_at _ _⟩
theorem rows_sum {α : Type} (f : α → Int) (r : Str → PyData) {ks : List (Str × α)} (ok : kOk ks) (h : ∀ k ∈ sortK ks, ∃ x, gA ks k = some x ∧ lastD (r k) = f x) : sumI (((sortK ks).map r).map lastD) = sumF f ks := by
  rw [List.map_map]
  have p : ((sortK ks).map (lastD ∘ r)).Perm ((ks.map (·.1)).map (lastD ∘ r)) := (sortS_perm _).map _
  rw [sumI_perm p, List.map_map]
  unfold sumF
  congr 1
  refine List.map_congr_left fun e me => ?_
  obtain ⟨x, g, l⟩ := h e.1 (sortK_mem.mpr (List.mem_map.mpr ⟨e, me, rfl⟩))
  have g2 := gA_mem ok me
  rw [g] at g2
  cases g2
  exact l
theorem AInv.aw {C : Addr} {H : Hp} {p n b h : Addr} {he : HE} {s : AS} {m : Nat} (i : AInv s m) (hm : m ≤ 1000) (a : AcAt C H p n b h s.ac he s.su) (e : hsOf he = s.ho) : AW C H p n b h he s := ⟨a, e, i.ok, Nat.le_trans i.len hm, Nat.le_trans i.hlen hm, i.src⟩
theorem rowA_ly {s : AS} {m : Nat} (h : AInv s m) {k : Str} (mk : k ∈ sortK s.ac) : Ly 4 (rowA s.ac k) := by
  obtain ⟨x, g, mm⟩ := sortK_get h.ok mk
  have e : rowA s.ac k = .tuple [.str k, .int x.1, .int x.2] := by unfold rowA; rw [g]
  rw [e]
  exact ly_tup (k := 3) (ly_cons (ly_str (h.sh.1 _ mm).2) (ly_cons (ly_int _) (ly_cons (ly_int _) ly_nil)))
theorem rowH_ly {s : AS} {m : Nat} (h : AInv s m) {k : Str} (mk : k ∈ sortK s.ho) : Ly 4 (rowH s.ho k) := by
  obtain ⟨x, g, mm⟩ := sortK_get h.okh mk
  have e : rowH s.ho k = .tuple [.str k, .str x.1, .str x.2.1, .int x.2.2] := by unfold rowH; rw [g]
  rw [e]
  obtain ⟨h1, h2, h3⟩ := h.sh.2 _ mm
  exact ly_tup (k := 3) (ly_cons (ly_str h1.2) (ly_cons (ly_str h2.2) (ly_cons (ly_str h3.2) (ly_cons (ly_int _) ly_nil))))
theorem rowsA_sh {s : AS} {m : Nat} (h : AInv s m) : SeqAt.shaped (.list ((sortK s.ac).map (rowA s.ac))) = true ∧ PyData.eqv (.list ((sortK s.ac).map (rowA s.ac))) (.list ((sortK s.ac).map (rowA s.ac))) = true :=
  shpL (Ly.mono (ly_lst (k := 4) fun d m => by obtain ⟨k, mk, rfl⟩ := List.mem_map.mp m; exact rowA_ly h mk) (by decide))
theorem rowsH_sh {s : AS} {m : Nat} (h : AInv s m) : SeqAt.shaped (.list ((sortK s.ho).map (rowH s.ho))) = true ∧ PyData.eqv (.list ((sortK s.ho).map (rowH s.ho))) (.list ((sortK s.ho).map (rowH s.ho))) = true :=
  shpL (Ly.mono (ly_lst (k := 4) fun d m => by obtain ⟨k, mk, rfl⟩ := List.mem_map.mp m; exact rowH_ly h mk) (by decide))
theorem rowsA_noL (ac : AB) (ys : List Str) : noLs (ys.map (rowA ac)) = true := noLs_all fun d hd => by obtain ⟨z, _, rfl⟩ := List.mem_map.mp hd; exact rowA_noL z
theorem rowsH_noL (ho : HS) (ys : List Str) : noLs (ys.map (rowH ho)) = true := noLs_all fun d hd => by obtain ⟨z, _, rfl⟩ := List.mem_map.mp hd; exact rowH_noL z
theorem AInv.mono {s : AS} {m m' : Nat} (h : AInv s m) (l : m ≤ m') : AInv s m' := { h with len := Nat.le_trans h.len l, hlen := Nat.le_trans h.hlen l }

/-! ### the law's functions -/
def spWord : Sp := fun vs H Q _ => ∃ (n : Nat) (ch : Str) (seed step : Int), vs = [.int n, .str ch, .int seed, .int step] ∧ n ≤ 100 ∧ 0 < ch.length ∧ ch.length ≤ 1000 ∧ ∀ z : Str, z.length = n → (∀ c ∈ z.cps.toList, c ∈ ch.cps.toList) → Q (.str z) H
def spTxt : Sp := fun vs H Q _ => ∃ c : Int, vs = [.int c] ∧ ∀ H' z, Same H H' → Tx z → Q (.str z) H'
def spName : Sp := fun vs H Q _ => ∃ c : Int, vs = [.int c] ∧ ∀ H' z, Same H H' → Tx z → z ≠ "" → Q (.str z) H'
def spAmt : Sp := fun vs H Q _ => ∃ c : Int, vs = [.int c] ∧ 0 ≤ c ∧ ∀ r : Int, 0 ≤ r → Q (.int r) H
def spRich : Sp := fun vs H Q _ => ∃ (c k : Int), vs = [.int c, .int k] ∧ 0 ≤ k ∧ k ≤ 100 ∧ ∀ r : Int, 0 ≤ r → Q (.int r) H
def opV (o : OpA) : List V := [.str o.verb, .int o.c, .str o.x, .str o.y, .int o.a, .str o.k]
def spOp : Sp := fun vs H Q _ => ∃ (c k : Int), vs = [.int c, .int k] ∧ 0 ≤ k ∧ k ≤ 100 ∧ ∀ H' t o, Same H H' → H' t = some (.tup (opV o)) → OpAOk o → Q (.ref t) H'
theorem strOk_mem {z : Str} (h : ∀ c ∈ z.cps.toList, c < 0x110000) : PyData.strOk z = true := by
  unfold PyData.strOk
  rw [← Array.all_toList, List.all_eq_true]
  exact fun c m => decide_eq_true (h c m)
section
variable {P : Program} {w : World} {K : PySem.W.Frag} {mg : Str → Option Value} {base : Heap}
theorem c__law_word {C_Accounts : Addr} {C_LedgerError : Addr} {C_Refused : Addr} (T : Txt K mg C_Accounts C_LedgerError C_Refused) : Cal P w K mg base 1 "_law_word" spWord [] := by
  refine cal T.d__law_word sc__law_word (fun vs H Q E h => ?_) (fun f cdv A' outer s H vs Q E hr h => ?_)
  · obtain ⟨n, ch, seed, step, rfl, _⟩ := h; rfl
  obtain ⟨n, ch, seed, step, rfl, hn, h0, h1, q⟩ := h
  refine ⟨_, (pss_cons (ps_set (i := 4) sc__law_word.nd rfl (Or.inl rfl) pe_str)
      (pss_cons (ps_set (i := 5) sc__law_word.nd rfl (Or.inl rfl) (pe_callTy call_int1 (by rfl) T.z_int (by decide +kernel) (pa_cons (pv 2) pa_nil)))
      (pss_cons (ps_for PassesOwn.never rfl (pi_range1 (by rfl) T.z_range (pa_cons (pv 0) pa_nil)) (pg_name (i := 6) sc__law_word.nd rfl (Or.inl rfl)) (pss_cons (ps_set (i := 4) sc__law_word.nd rfl (Or.inl rfl) (pe_op op_add_str (pv 4) (pe_ix ix_str (pv 1) (pe_op op_mod (pe_callTy call_int1 (by rfl) T.z_int (by decide +kernel) (pa_cons (pe_op op_add (pv 5) (pe_op op_mul (pv 6) (pv 3))) pa_nil)) (pe_callB call_len_str (by rfl) T.z_len (by decide +kernel) (pa_cons (pv 1) pa_nil))) (fun _ _ => rfl))))
      (pss_one (ps_set (i := 5) sc__law_word.nd rfl (Or.inl rfl) (pe_op op_fdiv (pv 5) (pe_callB call_len_str (by rfl) T.z_len (by decide +kernel) (pa_cons (pv 1) pa_nil)))))))
      (pss_one (ps_ret (pv 4)))))), ?_⟩
  walk_at "rds"
  refine for_it walk_range (Pv := fun i σ H' => H' = H ∧ ∃ (z : Str) (r : Int) (y : Option V), σ = [some (.int n), some (.str ch), some (.int seed), some (.int step), some (.str z), some (.int r), y] ∧ z.length = i ∧ ∀ c ∈ z.cps.toList, c ∈ ch.cps.toList) ⟨rfl, _, _, _, rfl, by decide, (fun c m => by cases m)⟩ (fun _ _ _ _ _ => trivial) (fun i x σ H1 H2 hi hp hy => ?_) (fun σ H1 hp => ?_)
  · obtain ⟨rfl, z, r, y, rfl, hz, hc⟩ := hp
    obtain ⟨rfl, rfl⟩ := hy
    have hi' : i < n := by omega
    walk_at "rds"
    obtain ⟨c, hcm, hat⟩ := atI_lt (xs := ch.cps.toList) (i := (r + (0 + (i : Int)) * step) % (ch.length : Int)) (Int.emod_nonneg _ (by omega)) (by rw [len_tl]; exact Int.emod_lt_of_pos _ (by omega))
    refine ⟨ch, _, c, rfl, rfl, sz1000 (by omega), hat, ?_⟩
    refine ⟨z, _, rfl, rfl, ?_, ?_⟩
    · exact sz1000 (by rw [hz]; show i + 1 ≤ 100000; omega)
    walk_at "rds"
    refine ⟨rfl, z ++ ⟨#[c]⟩, _, _, rfl, ?_, ?_⟩
    · rw [Str.length_append, hz]; rfl
    · intro d hd
      rw [app_tl] at hd
      rcases List.mem_append.mp hd with hd | hd
      · exact hc d hd
      · rw [List.mem_singleton.mp hd]; exact hcm
  · obtain ⟨rfl, z, r, y, rfl, hz, hc⟩ := hp
    walk_at "rds"
    exact q z (by omega) hc
theorem c__law_key {C_Accounts : Addr} {C_LedgerError : Addr} {C_Refused : Addr} (T : Txt K mg C_Accounts C_LedgerError C_Refused) : Cal P w K mg base 2 "_law_key" spTxt [] := by
  have c__law_word := c__law_word (P := P) (w := w) (base := base) T
  refine cal T.d__law_key sc__law_key (fun vs H Q E h => ?_) (fun f cdv A' outer s H vs Q E hr h => ?_)
  · obtain ⟨c, rfl, _⟩ := h; rfl
  obtain ⟨c, rfl, q⟩ := h
  refine ⟨_, (pss_cons (ps_if (pt_cmpR op_lt (pe_op op_mod (pe_callTy call_int1 (by rfl) T.z_int (by decide +kernel) (pa_cons (pv 0) pa_nil)) pe_int) pe_int (nomark _)) (pss_one (ps_ret (pe_ix (kixl (K := K)) (pe_lst (pa_cons pe_str (pa_cons pe_str (pa_cons pe_str pa_nil)))) (pe_op op_mod (pe_op op_fdiv (pv 0) pe_int) pe_int) (fun _ _ => rfl)))) pss_nil)
      (pss_cons (ps_set (i := 1) sc__law_key.nd rfl (Or.inl rfl) (pe_op op_add pe_int (pe_op op_mod (pe_op op_fdiv (pv 0) pe_int) pe_int)))
      (pss_one (ps_ret (pe_c c__law_word hr (by decide) (by rfl) (pa_cons (pv 1) (pa_cons pe_str (pa_cons (pe_op op_fdiv (pv 0) pe_int) (pa_cons pe_int pa_nil))))))))), ?_⟩
  walk_at "rds"
  refine ite2 (fun _ => ?_) (fun _ => ?_)
  · walk_at "rds"
    intro L hL
    walk_at "rds"
    obtain ⟨v, hv, hat⟩ := atI_lt (xs := [V.str "k", .str "k.1", .str "k.22"]) (i := c / 4 % 3) (by omega) (by show c / 4 % 3 < 3; omega)
    refine ⟨L, _, _, v, rfl, rfl, sq upd_same, hat, ?_⟩
    simp only [List.mem_cons, List.not_mem_nil, or_false] at hv
    rcases hv with rfl | rfl | rfl
    · exact q _ _ (same_upd hL) (by unfold Tx; decide +kernel)
    · exact q _ _ (same_upd hL) (by unfold Tx; decide +kernel)
    · exact q _ _ (same_upd hL) (by unfold Tx; decide +kernel)
  · walk_at "rds"
    have hn : ((1 + c / 4 % 20).toNat : Int) = 1 + c / 4 % 20 := Int.toNat_of_nonneg (by omega)
    refine ⟨(1 + c / 4 % 20).toNat, Str.ofString "abcdefghijklmnopqrstuvwxyz0123456789.", c / 80, 0, by rw [hn]; rfl, by omega, by decide +kernel, by decide +kernel, fun z lz mz => ?_⟩
    exact q _ z (Same.refl _) ⟨by omega, strOk_mem fun d m => (by decide +kernel : ∀ c ∈ (Str.ofString "abcdefghijklmnopqrstuvwxyz0123456789.").cps.toList, c < 0x110000) d (mz d m)⟩
theorem c__law_name {C_Accounts : Addr} {C_LedgerError : Addr} {C_Refused : Addr} (T : Txt K mg C_Accounts C_LedgerError C_Refused) : Cal P w K mg base 2 "_law_name" spName [] := by
  have c__law_word := c__law_word (P := P) (w := w) (base := base) T
  refine cal T.d__law_name sc__law_name (fun vs H Q E h => ?_) (fun f cdv A' outer s H vs Q E hr h => ?_)
  · obtain ⟨c, rfl, _⟩ := h; rfl
  obtain ⟨c, rfl, q⟩ := h
  refine ⟨_, (pss_cons (ps_if (pt_cmpR op_lt (pe_op op_mod (pe_callTy call_int1 (by rfl) T.z_int (by decide +kernel) (pa_cons (pv 0) pa_nil)) pe_int) pe_int (nomark _)) (pss_one (ps_ret (pe_ix (kixl (K := K)) (pe_lst (pa_cons pe_str (pa_cons pe_str (pa_cons pe_str pa_nil)))) (pe_op op_mod (pe_op op_fdiv (pv 0) pe_int) pe_int) (fun _ _ => rfl)))) pss_nil)
      (pss_cons (ps_set (i := 1) sc__law_name.nd rfl (Or.inl rfl) (pe_op op_add pe_int (pe_op op_mod (pe_op op_fdiv (pv 0) pe_int) pe_int)))
      (pss_one (ps_ret (pe_c c__law_word hr (by decide) (by rfl) (pa_cons (pv 1) (pa_cons pe_str (pa_cons (pe_op op_fdiv (pv 0) pe_int) (pa_cons pe_int pa_nil))))))))), ?_⟩
  walk_at "rds"
  refine ite2 (fun _ => ?_) (fun _ => ?_)
  · walk_at "rds"
    intro L hL
    walk_at "rds"
    obtain ⟨v, hv, hat⟩ := atI_lt (xs := [V.str "ann", .str "bob", .str "eve"]) (i := c / 4 % 3) (by omega) (by show c / 4 % 3 < 3; omega)
    refine ⟨L, _, _, v, rfl, rfl, sq upd_same, hat, ?_⟩
    simp only [List.mem_cons, List.not_mem_nil, or_false] at hv
    rcases hv with rfl | rfl | rfl
    · exact q _ _ (same_upd hL) (by unfold Tx; decide +kernel) (by decide +kernel)
    · exact q _ _ (same_upd hL) (by unfold Tx; decide +kernel) (by decide +kernel)
    · exact q _ _ (same_upd hL) (by unfold Tx; decide +kernel) (by decide +kernel)
  · walk_at "rds"
    have hn : ((1 + c / 4 % 12).toNat : Int) = 1 + c / 4 % 12 := Int.toNat_of_nonneg (by omega)
    refine ⟨(1 + c / 4 % 12).toNat, Str.ofString "abcdefghijklmnopqrstuvwxyz", c / 48, 0, by rw [hn]; rfl, by omega, by decide +kernel, by decide +kernel, fun z lz mz => ?_⟩
    exact q _ z (Same.refl _) ⟨by omega, strOk_mem fun d m => (by decide +kernel : ∀ c ∈ (Str.ofString "abcdefghijklmnopqrstuvwxyz").cps.toList, c < 0x110000) d (mz d m)⟩ (by intro z0; rw [z0] at lz; have e0 : (Str.ofString "").length = 0 := (by decide +kernel); have lz : (Str.ofString "").length = _ := lz; omega)
theorem c__law_amount {C_Accounts : Addr} {C_LedgerError : Addr} {C_Refused : Addr} (T : Txt K mg C_Accounts C_LedgerError C_Refused) : Cal P w K mg base 1 "_law_amount" spAmt [] := by
  refine cal T.d__law_amount sc__law_amount (fun vs H Q E h => ?_) (fun f cdv A' outer s H vs Q E hr h => ?_)
  · obtain ⟨c, rfl, _⟩ := h; rfl
  obtain ⟨c, rfl, h0, q⟩ := h
  refine ⟨_, (pss_cons (ps_if (pt_cmpR op_lt (pe_op op_mod (pe_callTy call_int1 (by rfl) T.z_int (by decide +kernel) (pa_cons (pv 0) pa_nil)) pe_int) pe_int (nomark _)) (pss_one (ps_ret (pe_op op_mod (pe_op op_fdiv (pv 0) pe_int) pe_int))) pss_nil)
      (pss_cons (ps_if (pt_cmpR op_eq (pe_op op_mod (pe_op op_fdiv (pv 0) pe_int) pe_int) pe_int (nomark _)) (pss_one (ps_ret (pe_op op_sub (pe_op op_sub (pe_op op_pow pe_int pe_int) pe_int) (pe_op op_mod (pe_op op_fdiv (pv 0) pe_int) pe_int)))) pss_nil)
      (pss_one (ps_ret (pe_op op_mod (pe_op op_fdiv (pv 0) pe_int) (pe_op op_pow pe_int pe_int)))))), ?_⟩
  walk_at "rds"
  refine ite2 (fun _ => ?_) (fun _ => ?_)
  · walk_at "rds"
    exact q _ (by show 0 ≤ c / 4 % 9; omega)
  · walk_at "rds"
    refine ite2 (fun _ => ?_) (fun _ => ?_)
    · walk_at "rds"
      exact q _ (by
        show (0 : Int) ≤ 10 ^ Int.toNat 12 - 1 - c / 32 % 3
        have : (10 : Int) ^ Int.toNat 12 = 1000000000000 := by decide +kernel
        omega)
    · walk_at "rds"
      refine ⟨(by show (0 : Int) < 10 ^ Int.toNat 12; decide +kernel), ?_⟩
      exact q _ (Int.emod_nonneg _ (by decide +kernel))
theorem c__law_rich {C_Accounts : Addr} {C_LedgerError : Addr} {C_Refused : Addr} (T : Txt K mg C_Accounts C_LedgerError C_Refused) : Cal P w K mg base 1 "_law_rich" spRich [] := by
  refine cal T.d__law_rich sc__law_rich (fun vs H Q E h => ?_) (fun f cdv A' outer s H vs Q E hr h => ?_)
  · obtain ⟨c, k, rfl, _⟩ := h; rfl
  obtain ⟨c, k, rfl, hk0, hk1, q⟩ := h
  refine ⟨_, (pss_cons (ps_if (pt_cmpR op_ge (pv 0) (pe_op op_pow pe_int pe_int) (nomark _)) (pss_one (ps_ret (pe_callTy call_int1 (by rfl) T.z_int (by decide +kernel) (pa_cons (pv 0) pa_nil)))) pss_nil)
      (pss_cons (ps_set (i := 2) sc__law_rich.nd rfl (Or.inl rfl) (pe_op op_mod (pe_callTy call_int1 (by rfl) T.z_int (by decide +kernel) (pa_cons (pe_op op_add (pe_op op_add (pe_op op_mul (pv 0) pe_int) (pe_op op_mul (pv 1) pe_int)) pe_int) pa_nil)) pe_int))
      (pss_one (ps_ret (pe_op op_add (pe_op op_mul (pv 2) pe_int) (pe_op op_mod (pe_callTy call_int1 (by rfl) T.z_int (by decide +kernel) (pa_cons (pe_op op_add (pe_op op_mul (pv 2) pe_int) (pv 0)) pa_nil)) pe_int)))))), ?_⟩
  walk_at "rds"
  refine ite2 (fun hc => ?_) (fun _ => ?_)
  · walk_at "rds"
    exact q _ (by
      have h1 : (10 : Int) ^ Int.toNat 18 ≤ c := of_decide_eq_true hc
      have : (10 : Int) ^ Int.toNat 18 = 1000000000000000000 := by decide +kernel
      omega)
  · walk_at "rds"
    exact q _ (by show (0 : Int) ≤ (c * 48271 + k * 69621 + 11) % 2147483647 * 2147483629 + ((c * 48271 + k * 69621 + 11) % 2147483647 * 16807 + c) % 2147483629; omega)
theorem c__law_op {C_Accounts : Addr} {C_LedgerError : Addr} {C_Refused : Addr} (T : Txt K mg C_Accounts C_LedgerError C_Refused) : Cal P w K mg base 3 "_law_op" spOp [] := by
  have c__law_key := c__law_key (P := P) (w := w) (base := base) T
  have c__law_name := c__law_name (P := P) (w := w) (base := base) T
  have c__law_amount := c__law_amount (P := P) (w := w) (base := base) T
  have c__law_rich := c__law_rich (P := P) (w := w) (base := base) T
  refine cal T.d__law_op sc__law_op (fun vs H Q E h => ?_) (fun f cdv A' outer s H vs Q E hr h => ?_)
  · obtain ⟨c, k, rfl, _⟩ := h; rfl
  obtain ⟨c, k, rfl, hk0, hk1, q⟩ := h
  refine ⟨_, (pss_cons (ps_set (i := 2) sc__law_op.nd rfl (Or.inl rfl) (pe_c c__law_rich hr (by decide) (by rfl) (pa_cons (pv 0) (pa_cons (pv 1) pa_nil))))
      (pss_cons (ps_set (i := 3) sc__law_op.nd rfl (Or.inl rfl) (pe_op op_fdiv (pv 2) pe_int))
      (pss_cons (ps_set (i := 4) sc__law_op.nd rfl (Or.inl rfl) (pe_op op_fdiv (pv 2) pe_int))
      (pss_cons (ps_set (i := 5) sc__law_op.nd rfl (Or.inl rfl) (pe_op op_fdiv (pv 2) pe_int))
      (pss_cons (ps_set (i := 6) sc__law_op.nd rfl (Or.inl rfl) (pe_ix (kixl (K := K)) (pe_lst (pa_cons pe_str (pa_cons pe_str (pa_cons pe_str (pa_cons pe_str (pa_cons pe_str (pa_cons pe_str (pa_cons pe_str (pa_cons pe_str (pa_cons pe_str (pa_cons pe_str pa_nil))))))))))) (pe_op op_mod (pv 2) pe_int) (fun _ _ => rfl)))
      (pss_cons (ps_set (i := 7) sc__law_op.nd rfl (Or.inl rfl) (pe_c c__law_amount hr (by decide) (by rfl) (pa_cons (pv 5) pa_nil)))
      (pss_cut (ps_if (PW.pt (pw_and (pt_cmpR op_eq (pv 6) pe_str (nomark _)) (pw_and1 (pt_cmpR op_eq (pe_op op_mod (pe_op op_fdiv (pv 5) pe_int) pe_int) pe_int (nomark _))))) (pss_one (ps_set (i := 7) sc__law_op.nd rfl (Or.inl rfl) (pe_op op_sub (pe_op op_pow pe_int pe_int) (pe_op op_mod (pe_op op_fdiv (pv 5) pe_int) pe_int)))) pss_nil)
      (pss_one (ps_ret (pe_tup (pa_cons (pv 6) (pa_cons (pe_op op_sub (pe_un un_neg pe_int) (pe_op op_mod (pe_op op_fdiv (pv 2) pe_int) pe_int)) (pa_cons (pe_c c__law_name hr (by decide) (by rfl) (pa_cons (pv 3) pa_nil)) (pa_cons (pe_c c__law_name hr (by decide) (by rfl) (pa_cons (pv 4) pa_nil)) (pa_cons (pv 7) (pa_cons (pe_c c__law_key hr (by decide) (by rfl) (pa_cons (pe_op op_fdiv (pv 5) pe_int) pa_nil)) pa_nil)))))))))))))))), ?_⟩
  walk_at "rds"
  refine ⟨_, _, rfl, hk0, hk1, fun r r0 => ?_⟩
  walk_at "rds"
  intro L hL
  walk_at "rds"
  obtain ⟨v, hv, hat⟩ := atI_lt (xs := [V.str "create", .str "create", .str "issue", .str "issue", .str "burn", .str "pay", .str "hold", .str "settle", .str "release", .str "close"]) (i := r % 10) (by omega) (by show r % 10 < 10; omega)
  have : ∃ z : Str, v = .str z ∧ (z = "create" ∨ z = "issue" ∨ z = "burn" ∨ z = "pay" ∨ z = "hold" ∨ z = "settle" ∨ z = "release" ∨ z = "close") := by
    simp only [List.mem_cons, List.not_mem_nil, or_false] at hv
    rcases hv with rfl | rfl | rfl | rfl | rfl | rfl | rfl | rfl | rfl | rfl
    · exact ⟨_, rfl, .inl rfl⟩
    · exact ⟨_, rfl, .inl rfl⟩
    · exact ⟨_, rfl, .inr (.inl rfl)⟩
    · exact ⟨_, rfl, .inr (.inl rfl)⟩
    · exact ⟨_, rfl, .inr (.inr (.inl rfl))⟩
    · exact ⟨_, rfl, .inr (.inr (.inr (.inl rfl)))⟩
    · exact ⟨_, rfl, .inr (.inr (.inr (.inr (.inl rfl))))⟩
    · exact ⟨_, rfl, .inr (.inr (.inr (.inr (.inr (.inl rfl)))))⟩
    · exact ⟨_, rfl, .inr (.inr (.inr (.inr (.inr (.inr (.inl rfl))))))⟩
    · exact ⟨_, rfl, .inr (.inr (.inr (.inr (.inr (.inr (.inr rfl))))))⟩
  obtain ⟨vb, rfl, hvb⟩ := this
  refine ⟨L, _, _, _, rfl, rfl, sq upd_same, hat, ?_⟩
  have s1 := same_upd (o := .lst [V.str "create", .str "create", .str "issue", .str "issue", .str "burn", .str "pay", .str "hold", .str "settle", .str "release", .str "close"]) hL
  generalize upd H L (.lst [V.str "create", .str "create", .str "issue", .str "issue", .str "burn", .str "pay", .str "hold", .str "settle", .str "release", .str "close"]) = H1 at s1
  walk_at "rds"
  refine ⟨by show (0 : Int) ≤ r / 5760; omega, fun am am0 => ?_⟩
  refine ⟨fun σ' H' => H' = H1 ∧ ∃ am : Int, 0 ≤ am ∧ σ' = [some (.int c), some (.int k), some (.int r), some (.int (r / 40)), some (.int (r / 480)), some (.int (r / 5760)), some (.str vb), some (.int am)], ?_, ?_⟩
  · walk_at "rds"
    refine ite2 (fun _ => ?_) (fun _ => ?_)
    · walk_at "rds"
      refine ite2 (fun _ => ?_) (fun _ => ?_)
      · walk_at "rds"
        refine ⟨rfl, _, ?_, rfl⟩
        show (0 : Int) ≤ 10 ^ Int.toNat 15 - r / 5760 / 288 % 4
        have : (10 : Int) ^ Int.toNat 15 = 1000000000000000 := by decide +kernel
        omega
      · exact ⟨rfl, am, am0, rfl⟩
    · refine ifF rfl ?_
      exact ⟨rfl, am, am0, rfl⟩
  rintro σ' H' ⟨rfl, am, am0, rfl⟩
  walk_at "rds"
  intro H2 zx s2 tx nx
  walk_at "rds"
  intro H3 zy s3 ty _
  walk_at "rds"
  intro H4 zk s4 tk
  walk_at "rds"
  intro t ht
  exact q _ t ⟨vb, _, zx, zy, am, zk⟩ ((((s1.trans s2).trans s3).trans s4).trans (same_upd ht)) upd_same ⟨hvb, tx, ty, am0, tk, nx⟩
end

def resOp (s : AS) (o : OpA) : Str × AS := match acOp s o with
  | .inl z => (z, s)
  | .inr s' => ("", s')
def spLCall (C : Addr) : Sp := fun vs H Q _ => ∃ (p n b h t : Addr) (he : HE) (s : AS) (o : OpA), vs = [.ref p, .ref t] ∧ AW C H p n b h he s ∧ H t = some (.tup (opV o)) ∧
  ∀ H' he', But [p, n, b, h] H H' → AcAt C H' p n b h (resOp s o).2.ac he' (resOp s o).2.su → hsOf he' = (resOp s o).2.ho → Q (.str (resOp s o).1) H'
section
variable {P : Program} {w : World} {K : PySem.W.Frag} {mg : Str → Option Value} {base : Heap}
theorem c__law_call {C_Accounts : Addr} {C_LedgerError : Addr} {C_Refused : Addr} (T : Txt K mg C_Accounts C_LedgerError C_Refused) : Cal P w K mg base 8 "_law_call" (spLCall C_Accounts) [] := by
  have m_Accounts__create := m_Accounts__create (P := P) (w := w) (base := base) T
  have m_Accounts__close := m_Accounts__close (P := P) (w := w) (base := base) T
  have m_Accounts__issue := m_Accounts__issue (P := P) (w := w) (base := base) T
  have m_Accounts__burn := m_Accounts__burn (P := P) (w := w) (base := base) T
  have m_Accounts__pay := m_Accounts__pay (P := P) (w := w) (base := base) T
  have m_Accounts__hold := m_Accounts__hold (P := P) (w := w) (base := base) T
  have m_Accounts__settle := m_Accounts__settle (P := P) (w := w) (base := base) T
  have m_Accounts__release := m_Accounts__release (P := P) (w := w) (base := base) T
  refine cal T.d__law_call sc__law_call (fun vs H Q E h => ?_) (fun f cdv A' outer s H vs Q E hr h => ?_)
  · obtain ⟨p, n, b, h, t, he, s, o, rfl, _⟩ := h; rfl
  obtain ⟨p, n, b, h, t, he, s, o, rfl, aw, ht, q⟩ := h
  obtain ⟨dx, g⟩ := aw.at_.ins
  refine ⟨_, (pss_cons (ps_asg (pv 1) (pg_tup (by rfl) (pgs_cons (pg_name (i := 2) sc__law_call.nd rfl (Or.inl rfl)) (pgs_cons (pg_name (i := 3) sc__law_call.nd rfl (Or.inl rfl)) (pgs_cons (pg_name (i := 4) sc__law_call.nd rfl (Or.inl rfl)) (pgs_cons (pg_name (i := 5) sc__law_call.nd rfl (Or.inl rfl)) (pgs_cons (pg_name (i := 6) sc__law_call.nd rfl (Or.inl rfl)) (pgs_cons (pg_name (i := 7) sc__law_call.nd rfl (Or.inl rfl)) pgs_nil))))))))
      (pss_cons (ps_try_as (i := 8) (Wout := fun _ _ _ _ => False) rfl rfl sc__law_call.nd rfl rfl ⟨by rfl, by decide, .inl T.x_Refused.g⟩ takes0 (fun W pn xe tk po => (pss_one (ps_if (pt_cmpR op_eq (pv 2) pe_str (nomark _)) (pss_one (ps_expr (pe_mtX m_Accounts__create hr (by decide) (fun σ => passAt tk σ) (pv 0) (pa_cons (pv 3) (pa_cons (pv 4) pa_nil))))) (pss_one (ps_if (pt_cmpR op_eq (pv 2) pe_str (nomark _)) (pss_one (ps_expr (pe_mtX m_Accounts__close hr (by decide) (fun σ => passAt tk σ) (pv 0) (pa_cons (pv 3) (pa_cons (pv 4) pa_nil))))) (pss_one (ps_if (pt_cmpR op_eq (pv 2) pe_str (nomark _)) (pss_one (ps_expr (pe_mtX m_Accounts__issue hr (by decide) (fun σ => passAt tk σ) (pv 0) (pa_cons (pv 3) (pa_cons (pv 4) (pa_cons (pv 6) pa_nil)))))) (pss_one (ps_if (pt_cmpR op_eq (pv 2) pe_str (nomark _)) (pss_one (ps_expr (pe_mtX m_Accounts__burn hr (by decide) (fun σ => passAt tk σ) (pv 0) (pa_cons (pv 3) (pa_cons (pv 4) (pa_cons (pv 6) pa_nil)))))) (pss_one (ps_if (pt_cmpR op_eq (pv 2) pe_str (nomark _)) (pss_one (ps_expr (pe_mtX m_Accounts__pay hr (by decide) (fun σ => passAt tk σ) (pv 0) (pa_cons (pv 3) (pa_cons (pv 4) (pa_cons (pv 5) (pa_cons (pv 6) pa_nil))))))) (pss_one (ps_if (pt_cmpR op_eq (pv 2) pe_str (nomark _)) (pss_one (ps_expr (pe_mtX m_Accounts__hold hr (by decide) (fun σ => passAt tk σ) (pv 0) (pa_cons (pv 3) (pa_cons (pv 4) (pa_cons (pv 5) (pa_cons (pv 6) (pa_cons (pv 7) pa_nil)))))))) (pss_one (ps_if (pt_cmpR op_eq (pv 2) pe_str (nomark _)) (pss_one (ps_expr (pe_mtX m_Accounts__settle hr (by decide) (fun σ => passAt tk σ) (pv 0) (pa_cons (pv 3) (pa_cons (pv 7) pa_nil))))) (pss_one (ps_expr (pe_mtX m_Accounts__release hr (by decide) (fun σ => passAt tk σ) (pv 0) (pa_cons (pv 3) (pa_cons (pv 7) pa_nil)))))))))))))))))))) (fun a oe cls d pn hz hf => (pss_one (ps_ret (pe_xf T.x_Refused.xf T.xn_Refused_reason hz hf (pv 8))))))
      (pss_one (ps_ret pe_str)))), ?_⟩
  walk_at "rds"
  refine ⟨t, _, rfl, SqT.of ht, rfl, _, _, rfl, _, _, rfl, _, _, rfl, _, _, rfl, _, _, rfl, _, _, rfl, rfl, ?_⟩
  have no : ∀ z H', acOp s o = .inl z → Same H H' → Q (.str z) H' := fun z H' e s1 => by
    have er : resOp s o = (z, s) := by unfold resOp; rw [e]
    rw [er] at q
    exact q _ he (Same.but s1) (aw.at_.on s1) aw.hs
  have yes : ∀ s' H' he', acOp s o = .inr s' → But [p, n, b, h] H H' → AcAt C_Accounts H' p n b h s'.ac he' s'.su → hsOf he' = s'.ho → Q (.str "") H' := fun s' H' he' e bt a eh => by
    have er : resOp s o = (("" : Str), s') := by unfold resOp; rw [e]
    rw [er] at q
    exact q _ he' bt a eh
  walk_at "rds"
  rw [decS]
  by_cases h1 : o.verb = "create"
  · refine ifT (decide_eq_true h1) ?_
    have e0 : acOp s o = opCreate s o.c o.x := by unfold acOp; rw [if_pos h1]
    walk_at "rds"
    refine ⟨p, dx, _, rfl, g, rfl, ?_⟩
    walk_at "rds"
    refine ⟨p, n, b, h, he, s, o.c, o.x, rfl, aw, ?_⟩
    rw [← e0]
    cases hp : acOp s o with
    | inl z =>
      refine fun H' d s1 hd => ⟨true, T.x_Refused.exm T.u_Refused_Refused, fun _ b hb => ?_, fun z => nomatch z⟩
      walk_at "rds"
      refine ⟨rfl, rfl, d, _, _, rfl, hd, rfl, ?_⟩
      exact no z H' hp s1
    | inr s' =>
      refine fun H' he' bt a eh => ?_
      walk_at "rds"
      exact yes s' H' he' hp bt a eh
  refine ifF (decide_eq_false h1) ?_
  walk_at "rds"
  rw [decS]
  by_cases h2 : o.verb = "close"
  · refine ifT (decide_eq_true h2) ?_
    have e0 : acOp s o = opClose s o.c o.x := by unfold acOp; rw [if_neg h1, if_pos h2]
    walk_at "rds"
    refine ⟨p, dx, _, rfl, g, rfl, ?_⟩
    walk_at "rds"
    refine ⟨p, n, b, h, he, s, o.c, o.x, rfl, aw, ?_⟩
    rw [← e0]
    cases hp : acOp s o with
    | inl z =>
      refine fun H' d s1 hd => ⟨true, T.x_Refused.exm T.u_Refused_Refused, fun _ b hb => ?_, fun z => nomatch z⟩
      walk_at "rds"
      refine ⟨rfl, rfl, d, _, _, rfl, hd, rfl, ?_⟩
      exact no z H' hp s1
    | inr s' =>
      refine fun H' he' bt a eh => ?_
      walk_at "rds"
      exact yes s' H' he' hp bt a eh
  refine ifF (decide_eq_false h2) ?_
  walk_at "rds"
  rw [decS]
  by_cases h3 : o.verb = "issue"
  · refine ifT (decide_eq_true h3) ?_
    have e0 : acOp s o = opIssue s o.c o.x o.a := by unfold acOp; rw [if_neg h1, if_neg h2, if_pos h3]
    walk_at "rds"
    refine ⟨p, dx, _, rfl, g, rfl, ?_⟩
    walk_at "rds"
    refine ⟨p, n, b, h, he, s, o.c, o.x, o.a, rfl, aw, ?_⟩
    rw [← e0]
    cases hp : acOp s o with
    | inl z =>
      refine fun H' d s1 hd => ⟨true, T.x_Refused.exm T.u_Refused_Refused, fun _ b hb => ?_, fun z => nomatch z⟩
      walk_at "rds"
      refine ⟨rfl, rfl, d, _, _, rfl, hd, rfl, ?_⟩
      exact no z H' hp s1
    | inr s' =>
      refine fun H' he' bt a eh => ?_
      walk_at "rds"
      exact yes s' H' he' hp bt a eh
  refine ifF (decide_eq_false h3) ?_
  walk_at "rds"
  rw [decS]
  by_cases h4 : o.verb = "burn"
  · refine ifT (decide_eq_true h4) ?_
    have e0 : acOp s o = opBurn s o.c o.x o.a := by unfold acOp; rw [if_neg h1, if_neg h2, if_neg h3, if_pos h4]
    walk_at "rds"
    refine ⟨p, dx, _, rfl, g, rfl, ?_⟩
    walk_at "rds"
    refine ⟨p, n, b, h, he, s, o.c, o.x, o.a, rfl, aw, ?_⟩
    rw [← e0]
    cases hp : acOp s o with
    | inl z =>
      refine fun H' d s1 hd => ⟨true, T.x_Refused.exm T.u_Refused_Refused, fun _ b hb => ?_, fun z => nomatch z⟩
      walk_at "rds"
      refine ⟨rfl, rfl, d, _, _, rfl, hd, rfl, ?_⟩
      exact no z H' hp s1
    | inr s' =>
      refine fun H' he' bt a eh => ?_
      walk_at "rds"
      exact yes s' H' he' hp bt a eh
  refine ifF (decide_eq_false h4) ?_
  walk_at "rds"
  rw [decS]
  by_cases h5 : o.verb = "pay"
  · refine ifT (decide_eq_true h5) ?_
    have e0 : acOp s o = opPay s o.c o.x o.y o.a := by unfold acOp; rw [if_neg h1, if_neg h2, if_neg h3, if_neg h4, if_pos h5]
    walk_at "rds"
    refine ⟨p, dx, _, rfl, g, rfl, ?_⟩
    walk_at "rds"
    refine ⟨p, n, b, h, he, s, o.c, o.x, o.y, o.a, rfl, aw, ?_⟩
    rw [← e0]
    cases hp : acOp s o with
    | inl z =>
      refine fun H' d s1 hd => ⟨true, T.x_Refused.exm T.u_Refused_Refused, fun _ b hb => ?_, fun z => nomatch z⟩
      walk_at "rds"
      refine ⟨rfl, rfl, d, _, _, rfl, hd, rfl, ?_⟩
      exact no z H' hp s1
    | inr s' =>
      refine fun H' he' bt a eh => ?_
      walk_at "rds"
      exact yes s' H' he' hp bt a eh
  refine ifF (decide_eq_false h5) ?_
  walk_at "rds"
  rw [decS]
  by_cases h6 : o.verb = "hold"
  · refine ifT (decide_eq_true h6) ?_
    have e0 : acOp s o = opHold s o.c o.x o.y o.a o.k := by unfold acOp; rw [if_neg h1, if_neg h2, if_neg h3, if_neg h4, if_neg h5, if_pos h6]
    walk_at "rds"
    refine ⟨p, dx, _, rfl, g, rfl, ?_⟩
    walk_at "rds"
    refine ⟨p, n, b, h, he, s, o.c, o.x, o.y, o.a, o.k, rfl, aw, ?_⟩
    rw [← e0]
    cases hp : acOp s o with
    | inl z =>
      refine fun H' d s1 hd => ⟨true, T.x_Refused.exm T.u_Refused_Refused, fun _ b hb => ?_, fun z => nomatch z⟩
      walk_at "rds"
      refine ⟨rfl, rfl, d, _, _, rfl, hd, rfl, ?_⟩
      exact no z H' hp s1
    | inr s' =>
      refine fun H' he' bt a eh => ?_
      walk_at "rds"
      exact yes s' H' he' hp bt a eh
  refine ifF (decide_eq_false h6) ?_
  walk_at "rds"
  rw [decS]
  by_cases h7 : o.verb = "settle"
  · refine ifT (decide_eq_true h7) ?_
    have e0 : acOp s o = opSettle s o.c o.k := by unfold acOp; rw [if_neg h1, if_neg h2, if_neg h3, if_neg h4, if_neg h5, if_neg h6, if_pos h7]
    walk_at "rds"
    refine ⟨p, dx, _, rfl, g, rfl, ?_⟩
    walk_at "rds"
    refine ⟨p, n, b, h, he, s, o.c, o.k, rfl, aw, ?_⟩
    rw [← e0]
    cases hp : acOp s o with
    | inl z =>
      refine fun H' d s1 hd => ⟨true, T.x_Refused.exm T.u_Refused_Refused, fun _ b hb => ?_, fun z => nomatch z⟩
      walk_at "rds"
      refine ⟨rfl, rfl, d, _, _, rfl, hd, rfl, ?_⟩
      exact no z H' hp s1
    | inr s' =>
      refine fun H' he' bt a eh => ?_
      walk_at "rds"
      exact yes s' H' he' hp bt a eh
  refine ifF (decide_eq_false h7) ?_
  walk_at "rds"
  have e0 : acOp s o = opRelease s o.c o.k := by unfold acOp; rw [if_neg h1, if_neg h2, if_neg h3, if_neg h4, if_neg h5, if_neg h6, if_neg h7]
  walk_at "rds"
  refine ⟨p, dx, _, rfl, g, rfl, ?_⟩
  walk_at "rds"
  refine ⟨p, n, b, h, he, s, o.c, o.k, rfl, aw, ?_⟩
  rw [← e0]
  cases hp : acOp s o with
  | inl z =>
    refine fun H' d s1 hd => ⟨true, T.x_Refused.exm T.u_Refused_Refused, fun _ b hb => ?_, fun z => nomatch z⟩
    walk_at "rds"
    refine ⟨rfl, rfl, d, _, _, rfl, hd, rfl, ?_⟩
    exact no z H' hp s1
  | inr s' =>
    refine fun H' he' bt a eh => ?_
    walk_at "rds"
    exact yes s' H' he' hp bt a eh
end

/-- a list, or a tuple, is none of the four -/
theorem AcAt.not4 {C : Addr} {H : Hp} {p n b h : Addr} {ac : AB} {he : HE} {su : Int} (a : AcAt C H p n b h ac he su) {x : Addr} {o : HO} (e : H x = some o) (h1 : ∀ C' d f, o ≠ .ins C' d f) (h2 : ∀ kv, o ≠ .dK kv) : x ∉ [p, n, b, h] := fun m => by
  obtain ⟨dx, g⟩ := a.ins
  rcases List.mem_cons.mp m with z | m
  · exact ne_of e g (h1 _ _ _) z
  · rcases List.mem_cons.mp m with z | m
    · exact ne_of e a.ow (h2 _) z
    · rcases List.mem_cons.mp m with z | m
      · exact ne_of e a.ba (h2 _) z
      · exact ne_of e a.ho (h2 _) (List.mem_singleton.mp m)
theorem AcAt.tp_but {C : Addr} {H H' : Hp} {p n b h : Addr} {ac : AB} {he : HE} {su : Int} (a : AcAt C H p n b h ac he su) (bt : But [p, n, b, h] H H') : Tp H H' := fun x xs e => bt _ _ (a.not4 e (by intro _ _ _ z; cases z) (by intro _ z; cases z)) e

/-! ### the model -/
structure MAt (H : Hp) (L n b h : Addr) (ac : AB) (he : HE) : Prop where
  li : H L = some (.lst [.ref n, .ref b, .ref h])
  ow : H n = some (.dK (aowD ac))
  ba : H b = some (.dK (baD ac))
  ho : H h = some (.dK (hoD he))
  tp : ∀ e ∈ he, H e.2.1 = some (.tup (holdV e.2.2))
  n1 : n ≠ b
  n2 : n ≠ h
  n3 : b ≠ h
section
variable {H H' : Hp} {L n b h : Addr} {ac : AB} {he : HE}
theorem MAt.on (a : MAt H L n b h ac he) (s : Same H H') : MAt H' L n b h ac he := ⟨s _ _ a.li, s _ _ a.ow, s _ _ a.ba, s _ _ a.ho, fun e m => s _ _ (a.tp e m), a.n1, a.n2, a.n3⟩
theorem MAt.lnb (a : MAt H L n b h ac he) : L ≠ n ∧ L ≠ b ∧ L ≠ h := ⟨ne_of a.li a.ow (by intro z; cases z), ne_of a.li a.ba (by intro z; cases z), ne_of a.li a.ho (by intro z; cases z)⟩
theorem MAt.bal (a : MAt H L n b h ac he) {k : Str} {x : Int × Int} (ok : kOk ac) (g : gA ac k = some x) (v : Int) : MAt (upd H b (.dK (baD (pA ac k (x.1, v))))) L n b h (pA ac k (x.1, v)) he := by
  obtain ⟨h1, h2, h3⟩ := a.lnb
  exact ⟨by rw [upd_ne h2]; exact a.li, by rw [upd_ne a.n1, aow_same ok g v]; exact a.ow, upd_same, by rw [upd_ne a.n3.symm]; exact a.ho, fun e m => by rw [upd_ne (ne_of (a.tp e m) a.ba (by intro z; cases z))]; exact a.tp e m, a.n1, a.n2, a.n3⟩
theorem MAt.new (a : MAt H L n b h ac he) (k : Str) (o v : Int) : MAt (upd (upd H n (.dK (aowD (pA ac k (o, v))))) b (.dK (baD (pA ac k (o, v))))) L n b h (pA ac k (o, v)) he := by
  obtain ⟨h1, h2, h3⟩ := a.lnb
  exact ⟨by rw [upd_ne h2, upd_ne h1]; exact a.li, by rw [upd_ne a.n1]; exact upd_same, upd_same, by rw [upd_ne a.n3.symm, upd_ne a.n2.symm]; exact a.ho, fun e m => by rw [upd_ne (ne_of (a.tp e m) a.ba (by intro z; cases z)), upd_ne (ne_of (a.tp e m) a.ow (by intro z; cases z))]; exact a.tp e m, a.n1, a.n2, a.n3⟩
theorem MAt.del (a : MAt H L n b h ac he) (k : Str) : MAt (upd (upd H n (.dK (aowD (rmA ac k)))) b (.dK (baD (rmA ac k)))) L n b h (rmA ac k) he := by
  obtain ⟨h1, h2, h3⟩ := a.lnb
  exact ⟨by rw [upd_ne h2, upd_ne h1]; exact a.li, by rw [upd_ne a.n1]; exact upd_same, upd_same, by rw [upd_ne a.n3.symm, upd_ne a.n2.symm]; exact a.ho, fun e m => by rw [upd_ne (ne_of (a.tp e m) a.ba (by intro z; cases z)), upd_ne (ne_of (a.tp e m) a.ow (by intro z; cases z))]; exact a.tp e m, a.n1, a.n2, a.n3⟩
theorem MAt.hold (a : MAt H L n b h ac he) {k : Str} {t : Addr} {x : Str × Str × Int} (ht : H t = some (.tup (holdV x))) : MAt (upd H h (.dK (hoD (pA he k (t, x))))) L n b h ac (pA he k (t, x)) := by
  obtain ⟨h1, h2, h3⟩ := a.lnb
  have key : ∀ c xs, H c = some (.tup xs) → upd H h (.dK (hoD (pA he k (t, x)))) c = some (.tup xs) := fun c xs e => by rw [upd_ne (ne_of e a.ho (by intro z; cases z))]; exact e
  exact ⟨by rw [upd_ne h3]; exact a.li, by rw [upd_ne a.n2]; exact a.ow, by rw [upd_ne a.n3]; exact a.ba, upd_same, fun e m => by
    rcases pA_mem m with rfl | ⟨m, _⟩
    · exact key _ _ ht
    · exact key _ _ (a.tp e m), a.n1, a.n2, a.n3⟩
theorem MAt.free (a : MAt H L n b h ac he) (k : Str) : MAt (upd H h (.dK (hoD (rmA he k)))) L n b h ac (rmA he k) := by
  obtain ⟨h1, h2, h3⟩ := a.lnb
  exact ⟨by rw [upd_ne h3]; exact a.li, by rw [upd_ne a.n2]; exact a.ow, by rw [upd_ne a.n3]; exact a.ba, upd_same, fun e m => by
    have m := (List.mem_filter.mp m).1
    rw [upd_ne (ne_of (a.tp e m) a.ho (by intro z; cases z))]; exact a.tp e m, a.n1, a.n2, a.n3⟩
end
def rsn (o : Option Str) : Str := o.getD ""
def spMFunds : Sp := fun vs H Q _ => ∃ (L n b h : Addr) (he : HE) (s : AS) (c : Int) (x : Str) (a : Int), vs = [.ref L, .int c, .str x, .int a] ∧ MAt H L n b h s.ac he ∧ gA s.ac x ≠ none ∧ Q (.str (rsn ((chkO s c x).or (chkF s x a)))) H
def spMPay : Sp := fun vs H Q _ => ∃ (L n b h t : Addr) (he : HE) (s : AS) (o : OpA), vs = [.ref L, .ref t] ∧ MAt H L n b h s.ac he ∧ H t = some (.tup (opV o)) ∧ Q (.str (rsn (chkP s o.c o.x o.y o.a))) H
section
variable {P : Program} {w : World} {K : PySem.W.Frag} {mg : Str → Option Value} {base : Heap}
theorem c__law_funds {C_Accounts : Addr} {C_LedgerError : Addr} {C_Refused : Addr} (T : Txt K mg C_Accounts C_LedgerError C_Refused) : Cal P w K mg base 1 "_law_funds" spMFunds [] := by
  refine cal T.d__law_funds sc__law_funds (fun vs H Q E h => ?_) (fun f cdv A' outer s H vs Q E hr h => ?_)
  · obtain ⟨L, n, b, h, he, s, c, x, a, rfl, _⟩ := h; rfl
  obtain ⟨L, n, b, h, he, s, c, x, a, rfl, m, g0, q⟩ := h
  obtain ⟨u, gu⟩ := some_of g0
  have eO : chkO s c x = if u.1 ≠ c then some ("owner" : Str) else none := by unfold chkO; rw [gu]
  have eF : chkF s x a = if u.2 < a then some ("funds" : Str) else none := by unfold chkF; rw [gu]
  rw [eO, eF] at q
  refine ⟨_, (pss_cons (ps_if (pt_cmpR op_ne (pe_dget (by exact hu_of hr) (pe_ix (kixl (K := K)) (pv 0) pe_int (fun _ _ => rfl)) (pv 2) (fun _ _ => rfl)) (pv 1) (nomark _)) (pss_one (ps_ret pe_str)) pss_nil)
      (pss_cons (ps_if (pt_cmpR op_lt (pe_dget (by exact hu_of hr) (pe_ix (kixl (K := K)) (pv 0) pe_int (fun _ _ => rfl)) (pv 2) (fun _ _ => rfl)) (pv 3) (nomark _)) (pss_one (ps_ret pe_str)) pss_nil)
      (pss_one (ps_ret pe_str)))), ?_⟩
  walk_at "rds"
  refine ⟨L, _, 0, _, rfl, rfl, sq m.li, atI_nat (j := 0) rfl, ?_⟩
  walk_at "rds"
  refine ⟨n, _, rfl, .inl ⟨_, Sum.inr x, .inl m.ow, rfl, by rw [aow_val, gu]; rfl⟩, ?_⟩
  walk_at "rds"
  rw [decV']
  by_cases h1 : u.1 = c
  · refine ifF (by rw [decide_eq_true h1]; rfl) ?_
    rw [if_neg (fun z => z h1)] at q
    walk_at "rds"
    refine ⟨L, _, 1, _, rfl, rfl, sq m.li, atI_nat (j := 1) rfl, ?_⟩
    walk_at "rds"
    refine ⟨b, _, rfl, .inl ⟨_, Sum.inr x, .inl m.ba, rfl, by rw [ba_val, gu]; rfl⟩, ?_⟩
    walk_at "rds"
    by_cases h2 : u.2 < a
    · refine ifT (decide_eq_true h2) ?_
      rw [if_pos h2] at q
      walk_at "rds"
      exact q
    · refine ifF (decide_eq_false h2) ?_
      rw [if_neg h2] at q
      walk_at "rds"
      exact q
  · refine ifT (by rw [decide_eq_false h1]; rfl) ?_
    rw [if_pos h1] at q
    walk_at "rds"
    exact q
theorem c__law_payment {C_Accounts : Addr} {C_LedgerError : Addr} {C_Refused : Addr} (T : Txt K mg C_Accounts C_LedgerError C_Refused) : Cal P w K mg base 2 "_law_payment" spMPay [] := by
  have c__law_funds := c__law_funds (P := P) (w := w) (base := base) T
  refine cal T.d__law_payment sc__law_payment (fun vs H Q E h => ?_) (fun f cdv A' outer s H vs Q E hr h => ?_)
  · obtain ⟨L, n, b, h, t, he, s, o, rfl, _⟩ := h; rfl
  obtain ⟨L, n, b, h, t, he, s, o, rfl, m, ht, q⟩ := h
  refine ⟨_, (pss_cons (ps_if (PW.pt (pw_or (pt_cmp (pc_dnotin (by exact hu_of hr) (pe_ix (kixt (K := K)) (pv 1) pe_int (fun _ _ => rfl)) (pe_ix (kixl (K := K)) (pv 0) pe_int (fun _ _ => rfl)))) (pw_or1 (pt_cmp (pc_dnotin (by exact hu_of hr) (pe_ix (kixt (K := K)) (pv 1) pe_int (fun _ _ => rfl)) (pe_ix (kixl (K := K)) (pv 0) pe_int (fun _ _ => rfl))))))) (pss_one (ps_ret pe_str)) pss_nil)
      (pss_one (ps_ret (pe_c c__law_funds hr (by decide) (by rfl) (pa_cons (pv 0) (pa_cons (pe_ix (kixt (K := K)) (pv 1) pe_int (fun _ _ => rfl)) (pa_cons (pe_ix (kixt (K := K)) (pv 1) pe_int (fun _ _ => rfl)) (pa_cons (pe_ix (kixt (K := K)) (pv 1) pe_int (fun _ _ => rfl)) pa_nil)))))))), ?_⟩
  walk_at "rds"
  refine ⟨t, _, 2, _, rfl, rfl, SqT.of ht, atI_nat (j := 2) rfl, ?_⟩
  walk_at "rds"
  refine ⟨L, _, 0, _, rfl, rfl, sq m.li, atI_nat (j := 0) rfl, ?_⟩
  refine ⟨n, _, rfl, DGet.k (k := Sum.inr o.x) m.ow, ?_⟩
  rw [aow_val]
  cases gx : gA s.ac o.x with
  | none =>
    have e : rsn (chkP s o.c o.x o.y o.a) = "missing" := by
      unfold chkP
      cases e1 : chk s o.y with
      | some z =>
        unfold chk at e1
        split at e1
        · cases e1; rfl
        · cases e1
      | none =>
        have e2 : chkO s o.c o.x = some ("missing" : Str) := by unfold chkO; rw [gx]
        dsimp only
        rw [e2]; rfl
    rw [e] at q
    refine ⟨true, rfl, ?_⟩
    refine ifT rfl ?_
    refine ifT rfl ?_
    walk_at "rds"
    exact q
  | some u =>
    refine ⟨false, rfl, ?_⟩
    refine ifF rfl ?_
    walk_at "rds"
    refine ⟨t, _, 3, _, rfl, rfl, SqT.of ht, atI_nat (j := 3) rfl, ?_⟩
    walk_at "rds"
    refine ⟨L, _, 0, _, rfl, rfl, sq m.li, atI_nat (j := 0) rfl, ?_⟩
    refine ⟨n, _, rfl, DGet.k (k := Sum.inr o.y) m.ow, ?_⟩
    rw [aow_val]
    cases gy : gA s.ac o.y with
    | none =>
      have e : rsn (chkP s o.c o.x o.y o.a) = "missing" := by
        have e2 : chk s o.y = some ("missing" : Str) := by unfold chk; rw [gy]
        unfold chkP
        rw [e2]; rfl
      rw [e] at q
      refine ⟨true, rfl, ?_⟩
      refine ifT rfl ?_
      walk_at "rds"
      exact q
    | some v =>
      have e : chkP s o.c o.x o.y o.a = (chkO s o.c o.x).or (chkF s o.x o.a) := by
        have e2 : chk s o.y = none := by unfold chk; rw [gy]
        unfold chkP
        rw [e2]
        dsimp only
        cases chkO s o.c o.x <;> rfl
      rw [e] at q
      refine ⟨false, rfl, ?_⟩
      refine ifF rfl ?_
      walk_at "rds"
      refine ⟨t, _, 1, _, rfl, rfl, SqT.of ht, atI_nat (j := 1) rfl, ?_⟩
      walk_at "rds"
      refine ⟨t, _, 2, _, rfl, rfl, SqT.of ht, atI_nat (j := 2) rfl, ?_⟩
      walk_at "rds"
      refine ⟨t, _, 4, _, rfl, rfl, SqT.of ht, atI_nat (j := 4) rfl, ?_⟩
      walk_at "rds"
      exact ⟨L, n, b, h, he, s, o.c, o.x, o.a, rfl, m, (by rw [gx]; intro z; cases z), q⟩
end
def clR (s : AS) (o : OpA) : Option Str := match opClose s o.c o.x with
  | .inl z => some z
  | .inr _ => none
def spMClose : Sp := fun vs H Q _ => ∃ (L n b h t : Addr) (he : HE) (s : AS) (o : OpA), vs = [.ref L, .ref t] ∧ MAt H L n b h s.ac he ∧ hsOf he = s.ho ∧ kOk s.ho ∧ H t = some (.tup (opV o)) ∧ ∀ H', Same H H' → Q (.str (rsn (clR s o))) H'
section
variable {P : Program} {w : World} {K : PySem.W.Frag} {mg : Str → Option Value} {base : Heap}
theorem c__law_close {C_Accounts : Addr} {C_LedgerError : Addr} {C_Refused : Addr} (T : Txt K mg C_Accounts C_LedgerError C_Refused) : Cal P w K mg base 1 "_law_close" spMClose [] := by
  refine cal T.d__law_close sc__law_close (fun vs H Q E h => ?_) (fun f cdv A' outer s H vs Q E hr h => ?_)
  · obtain ⟨L, n, b, h, t, he, s, o, rfl, _⟩ := h; rfl
  obtain ⟨L, n, b, h, t, he, s, o, rfl, m, ehs, okh, ht, q⟩ := h
  refine ⟨_, (pss_cons (ps_if (pt_cmp (pc_dnotin (by exact hu_of hr) (pe_ix (kixt (K := K)) (pv 1) pe_int (fun _ _ => rfl)) (pe_ix (kixl (K := K)) (pv 0) pe_int (fun _ _ => rfl)))) (pss_one (ps_ret pe_str)) pss_nil)
      (pss_cons (ps_if (pt_cmpR op_ne (pe_dget (by exact hu_of hr) (pe_ix (kixl (K := K)) (pv 0) pe_int (fun _ _ => rfl)) (pe_ix (kixt (K := K)) (pv 1) pe_int (fun _ _ => rfl)) (fun _ _ => rfl)) (pe_ix (kixt (K := K)) (pv 1) pe_int (fun _ _ => rfl)) (nomark _)) (pss_one (ps_ret pe_str)) pss_nil)
      (pss_cons (ps_if (pt_cmpR op_ne (pe_dget (by exact hu_of hr) (pe_ix (kixl (K := K)) (pv 0) pe_int (fun _ _ => rfl)) (pe_ix (kixt (K := K)) (pv 1) pe_int (fun _ _ => rfl)) (fun _ _ => rfl)) pe_int (nomark _)) (pss_one (ps_ret pe_str)) pss_nil)
      (pss_cons (ps_lock (ps_for PassesOwn.never rfl (pi_keys (pe_ix (kixl (K := K)) (pv 0) pe_int (fun _ _ => rfl))) (pg_name (i := 2) sc__law_close.nd rfl (Or.inl rfl)) (pss_one (ps_if (pt_cmpR (kin (K := K)) (pe_ix (kixt (K := K)) (pv 1) pe_int (fun _ _ => rfl)) (pe_lst (pa_cons (pe_ix (kixt (K := K)) (pe_dget (by exact hu_of hr) (pe_ix (kixl (K := K)) (pv 0) pe_int (fun _ _ => rfl)) (pv 2) (fun _ _ => rfl)) pe_int (fun _ _ => rfl)) (pa_cons (pe_ix (kixt (K := K)) (pe_dget (by exact hu_of hr) (pe_ix (kixl (K := K)) (pv 0) pe_int (fun _ _ => rfl)) (pv 2) (fun _ _ => rfl)) pe_int (fun _ _ => rfl)) pa_nil))) (by rfl)) (pss_one (ps_ret pe_str)) pss_nil))))
      (pss_one (ps_ret pe_str)))))), ?_⟩
  walk_at "rds"
  refine ⟨t, _, 2, _, rfl, rfl, SqT.of ht, atI_nat (j := 2) rfl, ?_⟩
  walk_at "rds"
  refine ⟨L, _, 0, _, rfl, rfl, sq m.li, atI_nat (j := 0) rfl, ?_⟩
  refine ⟨n, _, rfl, DGet.k (k := Sum.inr o.x) m.ow, ?_⟩
  rw [aow_val]
  cases gx : gA s.ac o.x with
  | none =>
    have e : clR s o = some ("missing" : Str) := by unfold clR opClose chkO; rw [gx]
    rw [e] at q
    walk_at "rds"
    exact q _ (Same.refl _)
  | some u =>
    have eO : chkO s o.c o.x = if u.1 ≠ o.c then some ("owner" : Str) else none := by unfold chkO; rw [gx]
    walk_at "rds"
    refine ⟨L, _, 0, _, rfl, rfl, sq m.li, atI_nat (j := 0) rfl, ?_⟩
    walk_at "rds"
    refine ⟨t, _, 2, _, rfl, rfl, SqT.of ht, atI_nat (j := 2) rfl, ?_⟩
    refine ⟨n, _, rfl, .inl ⟨_, Sum.inr o.x, .inl m.ow, rfl, by rw [aow_val, gx]; rfl⟩, ?_⟩
    walk_at "rds"
    refine ⟨t, _, 1, _, rfl, rfl, SqT.of ht, atI_nat (j := 1) rfl, ?_⟩
    walk_at "rds"
    rw [decV']
    by_cases h1 : u.1 = o.c
    case neg =>
      rw [if_pos h1] at eO
      have e : clR s o = some ("owner" : Str) := by unfold clR opClose; rw [eO]
      rw [e] at q
      refine ifT (by rw [decide_eq_false h1]; rfl) ?_
      walk_at "rds"
      exact q _ (Same.refl _)
    rw [if_neg (fun z => z h1)] at eO
    refine ifF (by rw [decide_eq_true h1]; rfl) ?_
    walk_at "rds"
    refine ⟨L, _, 1, _, rfl, rfl, sq m.li, atI_nat (j := 1) rfl, ?_⟩
    walk_at "rds"
    refine ⟨t, _, 2, _, rfl, rfl, SqT.of ht, atI_nat (j := 2) rfl, ?_⟩
    refine ⟨b, _, rfl, .inl ⟨_, Sum.inr o.x, .inl m.ba, rfl, by rw [ba_val, gx]; rfl⟩, ?_⟩
    walk_at "rds"
    rw [decV']
    have eC : opClose s o.c o.x = if u.2 ≠ 0 ∨ heldB s.ho o.x = true then .inl "busy" else .inr { s with ac := rmA s.ac o.x } := by
      unfold opClose
      rw [eO]
      dsimp only
      rw [gx]
    by_cases h2 : u.2 = 0
    case neg =>
      rw [if_pos (.inl h2)] at eC
      have e : clR s o = some ("busy" : Str) := by unfold clR; rw [eC]
      rw [e] at q
      refine ifT (by rw [decide_eq_false h2]; rfl) ?_
      walk_at "rds"
      exact q _ (Same.refl _)
    refine ifF (by rw [decide_eq_true h2]; rfl) ?_
    walk_at "rds"
    refine ⟨h, _, m.ho, trivial, fun od => ?_⟩
    have lk : upd H h (.frz od (.dK (hoD he))) h = some (.frz od (.dK (hoD he))) := upd_same
    have un : ∀ H', Same (upd H h (.frz od (.dK (hoD he)))) H' → Same H (upd H' h (.dK (hoD he))) := fun H' s' => unlock_same m.ho s'
    have li1 : upd H h (.frz od (.dK (hoD he))) L = some (.lst [.ref n, .ref b, .ref h]) := by rw [upd_ne m.lnb.2.2]; exact m.li
    have ht1 : upd H h (.frz od (.dK (hoD he))) t = some (.tup (opV o)) := by rw [upd_ne (ne_of ht m.ho (by intro z; cases z))]; exact ht
    have tp1 : ∀ e ∈ he, upd H h (.frz od (.dK (hoD he))) e.2.1 = some (.tup (holdV e.2.2)) := fun e me => by rw [upd_ne (ne_of (m.tp e me) m.ho (by intro z; cases z))]; exact m.tp e me
    have okhe : kOk he := by unfold kOk; rw [← hsOf_keys, ehs]; exact okh
    generalize upd H h (.frz od (.dK (hoD he))) = H1 at lk un li1 ht1 tp1
    walk_at "rds"
    refine ⟨L, _, 2, _, rfl, rfl, sq li1, atI_nat (j := 2) rfl, ?_⟩
    refine ⟨h, od, rfl, .inl ⟨_, lk, ?_⟩⟩
    refine for_it walk_keys (Pv := fun i σ' H' => ∃ (y2 : Option V), σ' = [some (.ref L), some (.ref t), y2] ∧ Same H1 H' ∧ ∀ e ∈ he.take i, e.2.2.1 ≠ o.x ∧ e.2.2.2.1 ≠ o.x) ⟨none, rfl, Same.refl _, by rw [List.take_zero]; exact fun _ z => nomatch z⟩ (fun i σ' H' _ h => by obtain ⟨_, _, h, _⟩ := h; exact h _ _ lk) (fun i x σ' H2 H3 hi hp hy => ?_) (fun σ' H2 hp => ?_)
    · obtain ⟨y2, rfl, s2, al⟩ := hp
      obtain ⟨rfl, k, z, hkv, rfl⟩ := hy
      obtain ⟨e, gl, e1⟩ : ∃ e, he[i]? = some e ∧ (Sum.inr e.1, V.ref e.2.1) = (k, z) := by
        unfold hoD kvs at hkv
        rw [List.getElem?_map] at hkv
        cases g : he[i]? with
        | none => rw [g] at hkv; cases hkv
        | some y => rw [g] at hkv; exact ⟨y, rfl, Option.some.inj hkv⟩
      cases e1
      have me := List.mem_of_getElem? gl
      have ge : gA he e.1 = some e.2 := gA_mem okhe me
      have tk : he.take (i + 1) = he.take i ++ [e] := by rw [List.take_add_one, gl]; rfl
      have lk3 := s2 _ _ lk
      have te3 := s2 _ _ (tp1 e me)
      walk_at "rds"
      refine ⟨t, _, 2, _, rfl, rfl, SqT.of (s2 _ _ ht1), atI_nat (j := 2) rfl, ?_⟩
      walk_at "rds"
      refine ⟨L, _, 2, _, rfl, rfl, sq (s2 _ _ li1), atI_nat (j := 2) rfl, ?_⟩
      walk_at "rds"
      refine ⟨h, _, rfl, .inl ⟨_, Sum.inr e.1, .inr ⟨_, lk3⟩, rfl, by rw [ho_val, ge]; rfl⟩, ?_⟩
      walk_at "rds"
      refine ⟨e.2.1, _, 0, _, rfl, rfl, SqT.of te3, atI_nat (j := 0) rfl, ?_⟩
      walk_at "rds"
      refine ⟨L, _, 2, _, rfl, rfl, sq (s2 _ _ li1), atI_nat (j := 2) rfl, ?_⟩
      walk_at "rds"
      refine ⟨h, _, rfl, .inl ⟨_, Sum.inr e.1, .inr ⟨_, lk3⟩, rfl, by rw [ho_val, ge]; rfl⟩, ?_⟩
      walk_at "rds"
      refine ⟨e.2.1, _, 1, _, rfl, rfl, SqT.of te3, atI_nat (j := 1) rfl, ?_⟩
      walk_at "rds"
      intro W hW
      have uW := same_upd (o := .lst [.str e.2.2.1, .str e.2.2.2.1]) hW
      refine ⟨W, _, rfl, .inl (sq upd_same), rfl, rfl, ?_⟩
      rw [if_neg (by decide), inV_two]
      refine ⟨_, rfl, ?_⟩
      have s3 := s2.trans uW
      cases hb : (decide (e.2.2.1 = o.x) || decide (e.2.2.2.1 = o.x)) with
      | true =>
        refine ifT rfl ?_
        have hh : heldB s.ho o.x = true := by
          unfold heldB
          rw [← ehs]
          refine List.any_eq_true.mpr ⟨(e.1, e.2.2), List.mem_map.mpr ⟨e, me, rfl⟩, hb⟩
        rw [if_pos (.inr hh)] at eC
        have ec : clR s o = some ("busy" : Str) := by unfold clR; rw [eC]
        rw [ec] at q
        walk_at "rds"
        exact ⟨s3 _ _ lk, q _ (un _ s3)⟩
      | false =>
        refine ifF rfl ?_
        refine ⟨_, rfl, s3, fun y my => ?_⟩
        rw [tk] at my
        rcases List.mem_append.mp my with my | my
        · exact al y my
        · rw [List.mem_singleton.mp my]
          rw [Bool.or_eq_false_iff] at hb
          exact ⟨of_decide_eq_false hb.1, of_decide_eq_false hb.2⟩
    · obtain ⟨y2, rfl, s2, al⟩ := hp
      rw [show (hoD he).length = he.length from kvs_len _ _ _, List.take_of_length_le (Nat.le_refl _)] at al
      have hh : heldB s.ho o.x = false := by
        unfold heldB
        rw [← ehs]
        refine List.any_eq_false.mpr fun y my => ?_
        obtain ⟨e, me, rfl⟩ := List.mem_map.mp my
        have := al e me
        simp [this.1, this.2]
      rw [if_neg (fun z => z.elim (fun z => z h2) (fun z => by rw [hh] at z; cases z))] at eC
      have ec : clR s o = none := by unfold clR; rw [eC]
      rw [ec] at q
      refine ⟨s2 _ _ lk, ?_⟩
      walk_at "rds"
      exact q _ (un _ s2)
end

def spMReason : Sp := fun vs H Q _ => ∃ (L n b h t : Addr) (he : HE) (s : AS) (o : OpA) (m : Nat), vs = [.ref L, .ref t] ∧ MAt H L n b h s.ac he ∧ hsOf he = s.ho ∧ AInv s m ∧ m ≤ 1000 ∧ H t = some (.tup (opV o)) ∧ OpAOk o ∧ ∀ H', Same H H' → Q (.str (resOp s o).1) H'
def rOf : Sum Str AS → Str
  | .inl z => z
  | .inr _ => ""
theorem chkF_ne {s : AS} {n : Str} {a : Int} {z : Str} (h : chkF s n a = some z) : z ≠ "" := by
  unfold chkF at h
  split at h
  · cases h
  · split at h
    · cases h; decide +kernel
    · cases h
theorem chkO_ne {s : AS} {c : Int} {n : Str} {z : Str} (h : chkO s c n = some z) : z ≠ "" := by
  unfold chkO at h
  split at h
  · cases h; decide +kernel
  · split at h
    · cases h; decide +kernel
    · cases h
theorem chk_ne {s : AS} {n : Str} {z : Str} (h : chk s n = some z) : z ≠ "" := by
  unfold chk at h
  split at h
  · cases h; decide +kernel
  · cases h
theorem chkP_ne {s : AS} {c : Int} {x y : Str} {a : Int} {z : Str} (h : chkP s c x y a = some z) : z ≠ "" := by
  unfold chkP at h
  split at h
  · rename_i w e
    cases h
    exact chk_ne e
  · split at h
    · rename_i w e
      cases h
      exact chkO_ne e
    · exact chkF_ne h
theorem resOp_of (s : AS) (o : OpA) : (resOp s o).1 = rOf (acOp s o) := by
  unfold resOp rOf
  cases acOp s o <;> rfl
section
variable {P : Program} {w : World} {K : PySem.W.Frag} {mg : Str → Option Value} {base : Heap}
theorem c__law_reason {C_Accounts : Addr} {C_LedgerError : Addr} {C_Refused : Addr} (T : Txt K mg C_Accounts C_LedgerError C_Refused) : Cal P w K mg base 3 "_law_reason" spMReason [] := by
  have c__law_funds := c__law_funds (P := P) (w := w) (base := base) T
  have c__law_payment := c__law_payment (P := P) (w := w) (base := base) T
  have c__law_close := c__law_close (P := P) (w := w) (base := base) T
  refine cal T.d__law_reason sc__law_reason (fun vs H Q E h => ?_) (fun f cdv A' outer s H vs Q E hr h => ?_)
  · obtain ⟨L, n, b, h, t, he, s, o, m, rfl, _⟩ := h; rfl
  obtain ⟨L, n, b, h, t, he, s, o, m, rfl, ma, ehs, iv, m1000, ht, oo, q⟩ := h
  refine ⟨_, (pss_cons (ps_asg (pv 1) (pg_tup (by rfl) (pgs_cons (pg_name (i := 2) sc__law_reason.nd rfl (Or.inl rfl)) (pgs_cons (pg_name (i := 3) sc__law_reason.nd rfl (Or.inl rfl)) (pgs_cons (pg_name (i := 4) sc__law_reason.nd rfl (Or.inl rfl)) (pgs_cons (pg_name (i := 5) sc__law_reason.nd rfl (Or.inl rfl)) (pgs_cons (pg_name (i := 6) sc__law_reason.nd rfl (Or.inl rfl)) (pgs_cons (pg_name (i := 7) sc__law_reason.nd rfl (Or.inl rfl)) pgs_nil))))))))
      (pss_cons (ps_if (pt_cmpR op_eq (pv 2) pe_str (nomark _)) (pss_cons (ps_if (pt_cmp (pc_din (by exact hu_of hr) (pv 4) (pe_ix (kixl (K := K)) (pv 0) pe_int (fun _ _ => rfl)))) (pss_one (ps_ret pe_str)) pss_nil)
      (pss_one (ps_ret (pe_ifExp (pt_cmpR op_ge (pe_callB call_lenD (by rfl) T.z_len (by decide +kernel) (pa_cons (pe_ix (kixl (K := K)) (pv 0) pe_int (fun _ _ => rfl)) pa_nil)) pe_int (nomark _)) pe_str pe_str)))) pss_nil)
      (pss_cons (ps_if (pt_cmpR op_eq (pv 2) pe_str (nomark _)) (pss_one (ps_ret (pe_c c__law_close hr (by decide) (by rfl) (pa_cons (pv 0) (pa_cons (pv 1) pa_nil))))) pss_nil)
      (pss_cons (ps_if (pt_cmpR op_eq (pv 2) pe_str (nomark _)) (pss_cons (ps_if (pt_cmpR op_ne (pv 3) (pe_un un_neg pe_int) (nomark _)) (pss_one (ps_ret pe_str)) pss_nil)
      (pss_cons (ps_if (pt_cmp (pc_dnotin (by exact hu_of hr) (pv 4) (pe_ix (kixl (K := K)) (pv 0) pe_int (fun _ _ => rfl)))) (pss_one (ps_ret pe_str)) pss_nil)
      (pss_cons (ps_set (i := 8) sc__law_reason.nd rfl (Or.inl rfl) (pe_op op_add (pe_callB (cr_sum rfl) (by rfl) T.z_sum (by decide +kernel) (pa_cons (pe_callTy (call_listVals rfl) (by rfl) T.z_list (by decide +kernel) (pa_cons (pe_bm0 PySem.F.plainAttrs_dict PySem.F.slot_dict_values PySem.F.type_dict_values mt_dvals (pe_ix (kixl (K := K)) (pv 0) pe_int (fun _ _ => rfl))) pa_nil)) pa_nil)) (pe_callB (cr_sum rfl) (by rfl) T.z_sum (by decide +kernel) (pa_cons (pe_lock (pe_lc (own := [("one", 11)]) (g := gName 11) (by rfl) sc__law_reason.nd (pi_keys (pe_ix (kixl (K := K)) (pv 0) pe_int (fun _ _ => rfl))) (blkOk_by (own := [("one", 11)]) (N := ["model", "op", "verb", "client", "name", "other", "amount", "key", "total", "reason", "side", "one"]) (sc := defScope s__law_reason) (by decide +kernel)) (fun _ _ _ _ _ => pg_name (i := 11) sc__law_reason.nd rfl (Or.inl rfl)) (fun _ _ _ _ _ => pts_nil) (fun _ _ _ _ _ => (pe_ix (kixt (K := K)) (pe_dget (by exact hu_of hr) (pe_ix (kixl (K := K)) (pv 0) pe_int (fun _ _ => rfl)) (pv 11) (fun _ _ => rfl)) pe_int (fun _ _ => rfl))))) pa_nil))))
      (pss_one (ps_ret (pe_ifExp (pt_cmpR op_gt (pe_op op_add (pv 8) (pv 6)) (pe_op op_pow pe_int pe_int) (nomark _)) pe_str pe_str)))))) pss_nil)
      (pss_cons (ps_if (pt_cmpR op_eq (pv 2) pe_str (nomark _)) (pss_one (ps_ret (pe_ifExp (pt_cmp (pc_din (by exact hu_of hr) (pv 4) (pe_ix (kixl (K := K)) (pv 0) pe_int (fun _ _ => rfl)))) (pe_c c__law_funds hr (by decide) (by rfl) (pa_cons (pv 0) (pa_cons (pv 3) (pa_cons (pv 4) (pa_cons (pv 6) pa_nil))))) pe_str))) pss_nil)
      (pss_cons (ps_if (PW.pt (pw_or (pt_cmpR op_eq (pv 2) pe_str (nomark _)) (pw_or1 (pt_cmpR op_eq (pv 2) pe_str (nomark _))))) (pss_cons (ps_set (i := 9) sc__law_reason.nd rfl (Or.inl rfl) (pe_c c__law_payment hr (by decide) (by rfl) (pa_cons (pv 0) (pa_cons (pv 1) pa_nil))))
      (pss_cons (ps_if (PW.pt (pw_or (pt_cmpR op_ne (pv 9) pe_str (nomark _)) (pw_or1 (pt_cmpR op_eq (pv 2) pe_str (nomark _))))) (pss_one (ps_ret (pv 9))) pss_nil)
      (pss_cons (ps_if (pt_cmp (pc_din (by exact hu_of hr) (pv 7) (pe_ix (kixl (K := K)) (pv 0) pe_int (fun _ _ => rfl)))) (pss_one (ps_ret pe_str)) pss_nil)
      (pss_one (ps_ret (pe_ifExp (pt_cmpR op_ge (pe_callB call_lenD (by rfl) T.z_len (by decide +kernel) (pa_cons (pe_ix (kixl (K := K)) (pv 0) pe_int (fun _ _ => rfl)) pa_nil)) pe_int (nomark _)) pe_str pe_str)))))) pss_nil)
      (pss_cons (ps_if (pt_cmp (pc_dnotin (by exact hu_of hr) (pv 7) (pe_ix (kixl (K := K)) (pv 0) pe_int (fun _ _ => rfl)))) (pss_one (ps_ret pe_str)) pss_nil)
      (pss_cons (ps_set (i := 10) sc__law_reason.nd rfl (Or.inl rfl) (pe_ifExp (pt_cmpR op_eq (pv 2) pe_str (nomark _)) pe_int pe_int))
      (pss_one (ps_ret (pe_ifExp (pt_cmpR op_eq (pe_dget (by exact hu_of hr) (pe_ix (kixl (K := K)) (pv 0) pe_int (fun _ _ => rfl)) (pe_ix (kixt (K := K)) (pe_dget (by exact hu_of hr) (pe_ix (kixl (K := K)) (pv 0) pe_int (fun _ _ => rfl)) (pv 7) (fun _ _ => rfl)) (pv 10) (fun _ _ => rfl)) (fun _ _ => rfl)) (pv 3) (nomark _)) pe_str pe_str))))))))))), ?_⟩
  walk_at "rds"
  refine ⟨t, _, rfl, SqT.of ht, rfl, _, _, rfl, _, _, rfl, _, _, rfl, _, _, rfl, _, _, rfl, _, _, rfl, rfl, ?_⟩
  have fin : ∀ {r : Sum Str AS} {z : Str}, acOp s o = r → rOf r = z → ∀ H', Same H H' → Q (.str z) H' := fun {r z} e ez H' sm => by
    have := q H' sm
    rw [resOp_of, e, ez] at this
    exact this
  have lac := iv.len
  have lho := iv.hlen
  have lhe := hsOf_len he
  rw [ehs] at lhe
  walk_at "rds"
  rw [decS]
  by_cases h1 : o.verb = "create"
  · refine ifT (decide_eq_true h1) ?_
    have e0 : acOp s o = opCreate s o.c o.x := by unfold acOp; rw [if_pos h1]
    walk_at "rds"
    refine ⟨L, _, 0, _, rfl, rfl, sq ma.li, atI_nat (j := 0) rfl, ?_⟩
    refine ⟨n, _, rfl, DGet.k (k := Sum.inr o.x) ma.ow, ?_⟩
    rw [aow_val]
    unfold opCreate at e0
    cases gx : gA s.ac o.x with
    | some u =>
      rw [gx] at e0
      walk_at "rds"
      exact fin e0 rfl _ (Same.refl _)
    | none =>
      rw [gx] at e0
      dsimp only at e0
      walk_at "rds"
      refine ⟨L, _, 0, _, rfl, rfl, sq ma.li, atI_nat (j := 0) rfl, ?_⟩
      walk_at "rds"
      refine ⟨n, _, rfl, ma.ow, ?_⟩
      rw [show (aowD s.ac).length = s.ac.length from kvs_len _ _ _]
      walk_at "rds"
      by_cases hl : 100 ≤ s.ac.length
      · rw [if_pos hl] at e0
        refine ifT (decide_eq_true (by omega)) ?_
        walk_at "rds"
        exact fin e0 rfl _ (Same.refl _)
      · rw [if_neg hl] at e0
        refine ifF (decide_eq_false (by omega)) ?_
        walk_at "rds"
        exact fin e0 rfl _ (Same.refl _)
  refine ifF (decide_eq_false h1) ?_
  walk_at "rds"
  rw [decS]
  by_cases h2 : o.verb = "close"
  · refine ifT (decide_eq_true h2) ?_
    have e0 : acOp s o = opClose s o.c o.x := by unfold acOp; rw [if_neg h1, if_pos h2]
    walk_at "rds"
    refine ⟨L, n, b, h, t, he, s, o, rfl, ma, ehs, iv.okh, ht, fun H' sm => ?_⟩
    refine fin e0 ?_ H' sm
    unfold clR rsn
    cases opClose s o.c o.x <;> rfl
  refine ifF (decide_eq_false h2) ?_
  walk_at "rds"
  rw [decS]
  by_cases h3 : o.verb = "issue"
  · refine ifT (decide_eq_true h3) ?_
    have e0 : acOp s o = opIssue s o.c o.x o.a := by unfold acOp; rw [if_neg h1, if_neg h2, if_pos h3]
    unfold opIssue at e0
    walk_at "rds"
    by_cases hc : o.c = -1
    case neg =>
      rw [if_pos hc] at e0
      refine ifT (by show (!decide (V.int o.c = V.int (-1))) = true; rw [decV', decide_eq_false hc]; rfl) ?_
      walk_at "rds"
      exact fin e0 rfl _ (Same.refl _)
    rw [if_neg (fun z => z hc)] at e0
    refine ifF (by show (!decide (V.int o.c = V.int (-1))) = false; rw [decV', decide_eq_true hc]; rfl) ?_
    walk_at "rds"
    refine ⟨L, _, 0, _, rfl, rfl, sq ma.li, atI_nat (j := 0) rfl, ?_⟩
    refine ⟨n, _, rfl, DGet.k (k := Sum.inr o.x) ma.ow, ?_⟩
    rw [aow_val]
    unfold chk at e0
    cases gx : gA s.ac o.x with
    | none =>
      rw [gx] at e0
      walk_at "rds"
      exact fin e0 rfl _ (Same.refl _)
    | some u =>
      rw [gx] at e0
      dsimp only at e0
      walk_at "rds"
      refine ⟨L, _, 1, _, rfl, rfl, sq ma.li, atI_nat (j := 1) rfl, ?_⟩
      refine ⟨.inr (.inr (.inl ⟨rfl, .inl ⟨_, ma.ba⟩⟩)), ?_⟩
      refine ⟨b, _, rfl, rfl, ma.ba, fun pv hpv => ?_⟩
      walk_at "rds"
      refine ⟨pv, b, _, rfl, upd_same, (same_upd hpv) _ _ ma.ba, fun l hl => ?_⟩
      have s1 := (same_upd (o := viewO "dict_values" pv b) hpv).trans (same_upd (o := .lst ((baD s.ac).map (·.2))) hl)
      have el : upd (upd H pv (viewO "dict_values" pv b)) l (.lst ((baD s.ac).map (·.2))) l = some (.lst ((s.ac.map fun e => e.2.2).map V.int)) := by
        rw [upd_same]; unfold baD kvs; rw [List.map_map, List.map_map]; rfl
      generalize upd (upd H pv (viewO "dict_values" pv b)) l (.lst ((baD s.ac).map (·.2))) = H1 at s1 el
      have m1 := ma.on s1
      have ht1 := s1 _ _ ht
      walk_at "rds"
      refine ⟨l, s.ac.map fun e => e.2.2, rfl, sq el, ?_⟩
      walk_at "rds"
      refine ⟨h, _, m1.ho, trivial, fun od => ?_⟩
      have lk : upd H1 h (.frz od (.dK (hoD he))) h = some (.frz od (.dK (hoD he))) := upd_same
      have un : ∀ H', Same (upd H1 h (.frz od (.dK (hoD he)))) H' → Same H1 (upd H' h (.dK (hoD he))) := fun H' s' => unlock_same m1.ho s'
      have li1 : upd H1 h (.frz od (.dK (hoD he))) L = some (.lst [.ref n, .ref b, .ref h]) := by rw [upd_ne m1.lnb.2.2]; exact m1.li
      have tp1 : ∀ e ∈ he, upd H1 h (.frz od (.dK (hoD he))) e.2.1 = some (.tup (holdV e.2.2)) := fun e me => by rw [upd_ne (ne_of (m1.tp e me) m1.ho (by intro z; cases z))]; exact m1.tp e me
      have okhe : kOk he := by unfold kOk; rw [← hsOf_keys, ehs]; exact iv.okh
      generalize upd H1 h (.frz od (.dK (hoD he))) = H2 at lk un li1 tp1
      walk_at "rds"
      refine ⟨L, _, 2, _, rfl, rfl, sq li1, atI_nat (j := 2) rfl, ?_⟩
      refine ⟨h, od, rfl, .inl ⟨_, lk, fun M hM => ?_⟩⟩
      refine lc_it (walk_keys (d := h) (o := od) (kvs := hoD he)) (Pv := fun j H' => Same H2 H' ∧ H' M = some (.lst (((he.take j).map fun e => e.2.2.2.2).map V.int))) ⟨same_upd hM, upd_same⟩ (fun _ _ _ h => h.1 _ _ lk) (fun j x H6 H7 hj hp hy => ?_) (fun H6 hp => ?_)
      · obtain ⟨s6, eM⟩ := hp
        obtain ⟨rfl, k, z, hkv, rfl⟩ := hy
        obtain ⟨e, gl, e1⟩ : ∃ e, he[j]? = some e ∧ (Sum.inr e.1, V.ref e.2.1) = (k, z) := by
          unfold hoD kvs at hkv
          rw [List.getElem?_map] at hkv
          cases g : he[j]? with
          | none => rw [g] at hkv; cases hkv
          | some y => rw [g] at hkv; exact ⟨y, rfl, Option.some.inj hkv⟩
        cases e1
        have me := List.mem_of_getElem? gl
        have ge : gA he e.1 = some e.2 := gA_mem okhe me
        have tk : ((he.take (j + 1)).map fun e => e.2.2.2.2) = ((he.take j).map fun e => e.2.2.2.2) ++ [e.2.2.2.2] := by rw [List.take_add_one, gl, List.map_append]; rfl
        have ll : ((he.take j).map fun e => e.2.2.2.2).length ≤ 1000 := by rw [List.length_map, List.length_take]; omega
        generalize (he.take j).map (fun e => e.2.2.2.2) = acc at eM tk ll
        have te3 := s6 _ _ (tp1 e me)
        refine ⟨rfl, tyes ?_⟩
        walk_at "rds"
        refine ⟨L, _, 2, _, rfl, rfl, sq (s6 _ _ li1), atI_nat (j := 2) rfl, ?_⟩
        walk_at "rds"
        refine ⟨h, _, rfl, .inl ⟨_, Sum.inr e.1, .inr ⟨_, s6 _ _ lk⟩, rfl, by rw [ho_val, ge]; rfl⟩, ?_⟩
        walk_at "rds"
        refine ⟨e.2.1, _, 2, _, rfl, rfl, SqT.of te3, atI_nat (j := 2) rfl, ?_⟩
        exact ⟨_, eM, sz1000' (by rw [List.length_map]; omega), same_mut s6 hM, by rw [upd_same, tk, List.map_append]; rfl⟩
      obtain ⟨s6, eM⟩ := hp
      rw [show (hoD he).length = he.length from kvs_len _ _ _, List.take_of_length_le (Nat.le_refl _)] at eM
      have lkH := s6 _ _ lk
      refine ⟨lkH, ?_⟩
      have nMh : M ≠ h := fun z => by rw [z, lkH] at eM; cases eM
      have eM2 : upd H6 h (.dK (hoD he)) M = some (.lst ((he.map fun e => e.2.2.2.2).map V.int)) := by rw [upd_ne nMh]; exact eM
      have s7 := s1.trans (un _ s6)
      generalize upd H6 h (.dK (hoD he)) = H7 at eM2 s7
      walk_at "rds"
      refine ⟨M, he.map fun e => e.2.2.2.2, rfl, sq eM2, ?_⟩
      walk_at "rds"
      have e1 : (s.ac.map fun e => e.2.2).sum + (he.map fun e => e.2.2.2.2).sum = s.su := by
        rw [← iv.sum, ← ehs]
        have : sH (hsOf he) = (he.map fun e => e.2.2.2.2).sum := by unfold sH sumF hsOf; rw [List.map_map]; rfl
        rw [this]; rfl
      have e2 : (10 : Int) ^ Int.toNat 15 = 1000000000000000 := by decide +kernel
      by_cases hl : 1000000000000000 < s.su + o.a
      · rw [if_pos hl] at e0
        refine ifT (decide_eq_true (by rw [e1, e2]; exact hl)) ?_
        walk_at "rds"
        exact fin e0 rfl _ s7
      · rw [if_neg hl] at e0
        refine ifF (decide_eq_false (by rw [e1, e2]; exact hl)) ?_
        walk_at "rds"
        exact fin e0 rfl _ s7
  refine ifF (decide_eq_false h3) ?_
  walk_at "rds"
  rw [decS]
  by_cases h4 : o.verb = "burn"
  · refine ifT (decide_eq_true h4) ?_
    have e0 : acOp s o = opBurn s o.c o.x o.a := by unfold acOp; rw [if_neg h1, if_neg h2, if_neg h3, if_pos h4]
    unfold opBurn at e0
    walk_at "rds"
    refine ⟨L, _, 0, _, rfl, rfl, sq ma.li, atI_nat (j := 0) rfl, ?_⟩
    refine ⟨n, _, rfl, DGet.k (k := Sum.inr o.x) ma.ow, ?_⟩
    rw [aow_val]
    cases gx : gA s.ac o.x with
    | none =>
      have e2 : chkO s o.c o.x = some ("missing" : Str) := by unfold chkO; rw [gx]
      rw [e2] at e0
      walk_at "rds"
      exact fin e0 rfl _ (Same.refl _)
    | some u =>
      walk_at "rds"
      refine ⟨L, n, b, h, he, s, o.c, o.x, o.a, rfl, ma, (by rw [gx]; intro z; cases z), ?_⟩
      refine fin e0 ?_ _ (Same.refl _)
      unfold rsn
      cases chkO s o.c o.x with
      | some z => rfl
      | none => cases chkF s o.x o.a <;> rfl
  refine ifF (decide_eq_false h4) ?_
  walk_at "rds"
  rw [decS]
  by_cases h5 : o.verb = "pay"
  · refine ifT (decide_eq_true h5) ?_
    refine ifT rfl ?_
    have e0 : acOp s o = opPay s o.c o.x o.y o.a := by unfold acOp; rw [if_neg h1, if_neg h2, if_neg h3, if_neg h4, if_pos h5]
    unfold opPay at e0
    walk_at "rds"
    refine ⟨L, n, b, h, t, he, s, o, rfl, ma, ht, ?_⟩
    cases eP : chkP s o.c o.x o.y o.a with
    | some z =>
      rw [eP] at e0
      have nz := chkP_ne eP
      walk_at "rds"
      refine ifT (by show (!decide (V.str z = V.str "")) = true; rw [decS, decide_eq_false nz]; rfl) ?_
      refine ifT rfl ?_
      walk_at "rds"
      exact fin e0 rfl _ (Same.refl _)
    | none =>
      rw [eP] at e0
      walk_at "rds"
      rw [decS]
      refine ifT (decide_eq_true h5) ?_
      walk_at "rds"
      exact fin e0 rfl _ (Same.refl _)
  refine ifF (decide_eq_false h5) ?_
  walk_at "rds"
  rw [decS]
  by_cases h6 : o.verb = "hold"
  · refine ifT (decide_eq_true h6) ?_
    have e0 : acOp s o = opHold s o.c o.x o.y o.a o.k := by unfold acOp; rw [if_neg h1, if_neg h2, if_neg h3, if_neg h4, if_neg h5, if_pos h6]
    unfold opHold at e0
    walk_at "rds"
    refine ⟨L, n, b, h, t, he, s, o, rfl, ma, ht, ?_⟩
    cases eP : chkP s o.c o.x o.y o.a with
    | some z =>
      rw [eP] at e0
      have nz := chkP_ne eP
      walk_at "rds"
      refine ifT (by show (!decide (V.str z = V.str "")) = true; rw [decS, decide_eq_false nz]; rfl) ?_
      refine ifT rfl ?_
      walk_at "rds"
      exact fin e0 rfl _ (Same.refl _)
    | none =>
      rw [eP] at e0
      dsimp only at e0
      walk_at "rds"
      rw [decS]
      refine ifF (decide_eq_false h5) ?_
      walk_at "rds"
      refine ⟨L, _, 2, _, rfl, rfl, sq ma.li, atI_nat (j := 2) rfl, ?_⟩
      refine ⟨h, _, rfl, DGet.k (k := Sum.inr o.k) ma.ho, ?_⟩
      rw [ho_val]
      have gk := gA_hsOf he o.k
      rw [ehs] at gk
      cases gh : gA he o.k with
      | some u =>
        rw [gh] at gk
        rw [gk] at e0
        walk_at "rds"
        exact fin e0 rfl _ (Same.refl _)
      | none =>
        rw [gh] at gk
        rw [gk] at e0
        dsimp only [Option.map] at e0
        walk_at "rds"
        refine ⟨L, _, 2, _, rfl, rfl, sq ma.li, atI_nat (j := 2) rfl, ?_⟩
        walk_at "rds"
        refine ⟨h, _, rfl, ma.ho, ?_⟩
        rw [show (hoD he).length = he.length from kvs_len _ _ _]
        walk_at "rds"
        by_cases hl : 100 ≤ s.ho.length
        · rw [if_pos hl] at e0
          refine ifT (decide_eq_true (by omega)) ?_
          walk_at "rds"
          exact fin e0 rfl _ (Same.refl _)
        · rw [if_neg hl] at e0
          refine ifF (decide_eq_false (by omega)) ?_
          walk_at "rds"
          exact fin e0 rfl _ (Same.refl _)
  refine ifF (decide_eq_false h6) ?_
  walk_at "rds"
  refine ⟨L, _, 2, _, rfl, rfl, sq ma.li, atI_nat (j := 2) rfl, ?_⟩
  refine ⟨h, _, rfl, DGet.k (k := Sum.inr o.k) ma.ho, ?_⟩
  rw [ho_val]
  have gk := gA_hsOf he o.k
  rw [ehs] at gk
  cases gh : gA he o.k with
  | none =>
    rw [gh] at gk
    have gk : gA s.ho o.k = none := gk
    walk_at "rds"
    by_cases h7 : o.verb = "settle"
    · have e0 : acOp s o = opSettle s o.c o.k := by unfold acOp; rw [if_neg h1, if_neg h2, if_neg h3, if_neg h4, if_neg h5, if_neg h6, if_pos h7]
      unfold opSettle at e0
      rw [gk] at e0
      exact fin e0 rfl _ (Same.refl _)
    · have e0 : acOp s o = opRelease s o.c o.k := by unfold acOp; rw [if_neg h1, if_neg h2, if_neg h3, if_neg h4, if_neg h5, if_neg h6, if_neg h7]
      unfold opRelease at e0
      rw [gk] at e0
      exact fin e0 rfl _ (Same.refl _)
  | some u =>
    rw [gh] at gk
    have gk : gA s.ho o.k = some u.2 := gk
    have mu := gA_some gh
    have sr := iv.src (o.k, u.2) (gA_some gk)
    obtain ⟨v1, g1⟩ := some_of sr.1
    obtain ⟨v2, g2⟩ := some_of sr.2
    have g1 : gA s.ac u.2.1 = some v1 := g1
    have g2 : gA s.ac u.2.2.1 = some v2 := g2
    walk_at "rds"
    rw [decS]
    by_cases h7 : o.verb = "settle"
    · have e0 : acOp s o = opSettle s o.c o.k := by unfold acOp; rw [if_neg h1, if_neg h2, if_neg h3, if_neg h4, if_neg h5, if_neg h6, if_pos h7]
      unfold opSettle at e0
      rw [gk] at e0
      dsimp only at e0
      have eO : chkO s o.c u.2.1 = if v1.1 ≠ o.c then some ("owner" : Str) else none := by unfold chkO; rw [g1]
      rw [eO] at e0
      refine ifT (decide_eq_true h7) ?_
      walk_at "rds"
      refine ⟨L, _, 0, _, rfl, rfl, sq ma.li, atI_nat (j := 0) rfl, ?_⟩
      walk_at "rds"
      refine ⟨L, _, 2, _, rfl, rfl, sq ma.li, atI_nat (j := 2) rfl, ?_⟩
      walk_at "rds"
      refine ⟨h, _, rfl, .inl ⟨_, Sum.inr o.k, .inl ma.ho, rfl, by rw [ho_val, gh]; rfl⟩, ?_⟩
      walk_at "rds"
      refine ⟨u.1, _, 0, _, rfl, rfl, SqT.of (ma.tp _ mu), atI_nat (j := 0) rfl, ?_⟩
      refine ⟨n, _, rfl, .inl ⟨_, Sum.inr u.2.1, .inl ma.ow, rfl, by rw [aow_val, g1]; rfl⟩, ?_⟩
      walk_at "rds"
      rw [decV']
      by_cases hc : v1.1 = o.c
      · rw [if_neg (fun z => z hc)] at e0
        refine ifT (decide_eq_true hc) ?_
        walk_at "rds"
        exact fin e0 rfl _ (Same.refl _)
      · rw [if_pos hc] at e0
        refine ifF (decide_eq_false hc) ?_
        walk_at "rds"
        exact fin e0 rfl _ (Same.refl _)
    · have e0 : acOp s o = opRelease s o.c o.k := by unfold acOp; rw [if_neg h1, if_neg h2, if_neg h3, if_neg h4, if_neg h5, if_neg h6, if_neg h7]
      unfold opRelease at e0
      rw [gk] at e0
      dsimp only at e0
      have eO : chkO s o.c u.2.2.1 = if v2.1 ≠ o.c then some ("owner" : Str) else none := by unfold chkO; rw [g2]
      rw [eO] at e0
      refine ifF (decide_eq_false h7) ?_
      walk_at "rds"
      refine ⟨L, _, 0, _, rfl, rfl, sq ma.li, atI_nat (j := 0) rfl, ?_⟩
      walk_at "rds"
      refine ⟨L, _, 2, _, rfl, rfl, sq ma.li, atI_nat (j := 2) rfl, ?_⟩
      walk_at "rds"
      refine ⟨h, _, rfl, .inl ⟨_, Sum.inr o.k, .inl ma.ho, rfl, by rw [ho_val, gh]; rfl⟩, ?_⟩
      walk_at "rds"
      refine ⟨u.1, _, 1, _, rfl, rfl, SqT.of (ma.tp _ mu), atI_nat (j := 1) rfl, ?_⟩
      refine ⟨n, _, rfl, .inl ⟨_, Sum.inr u.2.2.1, .inl ma.ow, rfl, by rw [aow_val, g2]; rfl⟩, ?_⟩
      walk_at "rds"
      rw [decV']
      by_cases hc : v2.1 = o.c
      · rw [if_neg (fun z => z hc)] at e0
        refine ifT (decide_eq_true hc) ?_
        walk_at "rds"
        exact fin e0 rfl _ (Same.refl _)
      · rw [if_pos hc] at e0
        refine ifF (decide_eq_false hc) ?_
        walk_at "rds"
        exact fin e0 rfl _ (Same.refl _)
end

def spMApply : Sp := fun vs H Q _ => ∃ (L n b h t : Addr) (he : HE) (s s' : AS) (o : OpA) (m : Nat), vs = [.ref L, .ref t] ∧ MAt H L n b h s.ac he ∧ hsOf he = s.ho ∧ AInv s m ∧ m ≤ 1000 ∧ H t = some (.tup (opV o)) ∧ acOp s o = .inr s' ∧
  ∀ H' he', But [n, b, h] H H' → MAt H' L n b h s'.ac he' → hsOf he' = s'.ho → Q .non H'
section
variable {P : Program} {w : World} {K : PySem.W.Frag} {mg : Str → Option Value} {base : Heap}
theorem c__law_apply {C_Accounts : Addr} {C_LedgerError : Addr} {C_Refused : Addr} (T : Txt K mg C_Accounts C_LedgerError C_Refused) : Cal P w K mg base 1 "_law_apply" spMApply [] := by
  refine cal T.d__law_apply sc__law_apply (fun vs H Q E h => ?_) (fun f cdv A' outer s H vs Q E hr h => ?_)
  · obtain ⟨L, n, b, h, t, he, s, s', o, m, rfl, _⟩ := h; rfl
  obtain ⟨L, n, b, h, t, he, s, s', o, m, rfl, ma, ehs, iv, m1000, ht, e, q⟩ := h
  refine ⟨_, (pss_cons (ps_asg (pv 1) (pg_tup (by rfl) (pgs_cons (pg_name (i := 2) sc__law_apply.nd rfl (Or.inl rfl)) (pgs_cons (pg_name (i := 3) sc__law_apply.nd rfl (Or.inl rfl)) (pgs_cons (pg_name (i := 4) sc__law_apply.nd rfl (Or.inl rfl)) (pgs_cons (pg_name (i := 5) sc__law_apply.nd rfl (Or.inl rfl)) (pgs_cons (pg_name (i := 6) sc__law_apply.nd rfl (Or.inl rfl)) (pgs_cons (pg_name (i := 7) sc__law_apply.nd rfl (Or.inl rfl)) pgs_nil))))))))
      (pss_one (ps_if (pt_cmpR op_eq (pv 2) pe_str (nomark _)) (pss_cons (ps_dput (hu_of hr) (pe_ix (kixl (K := K)) (pv 0) pe_int (fun _ _ => rfl)) (pv 4) (pv 3) rfl)
      (pss_one (ps_dput (hu_of hr) (pe_ix (kixl (K := K)) (pv 0) pe_int (fun _ _ => rfl)) (pv 4) pe_int rfl))) (pss_one (ps_if (pt_cmpR op_eq (pv 2) pe_str (nomark _)) (pss_cons (ps_expr (pe_dpop1 (pe_ix (kixl (K := K)) (pv 0) pe_int (fun _ _ => rfl)) (pv 4) ⟨by rfl, by rfl, by rfl, by rfl⟩))
      (pss_one (ps_expr (pe_dpop1 (pe_ix (kixl (K := K)) (pv 0) pe_int (fun _ _ => rfl)) (pv 4) ⟨by rfl, by rfl, by rfl, by rfl⟩)))) (pss_one (ps_if (pt_cmpR op_eq (pv 2) pe_str (nomark _)) (pss_one (ps_dput (hu_of hr) (pe_ix (kixl (K := K)) (pv 0) pe_int (fun _ _ => rfl)) (pv 4) (pe_op op_add (pe_dget (by exact hu_of hr) (pe_ix (kixl (K := K)) (pv 0) pe_int (fun _ _ => rfl)) (pv 4) (fun _ _ => rfl)) (pv 6)) rfl)) (pss_one (ps_if (pt_cmpR op_eq (pv 2) pe_str (nomark _)) (pss_one (ps_dput (hu_of hr) (pe_ix (kixl (K := K)) (pv 0) pe_int (fun _ _ => rfl)) (pv 4) (pe_op op_sub (pe_dget (by exact hu_of hr) (pe_ix (kixl (K := K)) (pv 0) pe_int (fun _ _ => rfl)) (pv 4) (fun _ _ => rfl)) (pv 6)) rfl)) (pss_one (ps_if (pt_cmpR op_eq (pv 2) pe_str (nomark _)) (pss_cons (ps_dput (hu_of hr) (pe_ix (kixl (K := K)) (pv 0) pe_int (fun _ _ => rfl)) (pv 4) (pe_op op_sub (pe_dget (by exact hu_of hr) (pe_ix (kixl (K := K)) (pv 0) pe_int (fun _ _ => rfl)) (pv 4) (fun _ _ => rfl)) (pv 6)) rfl)
      (pss_one (ps_dput (hu_of hr) (pe_ix (kixl (K := K)) (pv 0) pe_int (fun _ _ => rfl)) (pv 5) (pe_op op_add (pe_dget (by exact hu_of hr) (pe_ix (kixl (K := K)) (pv 0) pe_int (fun _ _ => rfl)) (pv 5) (fun _ _ => rfl)) (pv 6)) rfl))) (pss_one (ps_if (pt_cmpR op_eq (pv 2) pe_str (nomark _)) (pss_cons (ps_dput (hu_of hr) (pe_ix (kixl (K := K)) (pv 0) pe_int (fun _ _ => rfl)) (pv 4) (pe_op op_sub (pe_dget (by exact hu_of hr) (pe_ix (kixl (K := K)) (pv 0) pe_int (fun _ _ => rfl)) (pv 4) (fun _ _ => rfl)) (pv 6)) rfl)
      (pss_one (ps_dput (hu_of hr) (pe_ix (kixl (K := K)) (pv 0) pe_int (fun _ _ => rfl)) (pv 7) (pe_tup (pa_cons (pv 4) (pa_cons (pv 5) (pa_cons (pv 6) pa_nil)))) rfl))) (pss_cons (ps_set (i := 8) sc__law_apply.nd rfl (Or.inl rfl) (pe_dpop1 (pe_ix (kixl (K := K)) (pv 0) pe_int (fun _ _ => rfl)) (pv 7) ⟨by rfl, by rfl, by rfl, by rfl⟩))
      (pss_cons (ps_set (i := 9) sc__law_apply.nd rfl (Or.inl rfl) (pe_ifExp (pt_cmpR op_eq (pv 2) pe_str (nomark _)) (pe_ix (kixt (K := K)) (pv 8) pe_int (fun _ _ => rfl)) (pe_ix (kixt (K := K)) (pv 8) pe_int (fun _ _ => rfl))))
      (pss_one (ps_dput (hu_of hr) (pe_ix (kixl (K := K)) (pv 0) pe_int (fun _ _ => rfl)) (pv 9) (pe_op op_add (pe_dget (by exact hu_of hr) (pe_ix (kixl (K := K)) (pv 0) pe_int (fun _ _ => rfl)) (pv 9) (fun _ _ => rfl)) (pe_ix (kixt (K := K)) (pv 8) pe_int (fun _ _ => rfl))) rfl))))))))))))))))), ?_⟩
  have lac := iv.len
  have lho := iv.hlen
  have lhe := hsOf_len he
  rw [ehs] at lhe
  have zB : ∀ (ac : AB), ac.length ≤ 1001 → (baD ac).length < sizeLine := fun ac h => by unfold baD; rw [kvs_len]; exact sz1000 (by omega)
  have zA : ∀ (ac : AB), ac.length ≤ 1001 → (aowD ac).length < sizeLine := fun ac h => by unfold aowD; rw [kvs_len]; exact sz1000 (by omega)
  obtain ⟨hLn, hLb, hLh⟩ := ma.lnb
  walk_at "rds"
  refine ⟨t, _, rfl, SqT.of ht, rfl, _, _, rfl, _, _, rfl, _, _, rfl, _, _, rfl, _, _, rfl, _, _, rfl, rfl, ?_⟩
  walk_at "rds"
  rw [decS]
  by_cases h1 : o.verb = "create"
  · refine ifT (decide_eq_true h1) ?_
    have e0 : acOp s o = opCreate s o.c o.x := by unfold acOp; rw [if_pos h1]
    rw [e0] at e
    unfold opCreate at e
    split at e
    · cases e
    rename_i gx
    split at e
    · cases e
    cases e
    walk_at "rds"
    refine ⟨L, _, 0, _, rfl, rfl, sq ma.li, atI_nat (j := 0) rfl, ?_⟩
    walk_at "rds"
    refine ⟨n, _, rfl, DPut.k (k := Sum.inr o.x) ma.ow (zA s.ac (by omega)), ?_⟩
    rw [aow_put o.x o.c 0]
    walk_at "rds"
    refine ⟨L, _, 1, _, rfl, rfl, sq (by rw [upd_ne hLn]; exact ma.li), atI_nat (j := 1) rfl, ?_⟩
    walk_at "rds"
    refine ⟨b, _, rfl, DPut.k (k := Sum.inr o.x) (by rw [upd_ne ma.n1.symm]; exact ma.ba) (zB s.ac (by omega)), ?_⟩
    rw [ba_put o.x o.c 0]
    exact q _ he (.trans (but_upd (by simp)) (but_upd (by simp))) (ma.new o.x o.c 0) ehs
  refine ifF (decide_eq_false h1) ?_
  walk_at "rds"
  rw [decS]
  by_cases h2 : o.verb = "close"
  · refine ifT (decide_eq_true h2) ?_
    have e0 : acOp s o = opClose s o.c o.x := by unfold acOp; rw [if_neg h1, if_pos h2]
    rw [e0] at e
    unfold opClose at e
    split at e
    · cases e
    split at e
    · cases e
    rename_i u gx
    split at e
    · cases e
    cases e
    walk_at "rds"
    refine ⟨L, _, 0, _, rfl, rfl, sq ma.li, atI_nat (j := 0) rfl, ?_⟩
    walk_at "rds"
    refine ⟨.inl ⟨_, .inl ma.ow⟩, ?_⟩
    walk_at "rds"
    refine ⟨_, Sum.inr o.x, _, ma.ow, rfl, by rw [aow_val, gx]; rfl, ?_⟩
    rw [show dropK (aowD s.ac) (Sum.inr o.x) = aowD (rmA s.ac o.x) from dropK_rmA inrI _ s.ac o.x]
    walk_at "rds"
    refine ⟨L, _, 1, _, rfl, rfl, sq (by rw [upd_ne hLn]; exact ma.li), atI_nat (j := 1) rfl, ?_⟩
    walk_at "rds"
    have eb : upd H n (.dK (aowD (rmA s.ac o.x))) b = some (.dK (baD s.ac)) := by rw [upd_ne ma.n1.symm]; exact ma.ba
    refine ⟨.inl ⟨_, .inl eb⟩, ?_⟩
    walk_at "rds"
    refine ⟨_, Sum.inr o.x, _, eb, rfl, by rw [ba_val, gx]; rfl, ?_⟩
    rw [show dropK (baD s.ac) (Sum.inr o.x) = baD (rmA s.ac o.x) from dropK_rmA inrI _ s.ac o.x]
    exact q _ he (.trans (but_upd (by simp)) (but_upd (by simp))) (ma.del o.x) ehs
  refine ifF (decide_eq_false h2) ?_
  walk_at "rds"
  rw [decS]
  by_cases h3 : o.verb = "issue"
  · refine ifT (decide_eq_true h3) ?_
    have e0 : acOp s o = opIssue s o.c o.x o.a := by unfold acOp; rw [if_neg h1, if_neg h2, if_pos h3]
    rw [e0] at e
    unfold opIssue at e
    split at e
    · cases e
    split at e
    · cases e
    rename_i gx
    split at e
    · cases e
    cases e
    obtain ⟨u, gu⟩ := chk_none gx
    walk_at "rds"
    refine ⟨L, _, 1, _, rfl, rfl, sq ma.li, atI_nat (j := 1) rfl, ?_⟩
    walk_at "rds"
    refine ⟨b, _, rfl, .inl ⟨_, Sum.inr o.x, .inl ma.ba, rfl, by rw [ba_val, gu]; rfl⟩, ?_⟩
    walk_at "rds"
    refine ⟨L, _, 1, _, rfl, rfl, sq ma.li, atI_nat (j := 1) rfl, ?_⟩
    walk_at "rds"
    refine ⟨b, _, rfl, DPut.k (k := Sum.inr o.x) ma.ba (zB s.ac (by omega)), ?_⟩
    rw [ba_put o.x u.1 (u.2 + o.a)]
    refine q _ he (but_upd (by simp)) ?_ ehs
    show MAt _ L n b h (addB s.ac o.x o.a) he
    rw [addB_some gu]
    exact ma.bal iv.ok gu _
  refine ifF (decide_eq_false h3) ?_
  walk_at "rds"
  rw [decS]
  by_cases h4 : o.verb = "burn"
  · refine ifT (decide_eq_true h4) ?_
    have e0 : acOp s o = opBurn s o.c o.x o.a := by unfold acOp; rw [if_neg h1, if_neg h2, if_neg h3, if_pos h4]
    rw [e0] at e
    unfold opBurn at e
    split at e
    · cases e
    rename_i gx
    split at e
    · cases e
    cases e
    obtain ⟨u, gu, _⟩ := chkO_none gx
    walk_at "rds"
    refine ⟨L, _, 1, _, rfl, rfl, sq ma.li, atI_nat (j := 1) rfl, ?_⟩
    walk_at "rds"
    refine ⟨b, _, rfl, .inl ⟨_, Sum.inr o.x, .inl ma.ba, rfl, by rw [ba_val, gu]; rfl⟩, ?_⟩
    walk_at "rds"
    refine ⟨L, _, 1, _, rfl, rfl, sq ma.li, atI_nat (j := 1) rfl, ?_⟩
    walk_at "rds"
    refine ⟨b, _, rfl, DPut.k (k := Sum.inr o.x) ma.ba (zB s.ac (by omega)), ?_⟩
    rw [ba_put o.x u.1 (u.2 - o.a)]
    refine q _ he (but_upd (by simp)) ?_ ehs
    show MAt _ L n b h (addB s.ac o.x (-o.a)) he
    rw [addB_some gu]
    exact ma.bal iv.ok gu _
  refine ifF (decide_eq_false h4) ?_
  walk_at "rds"
  rw [decS]
  by_cases h5 : o.verb = "pay"
  · refine ifT (decide_eq_true h5) ?_
    have e0 : acOp s o = opPay s o.c o.x o.y o.a := by unfold acOp; rw [if_neg h1, if_neg h2, if_neg h3, if_neg h4, if_pos h5]
    rw [e0] at e
    unfold opPay at e
    split at e
    · cases e
    rename_i gp
    cases e
    obtain ⟨u, v, gu, gv, _⟩ := chkP_none2 gp
    walk_at "rds"
    refine ⟨L, _, 1, _, rfl, rfl, sq ma.li, atI_nat (j := 1) rfl, ?_⟩
    walk_at "rds"
    refine ⟨b, _, rfl, .inl ⟨_, Sum.inr o.x, .inl ma.ba, rfl, by rw [ba_val, gu]; rfl⟩, ?_⟩
    walk_at "rds"
    refine ⟨L, _, 1, _, rfl, rfl, sq ma.li, atI_nat (j := 1) rfl, ?_⟩
    walk_at "rds"
    refine ⟨b, _, rfl, DPut.k (k := Sum.inr o.x) ma.ba (zB s.ac (by omega)), ?_⟩
    rw [ba_put o.x u.1 (u.2 - o.a)]
    have ma1 := ma.bal iv.ok gu (u.2 - o.a)
    have bt1 : But [n, b, h] H (upd H b (.dK (baD (pA s.ac o.x (u.1, u.2 - o.a))))) := but_upd (by simp)
    generalize upd H b (.dK (baD (pA s.ac o.x (u.1, u.2 - o.a)))) = H1 at ma1 bt1
    have e1 : addB s.ac o.x (-o.a) = pA s.ac o.x (u.1, u.2 - o.a) := by rw [addB_some gu]; rfl
    have l1 : (pA s.ac o.x (u.1, u.2 - o.a)).length ≤ 1001 := by have := pA_len s.ac o.x (u.1, u.2 - o.a); omega
    have ok1 : kOk (pA s.ac o.x (u.1, u.2 - o.a)) := pA_ok _ _ iv.ok
    obtain ⟨v1, gv1⟩ : ∃ v1, gA (pA s.ac o.x (u.1, u.2 - o.a)) o.y = some v1 := by
      rw [gA_put iv.ok]; split
      · exact ⟨_, rfl⟩
      · exact ⟨_, gv⟩
    rw [e1] at q
    generalize pA s.ac o.x (u.1, u.2 - o.a) = ac1 at ma1 l1 ok1 gv1 q
    walk_at "rds"
    refine ⟨L, _, 1, _, rfl, rfl, sq ma1.li, atI_nat (j := 1) rfl, ?_⟩
    walk_at "rds"
    refine ⟨b, _, rfl, .inl ⟨_, Sum.inr o.y, .inl ma1.ba, rfl, by rw [ba_val, gv1]; rfl⟩, ?_⟩
    walk_at "rds"
    refine ⟨L, _, 1, _, rfl, rfl, sq ma1.li, atI_nat (j := 1) rfl, ?_⟩
    walk_at "rds"
    refine ⟨b, _, rfl, DPut.k (k := Sum.inr o.y) ma1.ba (zB _ l1), ?_⟩
    rw [ba_put o.y v1.1 (v1.2 + o.a)]
    refine q _ he (bt1.trans (but_upd (by simp))) ?_ ehs
    show MAt _ L n b h (addB ac1 o.y o.a) he
    rw [addB_some gv1]
    exact ma1.bal ok1 gv1 _
  refine ifF (decide_eq_false h5) ?_
  walk_at "rds"
  rw [decS]
  by_cases h6 : o.verb = "hold"
  · refine ifT (decide_eq_true h6) ?_
    have e0 : acOp s o = opHold s o.c o.x o.y o.a o.k := by unfold acOp; rw [if_neg h1, if_neg h2, if_neg h3, if_neg h4, if_neg h5, if_pos h6]
    rw [e0] at e
    unfold opHold at e
    split at e
    · cases e
    rename_i gp
    split at e
    · cases e
    split at e
    · cases e
    cases e
    obtain ⟨u, v, gu, gv, _⟩ := chkP_none2 gp
    walk_at "rds"
    refine ⟨L, _, 1, _, rfl, rfl, sq ma.li, atI_nat (j := 1) rfl, ?_⟩
    walk_at "rds"
    refine ⟨b, _, rfl, .inl ⟨_, Sum.inr o.x, .inl ma.ba, rfl, by rw [ba_val, gu]; rfl⟩, ?_⟩
    walk_at "rds"
    refine ⟨L, _, 1, _, rfl, rfl, sq ma.li, atI_nat (j := 1) rfl, ?_⟩
    walk_at "rds"
    refine ⟨b, _, rfl, DPut.k (k := Sum.inr o.x) ma.ba (zB s.ac (by omega)), ?_⟩
    rw [ba_put o.x u.1 (u.2 - o.a)]
    have ma1 := ma.bal iv.ok gu (u.2 - o.a)
    have bt1 : But [n, b, h] H (upd H b (.dK (baD (pA s.ac o.x (u.1, u.2 - o.a))))) := but_upd (by simp)
    generalize upd H b (.dK (baD (pA s.ac o.x (u.1, u.2 - o.a)))) = H1 at ma1 bt1
    have e1 : addB s.ac o.x (-o.a) = pA s.ac o.x (u.1, u.2 - o.a) := by rw [addB_some gu]; rfl
    rw [e1] at q
    generalize pA s.ac o.x (u.1, u.2 - o.a) = ac1 at ma1 q
    walk_at "rds"
    intro T0 hT
    have sT := same_upd (o := .tup (holdV (o.x, o.y, o.a))) hT
    have eT : upd H1 T0 (.tup [.str o.x, .str o.y, .int o.a]) = upd H1 T0 (.tup (holdV (o.x, o.y, o.a))) := rfl
    rw [eT]
    have eT2 : upd H1 T0 (.tup (holdV (o.x, o.y, o.a))) T0 = some (.tup (holdV (o.x, o.y, o.a))) := upd_same
    generalize upd H1 T0 (.tup (holdV (o.x, o.y, o.a))) = H2 at sT eT2
    have ma2 := ma1.on sT
    walk_at "rds"
    refine ⟨L, _, 2, _, rfl, rfl, sq ma2.li, atI_nat (j := 2) rfl, ?_⟩
    walk_at "rds"
    refine ⟨h, _, rfl, DPut.k (k := Sum.inr o.k) ma2.ho (by unfold hoD; rw [kvs_len]; exact sz1000' (by omega)), ?_⟩
    rw [ho_put o.k T0 (o.x, o.y, o.a)]
    exact q _ (pA he o.k (T0, (o.x, o.y, o.a))) ((bt1.trans (Same.but sT)).trans (but_upd (by simp))) (ma2.hold eT2) (by rw [pA_hsOf, ehs])
  refine ifF (decide_eq_false h6) ?_
  walk_at "rds"
  refine ⟨L, _, 2, _, rfl, rfl, sq ma.li, atI_nat (j := 2) rfl, ?_⟩
  walk_at "rds"
  refine ⟨.inl ⟨_, .inl ma.ho⟩, ?_⟩
  walk_at "rds"
  have gk := gA_hsOf he o.k
  rw [ehs] at gk
  by_cases h7 : o.verb = "settle"
  · have e0 : acOp s o = opSettle s o.c o.k := by unfold acOp; rw [if_neg h1, if_neg h2, if_neg h3, if_neg h4, if_neg h5, if_neg h6, if_pos h7]
    rw [e0] at e
    unfold opSettle at e
    cases gh : gA he o.k with
    | none => rw [gh] at gk; rw [show gA s.ho o.k = none from gk] at e; cases e
    | some u =>
    rw [gh] at gk
    have gk : gA s.ho o.k = some u.2 := gk
    have mu := gA_some gh
    obtain ⟨v, gv⟩ := some_of (iv.src (o.k, u.2) (gA_some gk)).2
    have gv : gA s.ac u.2.2.1 = some v := gv
    rw [gk] at e
    dsimp only at e
    split at e
    · cases e
    cases e
    refine ⟨_, Sum.inr o.k, _, ma.ho, rfl, by rw [ho_val, gh]; rfl, ?_⟩
    rw [show dropK (hoD he) (Sum.inr o.k) = hoD (rmA he o.k) from dropK_rmA inrI _ he o.k]
    have ht2 : upd H h (.dK (hoD (rmA he o.k))) u.1 = some (.tup (holdV u.2)) := by
      have := ma.tp _ mu
      rw [upd_ne (ne_of this ma.ho (by intro z; cases z))]; exact this
    have ma1 := ma.free o.k
    have bt1 : But [n, b, h] H (upd H h (.dK (hoD (rmA he o.k)))) := but_upd (by simp)
    generalize upd H h (.dK (hoD (rmA he o.k))) = H1 at ma1 bt1 ht2
    walk_at "rds"
    rw [decS]
    refine ifT (decide_eq_true h7) ?_
    walk_at "rds"
    refine ⟨u.1, _, 1, _, rfl, rfl, SqT.of ht2, atI_nat (j := 1) rfl, ?_⟩
    walk_at "rds"
    refine ⟨L, _, 1, _, rfl, rfl, sq ma1.li, atI_nat (j := 1) rfl, ?_⟩
    walk_at "rds"
    refine ⟨b, _, rfl, .inl ⟨_, Sum.inr u.2.2.1, .inl ma1.ba, rfl, by rw [ba_val, gv]; rfl⟩, ?_⟩
    walk_at "rds"
    refine ⟨u.1, _, 2, _, rfl, rfl, SqT.of ht2, atI_nat (j := 2) rfl, ?_⟩
    walk_at "rds"
    refine ⟨L, _, 1, _, rfl, rfl, sq ma1.li, atI_nat (j := 1) rfl, ?_⟩
    walk_at "rds"
    refine ⟨b, _, rfl, DPut.k (k := Sum.inr u.2.2.1) ma1.ba (zB s.ac (by omega)), ?_⟩
    rw [ba_put u.2.2.1 v.1 (v.2 + u.2.2.2)]
    refine q _ (rmA he o.k) (bt1.trans (but_upd (by simp))) ?_ (by rw [rmA_hsOf, ehs])
    show MAt _ L n b h (addB s.ac u.2.2.1 u.2.2.2) (rmA he o.k)
    rw [addB_some gv]
    exact ma1.bal iv.ok gv _
  · have e0 : acOp s o = opRelease s o.c o.k := by unfold acOp; rw [if_neg h1, if_neg h2, if_neg h3, if_neg h4, if_neg h5, if_neg h6, if_neg h7]
    rw [e0] at e
    unfold opRelease at e
    cases gh : gA he o.k with
    | none => rw [gh] at gk; rw [show gA s.ho o.k = none from gk] at e; cases e
    | some u =>
    rw [gh] at gk
    have gk : gA s.ho o.k = some u.2 := gk
    have mu := gA_some gh
    obtain ⟨v, gv⟩ := some_of (iv.src (o.k, u.2) (gA_some gk)).1
    have gv : gA s.ac u.2.1 = some v := gv
    rw [gk] at e
    dsimp only at e
    split at e
    · cases e
    cases e
    refine ⟨_, Sum.inr o.k, _, ma.ho, rfl, by rw [ho_val, gh]; rfl, ?_⟩
    rw [show dropK (hoD he) (Sum.inr o.k) = hoD (rmA he o.k) from dropK_rmA inrI _ he o.k]
    have ht2 : upd H h (.dK (hoD (rmA he o.k))) u.1 = some (.tup (holdV u.2)) := by
      have := ma.tp _ mu
      rw [upd_ne (ne_of this ma.ho (by intro z; cases z))]; exact this
    have ma1 := ma.free o.k
    have bt1 : But [n, b, h] H (upd H h (.dK (hoD (rmA he o.k)))) := but_upd (by simp)
    generalize upd H h (.dK (hoD (rmA he o.k))) = H1 at ma1 bt1 ht2
    walk_at "rds"
    rw [decS]
    refine ifF (decide_eq_false h7) ?_
    walk_at "rds"
    refine ⟨u.1, _, 0, _, rfl, rfl, SqT.of ht2, atI_nat (j := 0) rfl, ?_⟩
    walk_at "rds"
    refine ⟨L, _, 1, _, rfl, rfl, sq ma1.li, atI_nat (j := 1) rfl, ?_⟩
    walk_at "rds"
    refine ⟨b, _, rfl, .inl ⟨_, Sum.inr u.2.1, .inl ma1.ba, rfl, by rw [ba_val, gv]; rfl⟩, ?_⟩
    walk_at "rds"
    refine ⟨u.1, _, 2, _, rfl, rfl, SqT.of ht2, atI_nat (j := 2) rfl, ?_⟩
    walk_at "rds"
    refine ⟨L, _, 1, _, rfl, rfl, sq ma1.li, atI_nat (j := 1) rfl, ?_⟩
    walk_at "rds"
    refine ⟨b, _, rfl, DPut.k (k := Sum.inr u.2.1) ma1.ba (zB s.ac (by omega)), ?_⟩
    rw [ba_put u.2.1 v.1 (v.2 + u.2.2.2)]
    refine q _ (rmA he o.k) (bt1.trans (but_upd (by simp))) ?_ (by rw [rmA_hsOf, ehs])
    show MAt _ L n b h (addB s.ac u.2.1 u.2.2.2) (rmA he o.k)
    rw [addB_some gv]
    exact ma1.bal iv.ok gv _
end

theorem cutV_take' {xs : List V} {n : Nat} : cutV xs none (some (n : Int)) = xs.take n := by
  unfold cutV
  rw [HT.sIx_nat, HT.sIx_none, List.drop_zero, Nat.sub_zero]
  rcases Nat.le_total n xs.length with h | h
  · rw [Nat.min_eq_left h]
  · rw [Nat.min_eq_right h, List.take_of_length_le (Nat.le_refl _), List.take_of_length_le h]
def spAcBal (B C : Addr) (f : Int × Int → Int) : Sp := fun vs H Q E => ∃ (p n b h : Addr) (he : HE) (s : AS) (k : Str), vs = [.ref p, .str k] ∧ AW C H p n b h he s ∧ (gA s.ac k = none → Rz B H E "missing") ∧ ∀ x, gA s.ac k = some x → Q (.int (f x)) H
section
variable {P : Program} {w : World} {K : PySem.W.Frag} {mg : Str → Option Value} {base : Heap}
theorem m_Accounts__balance {C_Accounts : Addr} {C_LedgerError : Addr} {C_Refused : Addr} (T : Txt K mg C_Accounts C_LedgerError C_Refused) : MetX P w K mg base 4 C_Accounts "balance" (spAcBal C_Refused C_Accounts (·.2)) := by
  have m_Accounts___check := m_Accounts___check (P := P) (w := w) (base := base) T
  refine metX T.cl_Accounts T.me_Accounts__balance sc_Accounts__balance (fun vs H Q E h => ?_) (fun f cdv A outer s H vs Q E hr h => ?_)
  · obtain ⟨p, n, b, h, he, s, k, rfl, _⟩ := h; rfl
  obtain ⟨p, n, b, h, he, s, k, rfl, aw, no, q⟩ := h
  obtain ⟨dx, g⟩ := aw.at_.ins
  refine ⟨_, (pss_cons (ps_expr (pe_mtX m_Accounts___check hr (by decide) (fun σ => passAt (takes_of rfl rfl rfl rfl) σ) (pv 0) (pa_cons (pv 1) pa_nil)))
      (pss_one (ps_ret (pe_dget (by exact hu_of hr) (pe_fld (pv 0) rfl) (pv 1) (fun _ _ => rfl))))), ?_⟩
  walk_at "rds"
  refine ⟨p, dx, _, rfl, g, rfl, ?_⟩
  walk_at "rds"
  refine ⟨p, n, b, h, he, s, k, rfl, aw, ?_⟩
  unfold chk
  cases gk : gA s.ac k with
  | none => exact no gk
  | some x =>
    walk_at "rds"
    refine ⟨p, _, dx, _, _, rfl, g, T.cl_Accounts, T.na_Accounts__balances, rfl, ?_⟩
    walk_at "rds"
    refine ⟨b, _, rfl, .inl ⟨_, Sum.inr k, .inl aw.at_.ba, rfl, by rw [ba_val, gk]; rfl⟩, ?_⟩
    exact q x gk
theorem m_Accounts__owner {C_Accounts : Addr} {C_LedgerError : Addr} {C_Refused : Addr} (T : Txt K mg C_Accounts C_LedgerError C_Refused) : MetX P w K mg base 4 C_Accounts "owner" (spAcBal C_Refused C_Accounts (·.1)) := by
  have m_Accounts___check := m_Accounts___check (P := P) (w := w) (base := base) T
  refine metX T.cl_Accounts T.me_Accounts__owner sc_Accounts__owner (fun vs H Q E h => ?_) (fun f cdv A outer s H vs Q E hr h => ?_)
  · obtain ⟨p, n, b, h, he, s, k, rfl, _⟩ := h; rfl
  obtain ⟨p, n, b, h, he, s, k, rfl, aw, no, q⟩ := h
  obtain ⟨dx, g⟩ := aw.at_.ins
  refine ⟨_, (pss_cons (ps_expr (pe_mtX m_Accounts___check hr (by decide) (fun σ => passAt (takes_of rfl rfl rfl rfl) σ) (pv 0) (pa_cons (pv 1) pa_nil)))
      (pss_one (ps_ret (pe_dget (by exact hu_of hr) (pe_fld (pv 0) rfl) (pv 1) (fun _ _ => rfl))))), ?_⟩
  walk_at "rds"
  refine ⟨p, dx, _, rfl, g, rfl, ?_⟩
  walk_at "rds"
  refine ⟨p, n, b, h, he, s, k, rfl, aw, ?_⟩
  unfold chk
  cases gk : gA s.ac k with
  | none => exact no gk
  | some x =>
    walk_at "rds"
    refine ⟨p, _, dx, _, _, rfl, g, T.cl_Accounts, T.na_Accounts__owners, rfl, ?_⟩
    walk_at "rds"
    refine ⟨n, _, rfl, .inl ⟨_, Sum.inr k, .inl aw.at_.ow, rfl, by rw [aow_val, gk]; rfl⟩, ?_⟩
    exact q x gk
end
def spMSame (C : Addr) : Sp := fun vs H Q _ => ∃ (p n b h L n2 b2 h2 : Addr) (he he2 : HE) (s : AS) (m : Nat), vs = [.ref p, .ref L] ∧ AcAt C H p n b h s.ac he s.su ∧ hsOf he = s.ho ∧ MAt H L n2 b2 h2 s.ac he2 ∧ hsOf he2 = s.ho ∧ AInv s m ∧ m ≤ 1000 ∧ ∀ H', Same H H' → Q (.bl true) H'
section
variable {P : Program} {w : World} {K : PySem.W.Frag} {mg : Str → Option Value} {base : Heap}
theorem c__law_same {C_Accounts : Addr} {C_LedgerError : Addr} {C_Refused : Addr} (T : Txt K mg C_Accounts C_LedgerError C_Refused) : Cal P w K mg base 5 "_law_same" (spMSame C_Accounts) [] := by
  have m_Accounts__rows := m_Accounts__rows (P := P) (w := w) (K := K) (base := base) T
  have m_Accounts__held := m_Accounts__held (P := P) (w := w) (K := K) (base := base) T
  have m_Accounts__supply := m_Accounts__supply (P := P) (w := w) (base := base) T
  have m_Accounts__balance := m_Accounts__balance (P := P) (w := w) (base := base) T
  have m_Accounts__owner := m_Accounts__owner (P := P) (w := w) (base := base) T
  refine cal T.d__law_same sc__law_same (fun vs H Q E h => ?_) (fun f cdv A' outer s H vs Q E hr h => ?_)
  · obtain ⟨p, n, b, h, L, n2, b2, h2, he, he2, s, m, rfl, _⟩ := h; rfl
  obtain ⟨p, n, b, h, L, n2, b2, h2, he, he2, s, m, rfl, a1, ehs, ma, ehs2, iv, m1000, q⟩ := h
  have lac := iv.len
  have lho := iv.hlen
  have hok := iv.ok
  have hokh := iv.okh
  have sh := iv.sh
  refine ⟨_, (pss_cons (ps_setLc (i := 2) (own := [("name", 5)]) (g := gName 5) rfl sc__law_same.nd rfl rfl (sw_true rfl rfl rfl (by decide +kernel)) (pi_list (pe_callB (call_sortedDS rfl (units65 hr)) (by rfl) T.z_sorted (by decide +kernel) (pa_cons (pe_ix (kixl (K := K)) (pv 1) pe_int (fun _ _ => rfl)) pa_nil))) (blkOk_by (own := [("name", 5)]) (N := ["accounts", "model", "rows", "held", "total", "name", "owner", "balance", "key", "row"]) (sc := defScope s__law_same) (by decide +kernel)) (fun _ _ _ _ _ => pg_name (i := 5) sc__law_same.nd rfl (Or.inl rfl)) (fun _ _ _ _ _ => pts_nil) (fun _ _ _ _ _ => (pe_tup (pa_cons (pv 5) (pa_cons (pe_dget (by exact hu_of hr) (pe_ix (kixl (K := K)) (pv 1) pe_int (fun _ _ => rfl)) (pv 5) (fun _ _ => rfl)) (pa_cons (pe_dget (by exact hu_of hr) (pe_ix (kixl (K := K)) (pv 1) pe_int (fun _ _ => rfl)) (pv 5) (fun _ _ => rfl)) pa_nil))))))
      (pss_cons (ps_setLc (i := 3) (own := [("key", 8)]) (g := gName 8) rfl sc__law_same.nd rfl rfl (sw_true rfl rfl rfl (by decide +kernel)) (pi_list (pe_callB (call_sortedDS rfl (units65 hr)) (by rfl) T.z_sorted (by decide +kernel) (pa_cons (pe_ix (kixl (K := K)) (pv 1) pe_int (fun _ _ => rfl)) pa_nil))) (blkOk_by (own := [("key", 8)]) (N := ["accounts", "model", "rows", "held", "total", "name", "owner", "balance", "key", "row"]) (sc := defScope s__law_same) (by decide +kernel)) (fun _ _ _ _ _ => pg_name (i := 8) sc__law_same.nd rfl (Or.inl rfl)) (fun _ _ _ _ _ => pts_nil) (fun _ _ _ _ _ => (pe_tup (pa_cons (pv 8) (pa_cons (pe_ix (kixt (K := K)) (pe_dget (by exact hu_of hr) (pe_ix (kixl (K := K)) (pv 1) pe_int (fun _ _ => rfl)) (pv 8) (fun _ _ => rfl)) pe_int (fun _ _ => rfl)) (pa_cons (pe_ix (kixt (K := K)) (pe_dget (by exact hu_of hr) (pe_ix (kixl (K := K)) (pv 1) pe_int (fun _ _ => rfl)) (pv 8) (fun _ _ => rfl)) pe_int (fun _ _ => rfl)) (pa_cons (pe_ix (kixt (K := K)) (pe_dget (by exact hu_of hr) (pe_ix (kixl (K := K)) (pv 1) pe_int (fun _ _ => rfl)) (pv 8) (fun _ _ => rfl)) pe_int (fun _ _ => rfl)) pa_nil)))))))
      (pss_cons (ps_if (PW.pt (pw_or (pt_cmpR (op_neD hr.units) (pe_mt0 m_Accounts__rows hr (by decide) (pv 0)) (pv 2) (nomark _)) (pw_or1 (pt_cmpR (op_neD hr.units) (pe_mt0 m_Accounts__held hr (by decide) (pv 0)) (pv 3) (nomark _))))) (pss_one (ps_ret pe_bl)) pss_nil)
      (pss_cons (ps_set (i := 4) sc__law_same.nd rfl (Or.inl rfl) (pe_op op_add (pe_callB (cr_sum rfl) (by rfl) T.z_sum (by decide +kernel) (pa_cons (pe_lc (own := [("row", 9)]) (g := gName 9) (by rfl) sc__law_same.nd (pi_list (pv 2)) (blkOk_by (own := [("row", 9)]) (N := ["accounts", "model", "rows", "held", "total", "name", "owner", "balance", "key", "row"]) (sc := defScope s__law_same) (by decide +kernel)) (fun _ _ _ _ _ => pg_name (i := 9) sc__law_same.nd rfl (Or.inl rfl)) (fun _ _ _ _ _ => pts_nil) (fun _ _ _ _ _ => (pe_ix (kixt (K := K)) (pv 9) pe_int (fun _ _ => rfl)))) pa_nil)) (pe_callB (cr_sum rfl) (by rfl) T.z_sum (by decide +kernel) (pa_cons (pe_lc (own := [("row", 9)]) (g := gName 9) (by rfl) sc__law_same.nd (pi_list (pv 3)) (blkOk_by (own := [("row", 9)]) (N := ["accounts", "model", "rows", "held", "total", "name", "owner", "balance", "key", "row"]) (sc := defScope s__law_same) (by decide +kernel)) (fun _ _ _ _ _ => pg_name (i := 9) sc__law_same.nd rfl (Or.inl rfl)) (fun _ _ _ _ _ => pts_nil) (fun _ _ _ _ _ => (pe_ix (kixt (K := K)) (pv 9) pe_int (fun _ _ => rfl)))) pa_nil))))
      (pss_cons (ps_for PassesOwn.never rfl (pi_list (pe_slice (ksll (K := K)) (pv 2) po_none (po_some pe_int))) (pg_tup (by rfl) (pgs_cons (pg_name (i := 5) sc__law_same.nd rfl (Or.inl rfl)) (pgs_cons (pg_name (i := 6) sc__law_same.nd rfl (Or.inl rfl)) (pgs_cons (pg_name (i := 7) sc__law_same.nd rfl (Or.inl rfl)) pgs_nil)))) (pss_one (ps_if (PW.pt (pw_or (pt_cmpR op_ne (pe_mtX m_Accounts__owner hr (by decide) no_pass (pv 0) (pa_cons (pv 5) pa_nil)) (pv 6) (nomark _)) (pw_or1 (pt_cmpR op_ne (pe_mtX m_Accounts__balance hr (by decide) no_pass (pv 0) (pa_cons (pv 5) pa_nil)) (pv 7) (nomark _))))) (pss_one (ps_ret pe_bl)) pss_nil)))
      (pss_one (ps_ret (pe_cmpR op_eq (pe_mt0 m_Accounts__supply hr (by decide) (pv 0)) (pv 4) (nomark _))))))))), ?_⟩
  walk_at "rds"
  refine ⟨L, _, 0, _, rfl, rfl, sq ma.li, atI_nat (j := 0) rfl, ?_⟩
  refine ⟨n2, _, s.ac.map (fun k => k.1), rfl, .inl ma.ow, (by exact kvs_keys), by rw [List.length_map]; omega, fun l hl => ?_⟩
  have s1 : Same H (upd H l (.lst ((sortK s.ac).map V.str))) := same_upd hl
  have hl1 : upd H l (.lst ((sortK s.ac).map V.str)) l = some (.lst ((sortK s.ac).map V.str)) := upd_same
  have e1 : upd H l (.lst ((sortS (s.ac.map fun k => k.1)).map V.str)) = upd H l (.lst ((sortK s.ac).map V.str)) := rfl
  rw [e1]
  generalize upd H l (.lst ((sortK s.ac).map V.str)) = H1 at s1 hl1
  have lK : (sortK s.ac).length ≤ 1000 := by rw [sortK_len]; omega
  walk_at "rds"
  refine ⟨⟨_, sq hl1⟩, fun D hD => ?_⟩
  refine lc_it (walk_list (K := K) (a := l) (xs := (sortK s.ac).map V.str)) (Pv := fun i H' => ∃ xs, Same H1 H' ∧ H' D = some (.lst xs) ∧ DtAll K H' none xs (((sortK s.ac).take i).map (rowA s.ac))) ⟨[], same_upd hD, upd_same, .nil⟩ (fun _ _ _ h => by obtain ⟨_, h, _⟩ := h; exact sq (h _ _ hl1)) (fun i x H6 H7 hi hp2 hy => ?_) (fun H6 hp2 => ?_)
  · obtain ⟨xs, s6, hD6, hx6⟩ := hp2
    obtain ⟨rfl, gx⟩ := hy
    rw [List.length_map] at hi
    rw [List.getElem?_map, List.getElem?_eq_getElem hi] at gx
    obtain rfl : V.str (sortK s.ac)[i] = x := Option.some.inj gx
    obtain ⟨x, gk, mk⟩ := sortK_get hok (List.getElem_mem hi)
    have ht : (sortK s.ac).take (i + 1) = (sortK s.ac).take i ++ [(sortK s.ac)[i]] := by rw [List.take_add_one, List.getElem?_eq_getElem hi]; rfl
    have m6 := ma.on (s1.trans s6)
    rw [ht, List.map_append]
    generalize (sortK s.ac)[i] = c at gk mk
    have e3 : rowA s.ac c = .tuple [.str c, .int x.1, .int x.2] := by unfold rowA; rw [gk]
    have hc := sh.1 _ mk
    refine ⟨rfl, tyes ?_⟩
    walk_at "rds"
    refine ⟨L, _, 0, _, rfl, rfl, sq m6.li, atI_nat (j := 0) rfl, ?_⟩
    walk_at "rds"
    refine ⟨n2, _, rfl, .inl ⟨_, Sum.inr c, .inl m6.ow, rfl, by rw [aow_val, gk]; rfl⟩, ?_⟩
    walk_at "rds"
    refine ⟨L, _, 1, _, rfl, rfl, sq m6.li, atI_nat (j := 1) rfl, ?_⟩
    walk_at "rds"
    refine ⟨b2, _, rfl, .inl ⟨_, Sum.inr c, .inl m6.ba, rfl, by rw [ba_val, gk]; rfl⟩, ?_⟩
    walk_at "rds"
    intro t htn
    have hD7 := (same_upd (o := .tup [.str c, .int x.1, .int x.2]) htn) _ _ hD6
    have hxl : xs.length ≤ i := by rw [hx6.length, List.length_map, List.length_take]; omega
    refine ⟨xs, hD7, sz1000' (by omega), xs ++ [.ref t], same_mut (s6.trans (same_upd htn)) hD, upd_same, ?_⟩
    have hdt : Dt K (upd H7 t (.tup [.str c, .int x.1, .int x.2])) none (.ref t) (rowA s.ac c) := by
      rw [e3]
      exact .tup (.inl upd_same) (.cons (.str _ (Nat.le_trans hc.1 (by decide))) (.cons (.int _) (.cons (.int _) .nil)))
    refine DtAll.keep (tp_put hD7) _ _ (noLs_all fun d hd => ?_) ((hx6.on (same_upd htn)).snoc hdt)
    rcases List.mem_append.mp hd with hd | hd
    · obtain ⟨z, _, rfl⟩ := List.mem_map.mp hd; exact rowA_noL z
    · rw [List.mem_singleton.mp hd]; exact rowA_noL c
  obtain ⟨xr, s6, eR, dR⟩ := hp2
  rw [List.length_map, List.take_of_length_le (Nat.le_refl _)] at dR
  have ma := ma.on (s1.trans s6)
  have a1 := a1.on (s1.trans s6)
  have sA := s1.trans s6
  clear s1 s6 hl1 e1 hl hD H1
  walk_at "rds"
  refine ⟨L, _, 2, _, rfl, rfl, sq ma.li, atI_nat (j := 2) rfl, ?_⟩
  refine ⟨h2, _, he2.map (fun k => k.1), rfl, .inl ma.ho, (by exact kvs_keys), by have := hsOf_len he2; rw [ehs2] at this; rw [List.length_map]; omega, fun l hl => ?_⟩
  have s1 : Same H6 (upd H6 l (.lst ((sortK s.ho).map V.str))) := same_upd hl
  have hl1 : upd H6 l (.lst ((sortK s.ho).map V.str)) l = some (.lst ((sortK s.ho).map V.str)) := upd_same
  have e1 : upd H6 l (.lst ((sortS (he2.map fun k => k.1)).map V.str)) = upd H6 l (.lst ((sortK s.ho).map V.str)) := by unfold sortK; rw [← ehs2, hsOf_keys]
  rw [e1]
  generalize upd H6 l (.lst ((sortK s.ho).map V.str)) = H1 at s1 hl1
  have lK : (sortK s.ho).length ≤ 1000 := by rw [sortK_len]; omega
  walk_at "rds"
  refine ⟨⟨_, sq hl1⟩, fun G hG => ?_⟩
  refine lc_it (walk_list (K := K) (a := l) (xs := (sortK s.ho).map V.str)) (Pv := fun i H' => ∃ xs, Same H1 H' ∧ H' G = some (.lst xs) ∧ DtAll K H' none xs (((sortK s.ho).take i).map (rowH s.ho))) ⟨[], same_upd hG, upd_same, .nil⟩ (fun _ _ _ h => by obtain ⟨_, h, _⟩ := h; exact sq (h _ _ hl1)) (fun i x H6 H7 hi hp2 hy => ?_) (fun H8 hp2 => ?_)
  · obtain ⟨xs, s6, hD6, hx6⟩ := hp2
    obtain ⟨rfl, gx⟩ := hy
    rw [List.length_map] at hi
    rw [List.getElem?_map, List.getElem?_eq_getElem hi] at gx
    obtain rfl : V.str (sortK s.ho)[i] = x := Option.some.inj gx
    obtain ⟨y, gy, mk⟩ := sortK_get hokh (List.getElem_mem hi)
    have ht : (sortK s.ho).take (i + 1) = (sortK s.ho).take i ++ [(sortK s.ho)[i]] := by rw [List.take_add_one, List.getElem?_eq_getElem hi]; rfl
    have m6 := ma.on (s1.trans s6)
    rw [ht, List.map_append]
    generalize (sortK s.ho)[i] = c at gy mk
    have e3 : rowH s.ho c = .tuple [.str c, .str y.1, .str y.2.1, .int y.2.2] := by unfold rowH; rw [gy]
    have hc := sh.2 _ mk
    have gh := gA_hsOf he2 c
    rw [ehs2, gy] at gh
    obtain ⟨x, gk, ex⟩ := Option.map_eq_some_iff.mp gh.symm
    have htx := m6.tp _ (gA_some gk)
    subst ex
    refine ⟨rfl, tyes ?_⟩
    walk_at "rds"
    refine ⟨L, _, 2, _, rfl, rfl, sq m6.li, atI_nat (j := 2) rfl, ?_⟩
    walk_at "rds"
    refine ⟨h2, _, rfl, .inl ⟨_, Sum.inr c, .inl m6.ho, rfl, by rw [ho_val, gk]; rfl⟩, ?_⟩
    walk_at "rds"
    refine ⟨x.1, _, 0, _, rfl, rfl, SqT.of htx, atI_nat (j := 0) rfl, ?_⟩
    walk_at "rds"
    refine ⟨L, _, 2, _, rfl, rfl, sq m6.li, atI_nat (j := 2) rfl, ?_⟩
    walk_at "rds"
    refine ⟨h2, _, rfl, .inl ⟨_, Sum.inr c, .inl m6.ho, rfl, by rw [ho_val, gk]; rfl⟩, ?_⟩
    walk_at "rds"
    refine ⟨x.1, _, 1, _, rfl, rfl, SqT.of htx, atI_nat (j := 1) rfl, ?_⟩
    walk_at "rds"
    refine ⟨L, _, 2, _, rfl, rfl, sq m6.li, atI_nat (j := 2) rfl, ?_⟩
    walk_at "rds"
    refine ⟨h2, _, rfl, .inl ⟨_, Sum.inr c, .inl m6.ho, rfl, by rw [ho_val, gk]; rfl⟩, ?_⟩
    walk_at "rds"
    refine ⟨x.1, _, 2, _, rfl, rfl, SqT.of htx, atI_nat (j := 2) rfl, ?_⟩
    walk_at "rds"
    intro t htn
    have hD7 := (same_upd (o := .tup [.str c, .str x.2.1, .str x.2.2.1, .int x.2.2.2]) htn) _ _ hD6
    have hxl : xs.length ≤ i := by rw [hx6.length, List.length_map, List.length_take]; omega
    refine ⟨xs, hD7, sz1000' (by omega), xs ++ [.ref t], same_mut (s6.trans (same_upd htn)) hG, upd_same, ?_⟩
    have hdt : Dt K (upd H7 t (.tup [.str c, .str x.2.1, .str x.2.2.1, .int x.2.2.2])) none (.ref t) (rowH s.ho c) := by
      rw [e3]
      exact .tup (.inl upd_same) (.cons (.str _ (Nat.le_trans hc.1.1 (by decide))) (.cons (.str _ (Nat.le_trans hc.2.1.1 (by decide))) (.cons (.str _ (Nat.le_trans hc.2.2.1 (by decide))) (.cons (.int _) .nil))))
    refine DtAll.keep (tp_put hD7) _ _ (noLs_all fun d hd => ?_) ((hx6.on (same_upd htn)).snoc hdt)
    rcases List.mem_append.mp hd with hd | hd
    · obtain ⟨z, _, rfl⟩ := List.mem_map.mp hd; exact rowH_noL z
    · rw [List.mem_singleton.mp hd]; exact rowH_noL c
  obtain ⟨xg, s6, eG, dG⟩ := hp2
  rw [List.length_map, List.take_of_length_le (Nat.le_refl _)] at dG
  have s8 := s1.trans s6
  have ma := ma.on s8
  have a1 := a1.on s8
  have eR := s8 _ _ eR
  have dR := dR.on s8
  have sA := sA.trans s8
  clear s1 s6 hl1 e1 hl hG H1 s8
  obtain ⟨dx1, g1⟩ := a1.ins
  obtain ⟨shA1, shA2⟩ := rowsA_sh iv
  obtain ⟨shH1, shH2⟩ := rowsH_sh iv
  walk_at "rds"
  refine ⟨p, dx1, _, rfl, g1, rfl, ?_⟩
  walk_at "rds"
  refine ⟨p, n, b, h, he, s, rfl, iv.aw m1000 a1 ehs, iv.sh, fun ys1 H12 q1 s12 f12 e12 d12 => ?_⟩
  walk_at "rds"
  refine ⟨_, _, .lst (.of e12) (DtAll.dp _ _ d12), .lst (.of (s12 _ _ eR)) (DtAll.dp _ _ (dR.on s12)), shA1, shA1, ?_⟩
  rw [shA2]
  refine ⟨_, rfl, ?_⟩
  refine ifF rfl ?_
  have a2 := a1.on s12
  obtain ⟨dx2, g2⟩ := a2.ins
  walk_at "rds"
  refine ⟨p, dx2, _, rfl, g2, rfl, ?_⟩
  walk_at "rds"
  refine ⟨p, n, b, h, he, s, rfl, iv.aw m1000 a2 ehs, iv.okh, iv.sh, fun ys2 H13 q2 s13 f13 e13 d13 => ?_⟩
  walk_at "rds"
  have s123 := s12.trans s13
  refine ⟨_, _, .lst (.of e13) (DtAll.dp _ _ d13), .lst (.of (s123 _ _ eG)) (DtAll.dp _ _ (dG.on s123)), shH1, shH1, ?_⟩
  rw [shH2]
  refine ⟨_, rfl, ?_⟩
  refine ifF rfl ?_
  have a1 := a1.on s123
  have eR := s123 _ _ eR
  have eG := s123 _ _ eG
  have dR := dR.on s123
  have dG := dG.on s123
  have sA := sA.trans s123
  clear e12 d12 e13 d13 s12 s13 s123 f12 f13 a2 g1 g2 ma shA1 shA2 shH1 shH2 dx1 dx2
  walk_at "rds"
  refine ⟨⟨_, sq eR⟩, fun M hM => ?_⟩
  refine lc_it (walk_list (K := K) (a := D) (xs := xr)) (Pv := fun j H' => Same H13 H' ∧ H' M = some (.lst (((((sortK s.ac).map (rowA s.ac)).take j).map lastD).map V.int))) ⟨same_upd hM, upd_same⟩ (fun _ _ _ h => sq (h.1 _ _ eR)) (fun j x H6 H7 hj hp hy => ?_) (fun H9 hp => ?_)
  · obtain ⟨s6, eM⟩ := hp
    obtain ⟨rfl, gx⟩ := hy
    obtain ⟨d, gd, hdx⟩ := (dR.on s6).get gx
    have tk : ((((sortK s.ac).map (rowA s.ac)).take (j + 1)).map lastD) = ((((sortK s.ac).map (rowA s.ac)).take j).map lastD) ++ [lastD d] := by rw [List.take_add_one, gd, List.map_append]; rfl
    have ll : ((((sortK s.ac).map (rowA s.ac)).take j).map lastD).length ≤ 1000 := by
      rw [List.length_map, List.length_take, List.length_map, sortK_len]; omega
    obtain ⟨k, mk, ed⟩ := List.mem_map.mp (List.mem_of_getElem? gd)
    obtain ⟨u, gk, mm⟩ := sortK_get hok mk
    have e3 : d = .tuple [.str k, .int u.1, .int u.2] := by rw [← ed]; unfold rowA; rw [gk]
    have el : lastD d = u.2 := by rw [e3]; exact lastD_at [.str k, .int u.1] _
    rw [e3] at hdx
    rw [el] at tk
    generalize (((sortK s.ac).map (rowA s.ac)).take j).map lastD = acc at eM tk ll
    refine ⟨rfl, tyes ?_⟩
    cases hdx with
    | tup ha hx =>
      rename_i c ys
      obtain ⟨z, gz, dz⟩ := hx.getD (i := 2) (d := .int u.2) rfl
      cases dz
      walk_at "rds"
      refine ⟨c, _, 2, _, rfl, rfl, ha.sq, atI_nat gz, ?_⟩
      exact ⟨_, eM, sz1000' (by rw [List.length_map]; omega), same_mut s6 hM, by rw [upd_same, tk, List.map_append]; rfl⟩
  obtain ⟨s6, eM⟩ := hp
  rw [dR.length, List.take_of_length_le (Nat.le_refl _)] at eM
  have a1 := a1.on s6
  have eR := s6 _ _ eR
  have eG := s6 _ _ eG
  have dR := dR.on s6
  have dG := dG.on s6
  have sA := sA.trans s6
  clear s6 hM
  walk_at "rds"
  refine ⟨M, _, rfl, sq eM, ?_⟩
  walk_at "rds"
  refine ⟨⟨_, sq eG⟩, fun M2 hM2 => ?_⟩
  refine lc_it (walk_list (K := K) (a := G) (xs := xg)) (Pv := fun j H' => Same H9 H' ∧ H' M2 = some (.lst (((((sortK s.ho).map (rowH s.ho)).take j).map lastD).map V.int))) ⟨same_upd hM2, upd_same⟩ (fun _ _ _ h => sq (h.1 _ _ eG)) (fun j x H6 H7 hj hp hy => ?_) (fun H14 hp => ?_)
  · obtain ⟨s6, eM⟩ := hp
    obtain ⟨rfl, gx⟩ := hy
    obtain ⟨d, gd, hdx⟩ := (dG.on s6).get gx
    have tk : ((((sortK s.ho).map (rowH s.ho)).take (j + 1)).map lastD) = ((((sortK s.ho).map (rowH s.ho)).take j).map lastD) ++ [lastD d] := by rw [List.take_add_one, gd, List.map_append]; rfl
    have ll : ((((sortK s.ho).map (rowH s.ho)).take j).map lastD).length ≤ 1000 := by
      rw [List.length_map, List.length_take, List.length_map, sortK_len]; omega
    obtain ⟨k, mk, ed⟩ := List.mem_map.mp (List.mem_of_getElem? gd)
    obtain ⟨u, gk, mm⟩ := sortK_get hokh mk
    have e3 : d = .tuple [.str k, .str u.1, .str u.2.1, .int u.2.2] := by rw [← ed]; unfold rowH; rw [gk]
    have el : lastD d = u.2.2 := by rw [e3]; exact lastD_at [.str k, .str u.1, .str u.2.1] _
    rw [e3] at hdx
    rw [el] at tk
    generalize (((sortK s.ho).map (rowH s.ho)).take j).map lastD = acc at eM tk ll
    refine ⟨rfl, tyes ?_⟩
    cases hdx with
    | tup ha hx =>
      rename_i c ys
      obtain ⟨z, gz, dz⟩ := hx.getD (i := 3) (d := .int u.2.2) rfl
      cases dz
      walk_at "rds"
      refine ⟨c, _, 3, _, rfl, rfl, ha.sq, atI_nat gz, ?_⟩
      exact ⟨_, eM, sz1000' (by rw [List.length_map]; omega), same_mut s6 hM2, by rw [upd_same, tk, List.map_append]; rfl⟩
  obtain ⟨s6, eM2⟩ := hp
  rw [dG.length, List.take_of_length_le (Nat.le_refl _)] at eM2
  have a1 := a1.on s6
  have eR := s6 _ _ eR
  have dR := dR.on s6
  have sA := sA.trans s6
  clear s6 hM2 eM eG dG
  walk_at "rds"
  refine ⟨M2, _, rfl, sq eM2, ?_⟩
  have et : (((sortK s.ac).map (rowA s.ac)).map lastD).sum + (((sortK s.ho).map (rowH s.ho)).map lastD).sum = s.su := by
    rw [← iv.sum]
    have h1 : sumI (((sortK s.ac).map (rowA s.ac)).map lastD) = sB s.ac := rows_sum _ _ hok fun k mk => (rowA_last iv mk).2
    have h2 : sumI (((sortK s.ho).map (rowH s.ho)).map lastD) = sH s.ho := rows_sum _ _ hokh fun k mk => (rowH_last iv mk).2
    rw [← h1, ← h2]; rfl
  generalize (((sortK s.ac).map (rowA s.ac)).map lastD).sum = sa at et
  generalize (((sortK s.ho).map (rowH s.ho)).map lastD).sum = sb at et
  walk_at "rds"
  refine ⟨D, _, rfl, .of eR, fun D3 hD3 => ?_⟩
  have u3 := same_upd (o := .lst (xr.take 3)) hD3
  have e3 : upd H14 D3 (.lst (xr.take 3)) D3 = some (.lst (xr.take 3)) := upd_same
  rw [show cutV xr none (some 3) = xr.take 3 from cutV_take' (n := 3)]
  generalize upd H14 D3 (.lst (xr.take 3)) = H15 at u3 e3
  have a1 := a1.on u3
  have dR := dR.on u3
  have sA := sA.trans u3
  clear u3 hD3 eM2 eR
  walk_at "rds"
  refine ⟨⟨_, sq e3⟩, ?_⟩
  refine for_it (walk_list (K := K) (a := D3) (xs := xr.take 3)) (Pv := fun i σ' H' => H' = H15 ∧ ∃ (y6 y7 y8 : Option V), σ' = [some (.ref p), some (.ref L), some (.ref D), some (.ref G), some (.int (sa + sb)), y6, y7, y8, none, none]) ⟨rfl, none, none, none, rfl⟩ (fun _ _ _ _ h => by rw [h.1]; exact sq e3) (fun i x σ' Ha Hb hi hp' hy => ?_) (fun σ' Ha hp' => ?_)
  · obtain ⟨rfl, y6, y7, y8, rfl⟩ := hp'
    obtain ⟨rfl, gx⟩ := hy
    have gx : xr[i]? = some x := by
      rw [List.getElem?_take] at gx
      split at gx
      · exact gx
      · cases gx
    obtain ⟨d, gd, hdx⟩ := dR.get gx
    obtain ⟨k, mk, ed⟩ := List.mem_map.mp (List.mem_of_getElem? gd)
    obtain ⟨u, gk, mm⟩ := sortK_get hok mk
    have e3 : d = .tuple [.str k, .int u.1, .int u.2] := by rw [← ed]; unfold rowA; rw [gk]
    rw [e3] at hdx
    obtain ⟨dxa, ga⟩ := a1.ins
    cases hdx with
    | tup ha hx =>
      rename_i c ys
      cases hx with
      | cons h0 hx =>
      cases hx with
      | cons h1 hx =>
      cases hx with
      | cons h2 hx =>
      cases hx
      cases h0
      cases h1
      cases h2
      have aw := iv.aw m1000 a1 ehs
      refine ⟨_, _, rfl, ha.sq, rfl, _, _, rfl, _, _, rfl, _, _, rfl, rfl, ?_⟩
      walk_at "rds"
      refine ⟨p, dxa, _, rfl, ga, rfl, ?_⟩
      walk_at "rds"
      refine ⟨p, n, b, h, he, s, k, rfl, aw, (by intro z; rw [gk] at z; cases z), fun y gy => ?_⟩
      obtain rfl : u = y := by rw [gk] at gy; exact Option.some.inj gy
      walk_at "rds"
      refine ifF (by show (!decide (V.int u.1 = V.int u.1)) = false; rw [decide_eq_true rfl]; rfl) ?_
      walk_at "rds"
      refine ⟨p, dxa, _, rfl, ga, rfl, ?_⟩
      walk_at "rds"
      refine ⟨p, n, b, h, he, s, k, rfl, aw, (by intro z; rw [gk] at z; cases z), fun y gy2 => ?_⟩
      obtain rfl : u = y := by rw [gk] at gy2; exact Option.some.inj gy2
      walk_at "rds"
      refine ifF (by show (!decide (V.int u.2 = V.int u.2)) = false; rw [decide_eq_true rfl]; rfl) ?_
      exact ⟨rfl, _, _, _, rfl⟩
  · obtain ⟨rfl, y6, y7, y8, rfl⟩ := hp'
    obtain ⟨dxa, ga⟩ := a1.ins
    walk_at "rds"
    refine ⟨p, dxa, _, rfl, ga, rfl, ?_⟩
    walk_at "rds"
    refine ⟨p, n, b, h, he, s, rfl, iv.aw m1000 a1 ehs, ?_⟩
    walk_at "rds"
    rw [et, decide_eq_true rfl]
    exact q _ sA
end
def spMStr : Sp := fun vs H Q _ => ∃ (L n b h : Addr) (he : HE) (ac : AB), vs = [.ref L] ∧ MAt H L n b h ac he ∧ (∀ e ∈ ac, e.1 ≠ "") ∧ ∀ z, gA ac z = none → Q (.str z) H
section
variable {P : Program} {w : World} {K : PySem.W.Frag} {mg : Str → Option Value} {base : Heap}
theorem c__law_strange {C_Accounts : Addr} {C_LedgerError : Addr} {C_Refused : Addr} (T : Txt K mg C_Accounts C_LedgerError C_Refused) : Cal P w K mg base 5 "_law_strange" spMStr [] := by
  refine cal T.d__law_strange sc__law_strange (fun vs H Q E h => ?_) (fun f cdv A' outer s H vs Q E hr h => ?_)
  · obtain ⟨L, n, b, h, he, ac, rfl, _⟩ := h; rfl
  obtain ⟨L, n, b, h, he, ac, rfl, ma, ne, q⟩ := h
  refine ⟨_, (pss_cons (ps_set (i := 1) sc__law_strange.nd rfl (Or.inl rfl) pe_str)
      (pss_cons (ps_for PassesOwn.never rfl (pi_range1 (by rfl) T.z_range (pa_cons pe_int pa_nil)) (pg_name (i := 2) sc__law_strange.nd rfl (Or.inl rfl)) (pss_cons (ps_set (i := 3) sc__law_strange.nd rfl (Or.inl rfl) (pe_op op_add_str (pe_op op_add_str pe_str (pe_ix ix_str (pv 1) (pe_op op_fdiv (pv 2) pe_int) (fun _ _ => rfl))) (pe_ix ix_str (pv 1) (pe_op op_mod (pv 2) pe_int) (fun _ _ => rfl))))
      (pss_one (ps_if (pt_cmp (pc_dnotin (by exact hu_of hr) (pv 3) (pe_ix (kixl (K := K)) (pv 0) pe_int (fun _ _ => rfl)))) (pss_one (ps_ret (pv 3))) pss_nil))))
      (pss_one (ps_ret pe_str)))), ?_⟩
  walk_at "rds"
  have q0 := q "" (gA_none.mpr fun m => by obtain ⟨e, me, ee⟩ := List.mem_map.mp m; exact ne e me ee)
  have li : ∀ i : Int, 0 ≤ i → i < 26 → ∃ c, atI (Str.ofString "abcdefghijklmnopqrstuvwxyz").cps.toList i = some c := fun i h0 h1 => by
    obtain ⟨c, _, e⟩ := atI_lt (xs := (Str.ofString "abcdefghijklmnopqrstuvwxyz").cps.toList) h0 (by rw [len_tl]; exact h1)
    exact ⟨c, e⟩
  refine for_it walk_range (Pv := fun i σ' H' => H' = H ∧ ∃ (y2 y3 : Option V), σ' = [some (.ref L), some (.str "abcdefghijklmnopqrstuvwxyz"), y2, y3]) ⟨rfl, none, none, rfl⟩ (fun _ _ _ _ _ => trivial) (fun i x σ' Ha Hb hi hp' hy => ?_) (fun σ' Ha hp' => ?_)
  · obtain ⟨rfl, y2, y3, rfl⟩ := hp'
    obtain ⟨rfl, rfl⟩ := hy
    have hi' : i < 120 := by omega
    walk_at "rds"
    obtain ⟨c1, e1⟩ := li ((0 + (i : Int)) / 26) (by omega) (by omega)
    refine ⟨_, _, c1, rfl, rfl, sz1000 (by decide +kernel), e1, ?_⟩
    walk_at "rds"
    obtain ⟨c2, e2⟩ := li ((0 + (i : Int)) % 26) (by omega) (by omega)
    refine ⟨_, _, c2, rfl, rfl, sz1000 (by decide +kernel), e2, ?_⟩
    refine ⟨_, _, rfl, rfl, sz1000 (by show 2 + 1 ≤ 100000; decide), ?_⟩
    walk_at "rds"
    refine ⟨L, _, 0, _, rfl, rfl, sq ma.li, atI_nat (j := 0) rfl, ?_⟩
    refine ⟨n, _, rfl, DGet.k (k := Sum.inr _) ma.ow, ?_⟩
    rw [aow_val]
    cases g : gA ac ("q" ++ ⟨#[c1]⟩ ++ ⟨#[c2]⟩) with
    | none =>
      walk_at "rds"
      exact q _ g
    | some u =>
      walk_at "rds"
      exact ⟨rfl, _, _, rfl⟩
  · obtain ⟨rfl, y2, y3, rfl⟩ := hp'
    walk_at "rds"
    exact q0
end
def spMMis (C : Addr) : Sp := fun vs H Q _ => ∃ (p n b h : Addr) (he : HE) (s : AS) (z : Str), vs = [.ref p, .str z] ∧ AW C H p n b h he s ∧ gA s.ac z = none ∧ ∀ H', Q (.bl true) H'
section
variable {P : Program} {w : World} {K : PySem.W.Frag} {mg : Str → Option Value} {base : Heap}
theorem c__law_missing {C_Accounts : Addr} {C_LedgerError : Addr} {C_Refused : Addr} (T : Txt K mg C_Accounts C_LedgerError C_Refused) : Cal P w K mg base 6 "_law_missing" (spMMis C_Accounts) [] := by
  have m_Accounts__balance := m_Accounts__balance (P := P) (w := w) (base := base) T
  have m_Accounts__owner := m_Accounts__owner (P := P) (w := w) (base := base) T
  refine cal T.d__law_missing sc__law_missing (fun vs H Q E h => ?_) (fun f cdv A' outer s H vs Q E hr h => ?_)
  · obtain ⟨p, n, b, h, he, s, z, rfl, _⟩ := h; rfl
  obtain ⟨p, n, b, h, he, s, z, rfl, aw, gz, q⟩ := h
  refine ⟨_, (pss_cons (ps_set (i := 2) sc__law_missing.nd rfl (Or.inl rfl) (pe_lst pa_nil))
      (pss_cons (ps_for PassesOwn.never rfl (pi_range1 (by rfl) T.z_range (pa_cons pe_int pa_nil)) (pg_name (i := 3) sc__law_missing.nd rfl (Or.inl rfl)) (pss_body (pss_one (ps_try_as (i := 4) (Wout := fun _ _ _ _ => False) rfl rfl sc__law_missing.nd rfl rfl ⟨by rfl, by decide, .inl T.x_LedgerError.g⟩ takes0 (fun W pn xe tk po => (pss_one (ps_if (pt_cmpR op_eq (pv 3) pe_int (nomark _)) (pss_one (ps_expr (pe_mtX m_Accounts__balance hr (by decide) (fun σ => passAt tk σ) (pv 0) (pa_cons (pv 1) pa_nil)))) (pss_one (ps_expr (pe_mtX m_Accounts__owner hr (by decide) (fun σ => passAt tk σ) (pv 0) (pa_cons (pv 1) pa_nil))))))) (fun a oe cls d pn hz hf => (pss_one (ps_expr (kbm (K := K) PySem.F.plainAttrs_list PySem.F.slot_list_append PySem.F.type_list_append mt_append (pv 2) (pa_cons (pe_and (pe_callB (by exact call_isED T.ec_Refused hz hf) (by rfl) T.z_isinstance (by decide +kernel) (pa_cons (pv 4) (pa_cons (pe_gc (v := .ref C_Refused) (by rfl) ⟨_, T.x_Refused.g, rfl⟩) pa_nil))) (pe_one (pe_callB (by exact call_isED T.ec_Refused hz hf) (by rfl) T.z_isinstance (by decide +kernel) (pa_cons (pv 4) (pa_cons (pe_bltn (v := .ty "ValueError") (by rfl) T.z_ValueError (by decide +kernel) rfl) pa_nil))))) pa_nil)))))))))
      (pss_one (ps_ret (pe_cmpR (op_eqD hr.units) (pv 2) (pe_lst (pa_cons pe_bl (pa_cons pe_bl pa_nil))) (nomark _)))))), ?_⟩
  walk_at "rds"
  intro M hM
  have s1 := same_upd (o := .lst []) hM
  have eM : upd H M (.lst []) M = some (.lst (List.replicate 0 (V.bl true))) := upd_same
  generalize upd H M (.lst []) = H1 at s1 eM
  have aw := aw.on s1
  clear s1 hM
  walk_at "rds"
  refine for_it walk_range (Pv := fun i σ' H' => ∃ y3 : Option V, σ' = [some (.ref p), some (.str z), some (.ref M), y3, none] ∧ AW C_Accounts H' p n b h he s ∧ H' M = some (.lst (List.replicate i (V.bl true)))) ⟨none, rfl, aw, eM⟩ (fun _ _ _ _ _ => trivial) (fun i x σ' Ha Hb hi hp' hy => ?_) (fun σ' Ha hp' => ?_)
  · obtain ⟨y3, rfl, aw, eM⟩ := hp'
    obtain ⟨rfl, rfl⟩ := hy
    obtain ⟨dx, g⟩ := aw.at_.ins
    have hi' : i < 2 := by omega
    have rest : ∀ H', Same Hb H' → AW C_Accounts (upd H' M (.lst (List.replicate i (V.bl true) ++ [V.bl true]))) p n b h he s ∧ upd H' M (.lst (List.replicate i (V.bl true) ++ [V.bl true])) M = some (.lst (List.replicate (i + 1) (V.bl true))) := fun H' sm => by
      have em := sm _ _ eM
      have a2 := aw.on sm
      have n4 : M ∉ [p, n, b, h] := a2.at_.not4 em (by intro _ _ _ z; cases z) (by intro _ z; cases z)
      have tp := tp_upd (o := .lst (List.replicate i (V.bl true) ++ [V.bl true])) em (by intro _ z; cases z)
      simp only [List.mem_cons, List.not_mem_nil, or_false, not_or] at n4
      obtain ⟨dx2, g2⟩ := a2.at_.ins
      refine ⟨{ a2 with at_ := ⟨⟨dx2, by rw [upd_ne (Ne.symm n4.1)]; exact g2⟩, by rw [upd_ne (Ne.symm n4.2.1)]; exact a2.at_.ow, by rw [upd_ne (Ne.symm n4.2.2.1)]; exact a2.at_.ba, by rw [upd_ne (Ne.symm n4.2.2.2)]; exact a2.at_.ho, fun e m => tp _ _ (a2.at_.tp e m), a2.at_.n1, a2.at_.n2, a2.at_.n3⟩ }, ?_⟩
      rw [upd_same, List.replicate_succ']
    walk_at "rds"
    refine ite2 (fun _ => ?_) (fun _ => ?_)
    · walk_at "rds"
      refine ⟨p, dx, _, rfl, g, rfl, ?_⟩
      walk_at "rds"
      refine ⟨p, n, b, h, he, s, z, rfl, aw, (fun _ => ?_), (by intro x gx; rw [gz] at gx; cases gx)⟩
      refine fun H' d s1 hd => ⟨true, T.x_LedgerError.exm T.u_Refused_LedgerError, fun _ b hb => ?_, fun z => nomatch z⟩
      walk_at "rds"
      refine ⟨.inl ⟨rfl, _, sq (s1 _ _ eM)⟩, ?_⟩
      walk_at "rds"
      refine ⟨⟨rfl, d, _, rfl, hd⟩, _, _, true, rfl, (by intro u r; cases r; rfl), T.kt_Refused_Refused, ?_⟩
      walk_at "rds"
      refine ⟨⟨rfl, d, _, rfl, hd⟩, _, _, true, rfl, (by intro u r; cases r; rfl), T.kt_Refused_ValueError, ?_⟩
      walk_at "rds"
      refine ⟨M, _, _, rfl, rfl, s1 _ _ eM, sz1000' (by rw [List.length_replicate]; omega), ?_⟩
      obtain ⟨r1, r2⟩ := rest H' s1
      exact ⟨_, rfl, r1, r2⟩
    · walk_at "rds"
      refine ⟨p, dx, _, rfl, g, rfl, ?_⟩
      walk_at "rds"
      refine ⟨p, n, b, h, he, s, z, rfl, aw, (fun _ => ?_), (by intro x gx; rw [gz] at gx; cases gx)⟩
      refine fun H' d s1 hd => ⟨true, T.x_LedgerError.exm T.u_Refused_LedgerError, fun _ b hb => ?_, fun z => nomatch z⟩
      walk_at "rds"
      refine ⟨.inl ⟨rfl, _, sq (s1 _ _ eM)⟩, ?_⟩
      walk_at "rds"
      refine ⟨⟨rfl, d, _, rfl, hd⟩, _, _, true, rfl, (by intro u r; cases r; rfl), T.kt_Refused_Refused, ?_⟩
      walk_at "rds"
      refine ⟨⟨rfl, d, _, rfl, hd⟩, _, _, true, rfl, (by intro u r; cases r; rfl), T.kt_Refused_ValueError, ?_⟩
      walk_at "rds"
      refine ⟨M, _, _, rfl, rfl, s1 _ _ eM, sz1000' (by rw [List.length_replicate]; omega), ?_⟩
      obtain ⟨r1, r2⟩ := rest H' s1
      exact ⟨_, rfl, r1, r2⟩
  · obtain ⟨y3, rfl, aw, eM⟩ := hp'
    walk_at "rds"
    intro W hW
    have eM2 := (same_upd (o := .lst [.bl true, .bl true]) hW) _ _ eM
    have e22 : upd Ha W (.lst [.bl true, .bl true]) W = some (.lst [.bl true, .bl true]) := upd_same
    generalize upd Ha W (.lst [V.bl true, .bl true]) = H5 at eM2 e22
    refine ⟨.list [.bool true, .bool true], .list [.bool true, .bool true], .lst (.of eM2) (.cons (.bl _) (.cons (.bl _) .nil)), .lst (.of e22) (.cons (.bl _) (.cons (.bl _) .nil)), rfl, rfl, ?_⟩
    exact q H5
end

--@SPLIT
/-! ### the accounts and the model, together -/
structure MS (C : Addr) (H0 H : Hp) (p n b h L n2 b2 h2 : Addr) (he he2 : HE) (s : AS) : Prop where
  sm : Same H0 H
  fr : ∀ x ∈ [p, n, b, h], H0 x = none
  fr2 : ∀ x ∈ [n2, b2, h2], H0 x = none
  a : AcAt C H p n b h s.ac he s.su
  hs : hsOf he = s.ho
  m : MAt H L n2 b2 h2 s.ac he2
  hs2 : hsOf he2 = s.ho
  dis : ∀ x ∈ [n2, b2, h2], x ∉ [p, n, b, h]
theorem but_same {S : List Addr} {H0 H H' : Hp} (s : Same H0 H) (bt : But S H H') (fr : ∀ x ∈ S, H0 x = none) : Same H0 H' := fun x o e => bt _ _ (fun m => by rw [fr x m] at e; cases e) (s _ _ e)
theorem MAt.not3 {H : Hp} {L n b h : Addr} {ac : AB} {he : HE} (a : MAt H L n b h ac he) {x : Addr} {o : HO} (e : H x = some o) (h2 : ∀ kv, o ≠ .dK kv) : x ∉ [n, b, h] := fun m => by
  rcases List.mem_cons.mp m with z | m
  · exact ne_of e a.ow (h2 _) z
  · rcases List.mem_cons.mp m with z | m
    · exact ne_of e a.ba (h2 _) z
    · exact ne_of e a.ho (h2 _) (List.mem_singleton.mp m)
section
variable {C : Addr} {H0 H H' : Hp} {p n b h L n2 b2 h2 : Addr} {he he2 : HE} {s s' : AS}
theorem MS.on (x : MS C H0 H p n b h L n2 b2 h2 he he2 s) (sm : Same H H') : MS C H0 H' p n b h L n2 b2 h2 he he2 s :=
  { x with sm := x.sm.trans sm, a := x.a.on sm, m := x.m.on sm }
theorem MS.tpA (x : MS C H0 H p n b h L n2 b2 h2 he he2 s) (bt : But [p, n, b, h] H H') {c : Addr} {xs : List V} (e : H c = some (.tup xs)) : H' c = some (.tup xs) := bt _ _ (x.a.not4 e (by intro _ _ _ z; cases z) (by intro _ z; cases z)) e
theorem MS.lsA (x : MS C H0 H p n b h L n2 b2 h2 he he2 s) (bt : But [p, n, b, h] H H') {c : Addr} {xs : List V} (e : H c = some (.lst xs)) : H' c = some (.lst xs) := bt _ _ (x.a.not4 e (by intro _ _ _ z; cases z) (by intro _ z; cases z)) e
theorem MS.mA (x : MS C H0 H p n b h L n2 b2 h2 he he2 s) (bt : But [p, n, b, h] H H') : MAt H' L n2 b2 h2 s.ac he2 :=
  ⟨x.lsA bt x.m.li, bt _ _ (x.dis _ (by simp)) x.m.ow, bt _ _ (x.dis _ (by simp)) x.m.ba, bt _ _ (x.dis _ (by simp)) x.m.ho, fun e m => x.tpA bt (x.m.tp e m), x.m.n1, x.m.n2, x.m.n3⟩
/-- the accounts after the model's turn -/
theorem AcAt.onM {su : Int} {ac ac2 : AB} (a : AcAt C H p n b h ac he su) (m : MAt H L n2 b2 h2 ac2 he2) (dis : ∀ x ∈ [n2, b2, h2], x ∉ [p, n, b, h]) (bt : But [n2, b2, h2] H H') : AcAt C H' p n b h ac he su := by
  obtain ⟨dx, g⟩ := a.ins
  have no : ∀ x ∈ [p, n, b, h], x ∉ [n2, b2, h2] := fun x mx my => dis x my mx
  exact ⟨⟨dx, bt _ _ (no _ (by simp)) g⟩, bt _ _ (no _ (by simp)) a.ow, bt _ _ (no _ (by simp)) a.ba, bt _ _ (no _ (by simp)) a.ho, fun e me => bt _ _ (m.not3 (a.tp e me) (by intro _ z; cases z)) (a.tp e me), a.n1, a.n2, a.n3⟩
end
theorem MS.turn {C : Addr} {H0 H H' H'' : Hp} {p n b h L n2 b2 h2 : Addr} {he he2 he' he2' : HE} {s s' : AS} (x : MS C H0 H p n b h L n2 b2 h2 he he2 s) (bt : But [p, n, b, h] H H') (a : AcAt C H' p n b h s'.ac he' s'.su) (e : hsOf he' = s'.ho) (bt2 : But [n2, b2, h2] H' H'') (m : MAt H'' L n2 b2 h2 s'.ac he2') (e2 : hsOf he2' = s'.ho) : MS C H0 H'' p n b h L n2 b2 h2 he' he2' s' :=
  { x with sm := but_same (but_same x.sm bt x.fr) bt2 x.fr2, a := a.onM (x.mA bt) x.dis bt2, hs := e, m := m, hs2 := e2 }
theorem MS.half {C : Addr} {H0 H H' : Hp} {p n b h L n2 b2 h2 : Addr} {he he2 he' : HE} {s : AS} (x : MS C H0 H p n b h L n2 b2 h2 he he2 s) (bt : But [p, n, b, h] H H') (a : AcAt C H' p n b h s.ac he' s.su) (e : hsOf he' = s.ho) : MS C H0 H' p n b h L n2 b2 h2 he' he2 s :=
  { x with sm := but_same x.sm bt x.fr, a := a, hs := e, m := x.mA bt }
theorem resOp_inr {s s' : AS} {o : OpA} (e : acOp s o = .inr s') : resOp s o = (("" : Str), s') := by unfold resOp; rw [e]
theorem resOp_inl {s : AS} {o : OpA} {z : Str} (e : acOp s o = .inl z) : resOp s o = (z, s) := by unfold resOp; rw [e]
theorem acOp_keys {s s' : AS} {m : Nat} {o : OpA} (iv : AInv s m) (e : acOp s o = .inr s') : ∀ x ∈ s'.ac, x.1 = o.x ∨ ∃ y ∈ s.ac, y.1 = x.1 := by
  have hB : ∀ (ac : AB) (n : Str) (d : Int), ∀ x ∈ addB ac n d, x.1 = o.x ∨ ∃ y ∈ ac, y.1 = x.1 := fun ac n d x m => .inr (addB_keys m)
  unfold acOp at e
  split at e
  · unfold opCreate at e
    split at e
    · cases e
    · split at e
      · cases e
      · cases e
        intro x m
        rcases pA_mem m with rfl | ⟨m, _⟩
        · exact .inl rfl
        · exact .inr ⟨x, m, rfl⟩
  split at e
  · unfold opClose at e
    split at e
    · cases e
    split at e
    · cases e
    split at e
    · cases e
    cases e
    exact fun x m => .inr ⟨x, (List.mem_filter.mp m).1, rfl⟩
  split at e
  · unfold opIssue at e
    split at e
    · cases e
    split at e
    · cases e
    split at e
    · cases e
    cases e
    exact hB _ _ _
  split at e
  · unfold opBurn at e
    split at e
    · cases e
    split at e
    · cases e
    cases e
    exact hB _ _ _
  split at e
  · unfold opPay at e
    split at e
    · cases e
    cases e
    intro x m
    obtain ⟨y, my, ey⟩ := addB_keys m
    obtain ⟨z, mz, ez⟩ := addB_keys my
    exact .inr ⟨z, mz, ez.trans ey⟩
  split at e
  · unfold opHold at e
    split at e
    · cases e
    split at e
    · cases e
    split at e
    · cases e
    cases e
    exact hB _ _ _
  split at e
  · unfold opSettle at e
    split at e
    · cases e
    split at e
    · cases e
    cases e
    exact hB _ _ _
  · unfold opRelease at e
    split at e
    · cases e
    split at e
    · cases e
    cases e
    exact hB _ _ _
/-! the accounts that a law begins with -/
def abj : List Nat := (Str.ofString "abcdefghij").cps.toList
def nm (k : Nat) : Str := (Str.ofString "z" ++ ⟨#[abj.getD (k / 10) 0]⟩) ++ ⟨#[abj.getD (k % 10) 0]⟩
theorem nm_inj : ∀ i < 100, ∀ j < 100, nm i = nm j → i = j := by decide +kernel
theorem nm_tx : ∀ i < 100, (nm i).length ≤ 1000 ∧ PyData.strOk (nm i) = true ∧ nm i ≠ "" := by decide +kernel
structure Pre (s : AS) (k : Nat) : Prop where
  al : s.ac.length = k
  hl : s.ho.length = k
  ak : ∀ x ∈ s.ac, ∃ i < k, x.1 = nm i
  hk : ∀ x ∈ s.ho, ∃ i < k, x.1 = nm i
def opC (k : Nat) : OpA := ⟨"create", -2, nm k, "", 0, ""⟩
def opH (k : Nat) : OpA := ⟨"hold", -2, nm k, nm k, 0, nm k⟩
theorem tx0 : Tx "" := by unfold Tx; decide +kernel
theorem opC_ok {k : Nat} (h : k < 100) : OpAOk (opC k) := ⟨.inl rfl, ⟨(nm_tx k h).1, (nm_tx k h).2.1⟩, tx0, Int.le_refl _, tx0, (nm_tx k h).2.2⟩
theorem opH_ok {k : Nat} (h : k < 100) : OpAOk (opH k) := ⟨.inr (.inr (.inr (.inr (.inl rfl)))), ⟨(nm_tx k h).1, (nm_tx k h).2.1⟩, ⟨(nm_tx k h).1, (nm_tx k h).2.1⟩, Int.le_refl _, ⟨(nm_tx k h).1, (nm_tx k h).2.1⟩, (nm_tx k h).2.2⟩
theorem pA_new_len {α : Type} {ks : List (Str × α)} {c : Str} {y : α} (g : gA ks c = none) : pA ks c y = ks ++ [(c, y)] := by
  unfold pA
  rw [if_neg (fun z => gA_none.mp g (any_mem.mp z))]
theorem pre_create {s : AS} {k : Nat} (x : Pre s k) (h : k < 100) : acOp s (opC k) = .inr { s with ac := s.ac ++ [(nm k, (-2, 0))] } := by
  have g : gA s.ac (nm k) = none := gA_none.mpr fun m => by
    obtain ⟨e, me, ee⟩ := List.mem_map.mp m
    obtain ⟨i, hi, ei⟩ := x.ak e me
    have := nm_inj i (by omega) k h (ei.symm.trans ee)
    omega
  unfold acOp
  rw [if_pos (show (opC k).verb = "create" from rfl)]
  show opCreate s (-2) (nm k) = _
  unfold opCreate
  rw [g]
  dsimp only
  rw [if_neg (by have := x.al; omega), pA_new_len g]
theorem pre_hold {s : AS} {k : Nat} (x : Pre s k) (ok : kOk s.ac) (h : k < 100) : acOp { s with ac := s.ac ++ [(nm k, (-2, 0))] } (opH k) = .inr { s with ac := s.ac ++ [(nm k, (-2, 0))], ho := s.ho ++ [(nm k, (nm k, nm k, 0))] } := by
  have g : gA s.ac (nm k) = none := gA_none.mpr fun m => by
    obtain ⟨e, me, ee⟩ := List.mem_map.mp m
    obtain ⟨i, hi, ei⟩ := x.ak e me
    have := nm_inj i (by omega) k h (ei.symm.trans ee)
    omega
  have gh : gA s.ho (nm k) = none := gA_none.mpr fun m => by
    obtain ⟨e, me, ee⟩ := List.mem_map.mp m
    obtain ⟨i, hi, ei⟩ := x.hk e me
    have := nm_inj i (by omega) k h (ei.symm.trans ee)
    omega
  have g2 : gA (s.ac ++ [(nm k, ((-2 : Int), (0 : Int)))]) (nm k) = some (-2, 0) := by
    rw [← pA_new_len g, gA_put ok, if_pos rfl]
  have ep : addB (s.ac ++ [(nm k, ((-2 : Int), (0 : Int)))]) (nm k) (-0) = s.ac ++ [(nm k, (-2, 0))] := by
    rw [addB_some g2]
    unfold pA
    rw [if_pos (any_mem.mpr (by simp)), List.map_append]
    congr 1
    · rw [List.map_congr_left (g := id) fun e me => ?_, List.map_id]
      have : e.1 ≠ nm k := fun z => gA_none.mp g (List.mem_map.mpr ⟨e, me, z⟩)
      rw [if_neg this]; rfl
    · simp
  unfold acOp
  have nv : ∀ v : Str, ¬ ("hold" : Str) = v → ¬ (opH k).verb = v := fun v hv z => hv z
  rw [if_neg (nv "create" (by decide +kernel)), if_neg (nv "close" (by decide +kernel)), if_neg (nv "issue" (by decide +kernel)), if_neg (nv "burn" (by decide +kernel)), if_neg (nv "pay" (by decide +kernel)), if_pos (show (opH k).verb = "hold" from rfl)]
  show opHold _ (-2) (nm k) (nm k) 0 (nm k) = _
  unfold opHold
  have e1 : chkP { s with ac := s.ac ++ [(nm k, ((-2 : Int), (0 : Int)))] } (-2) (nm k) (nm k) 0 = none := by
    unfold chkP chk chkO chkF
    dsimp only
    rw [g2]
    rfl
  rw [e1]
  dsimp only
  rw [gh]
  dsimp only
  rw [if_neg (by have := x.hl; omega), ep, pA_new_len gh]
theorem pre_next {s : AS} {k : Nat} (x : Pre s k) : Pre { s with ac := s.ac ++ [(nm k, (-2, 0))], ho := s.ho ++ [(nm k, (nm k, nm k, 0))] } (k + 1) := by
  refine ⟨by show (s.ac ++ _).length = _; rw [List.length_append, x.al]; rfl, by show (s.ho ++ _).length = _; rw [List.length_append, x.hl]; rfl, fun e me => ?_, fun e me => ?_⟩
  · rcases List.mem_append.mp me with me | me
    · obtain ⟨i, hi, ei⟩ := x.ak e me
      exact ⟨i, by omega, ei⟩
    · rw [List.mem_singleton.mp me]; exact ⟨k, by omega, rfl⟩
  · rcases List.mem_append.mp me with me | me
    · obtain ⟨i, hi, ei⟩ := x.hk e me
      exact ⟨i, by omega, ei⟩
    · rw [List.mem_singleton.mp me]; exact ⟨k, by omega, rfl⟩
section
variable {P : Program} {w : World} {K : PySem.W.Frag} {mg : Str → Option Value} {base : Heap}
theorem ok_law {C_Accounts : Addr} {C_LedgerError : Addr} {C_Refused : Addr} {f : Addr} {fd : FuncData} (F : L2.Fun K "law" "law" s_law f fd) (T : Txt K mg C_Accounts C_LedgerError C_Refused) : FnOk P w K mg base L2.CX0 10 f fd ["script"] (spLaw K) := by
  have c__law_op := c__law_op (P := P) (w := w) (base := base) T
  have c__law_call := c__law_call (P := P) (w := w) (base := base) T
  have c__law_reason := c__law_reason (P := P) (w := w) (base := base) T
  have c__law_apply := c__law_apply (P := P) (w := w) (base := base) T
  have c__law_same := c__law_same (P := P) (w := w) (base := base) T
  have c__law_strange := c__law_strange (P := P) (w := w) (base := base) T
  have c__law_missing := c__law_missing (P := P) (w := w) (base := base) T
  have k_Accounts := k_Accounts (P := P) (w := w) (base := base) T
  refine F.ok sc_law (fun vs H Q E h => ?_) (fun cdv A outer s H vs Q E hr h => ?_)
  · obtain ⟨a, ns, rfl, _⟩ := h; rfl
  obtain ⟨a, ns, rfl, hS, hlen, q⟩ := h
  refine ⟨_, (pss_cons (ps_set (i := 1) sc_law.nd rfl (Or.inl rfl) (pe_mk0 k_Accounts hr (by decide) (by rfl)))
      (pss_cons (ps_set (i := 2) sc_law.nd rfl (Or.inl rfl) (pe_lst (pa_cons pe_dnewK (pa_cons pe_dnewK (pa_cons pe_dnewK pa_nil)))))
      (pss_cons (ps_if (pt_cmpR (op_neD hr.units) (pe_lst (pa_cons (pe_gc (by rfl) T.c_SUPPLY_LIMIT) (pa_cons (pe_gc (by rfl) T.c_ACCOUNT_LIMIT) (pa_cons (pe_gc (by rfl) T.c_HOLD_LIMIT) pa_nil)))) (pe_lst (pa_cons (pe_op op_pow pe_int pe_int) (pa_cons pe_int (pa_cons pe_int pa_nil)))) (nomark _)) (pss_one (ps_ret pe_bl)) pss_nil)
      (pss_cut (ps_if (PW.pt (pw_and (pt_cmpR op_gt (pe_callB (klen (K := K)) (by rfl) T.z_len (by decide +kernel) (pa_cons (pv 0) pa_nil)) pe_int (nomark _)) (pw_and1 (pt_cmpR op_eq (pe_op op_mod (pe_callTy call_int1 (by rfl) T.z_int (by decide +kernel) (pa_cons (pe_ix (kixl (K := K)) (pv 0) pe_int (fun _ _ => rfl)) pa_nil)) pe_int) pe_int (nomark _))))) (pss_one (ps_for PassesOwn.never rfl (pi_range1 (by rfl) T.z_range (pa_cons (pe_op op_add pe_int (pe_op op_mod (pe_op op_fdiv (pe_callTy call_int1 (by rfl) T.z_int (by decide +kernel) (pa_cons (pe_ix (kixl (K := K)) (pv 0) pe_int (fun _ _ => rfl)) pa_nil)) pe_int) pe_int)) pa_nil)) (pg_name (i := 3) sc_law.nd rfl (Or.inl rfl)) (pss_cons (ps_set (i := 4) sc_law.nd rfl (Or.inl rfl) (pe_op op_add_str (pe_op op_add_str pe_str (pe_ix ix_str pe_str (pe_op op_fdiv (pv 3) pe_int) (fun _ _ => rfl))) (pe_ix ix_str pe_str (pe_op op_mod (pv 3) pe_int) (fun _ _ => rfl))))
      (pss_one (ps_for PassesOwn.never rfl (pi_list (pe_lst (pa_cons (pe_tup (pa_cons pe_str (pa_cons (pe_un un_neg pe_int) (pa_cons (pv 4) (pa_cons pe_str (pa_cons pe_int (pa_cons pe_str pa_nil))))))) (pa_cons (pe_tup (pa_cons pe_str (pa_cons (pe_un un_neg pe_int) (pa_cons (pv 4) (pa_cons (pv 4) (pa_cons pe_int (pa_cons (pv 4) pa_nil))))))) pa_nil)))) (pg_name (i := 5) sc_law.nd rfl (Or.inl rfl)) (pss_cons (ps_if (pt_cmpR op_ne (pe_c c__law_call hr (by decide) (by rfl) (pa_cons (pv 1) (pa_cons (pv 5) pa_nil))) pe_str (nomark _)) (pss_one (ps_ret pe_bl)) pss_nil)
      (pss_one (ps_expr (pe_c c__law_apply hr (by decide) (by rfl) (pa_cons (pv 2) (pa_cons (pv 5) pa_nil))))))))))) pss_nil)
      (pss_cons (ps_for PassesOwn.never rfl (pi_range1 (by rfl) T.z_range (pa_cons (pe_callB (klen (K := K)) (by rfl) T.z_len (by decide +kernel) (pa_cons (pv 0) pa_nil)) pa_nil)) (pg_name (i := 3) sc_law.nd rfl (Or.inl rfl)) (pss_cons (ps_set (i := 5) sc_law.nd rfl (Or.inl rfl) (pe_c c__law_op hr (by decide) (by rfl) (pa_cons (pe_ix (kixl (K := K)) (pv 0) (pv 3) (fun _ _ => rfl)) (pa_cons (pv 3) pa_nil))))
      (pss_cons (ps_set (i := 6) sc_law.nd rfl (Or.inl rfl) (pe_c c__law_reason hr (by decide) (by rfl) (pa_cons (pv 2) (pa_cons (pv 5) pa_nil))))
      (pss_cons (ps_if (pt_cmpR op_ne (pe_c c__law_call hr (by decide) (by rfl) (pa_cons (pv 1) (pa_cons (pv 5) pa_nil))) (pv 6) (nomark _)) (pss_one (ps_ret pe_bl)) pss_nil)
      (pss_cut (ps_if (pt_cmpR op_eq (pv 6) pe_str (nomark _)) (pss_one (ps_expr (pe_c c__law_apply hr (by decide) (by rfl) (pa_cons (pv 2) (pa_cons (pv 5) pa_nil))))) pss_nil)
      (pss_one (ps_if (pt_not (pt_val (pe_c c__law_same hr (by decide) (by rfl) (pa_cons (pv 1) (pa_cons (pv 2) pa_nil))))) (pss_one (ps_ret pe_bl)) pss_nil)))))))
      (pss_one (ps_ret (pe_c c__law_missing hr (by decide) (by rfl) (pa_cons (pv 1) (pa_cons (pe_c c__law_strange hr (by decide) (by rfl) (pa_cons (pv 2) pa_nil)) pa_nil)))))))))), ?_⟩
  walk_at "rds"
  intro p dx hp hdx hne
  refine ⟨p, dx, rfl, upd_same, fun H1 n b h kp hn hb hh a1 => ⟨rfl, ?_⟩⟩
  have s1 : Same H H1 := Same.made hp hdx kp
  have sMk : Same H (upd (upd H dx (.own p)) p (.ins C_Accounts dx [])) := (same_upd hdx).trans (same_upd (by rw [upd_ne hne.symm]; exact hp))
  have fr : ∀ x ∈ [p, n, b, h], H x = none := fun x m => by
    rcases List.mem_cons.mp m with z | m
    · rw [z]; exact hp
    · rcases List.mem_cons.mp m with z | m
      · rw [z]; exact same_none sMk hn
      · rcases List.mem_cons.mp m with z | m
        · rw [z]; exact same_none sMk hb
        · rw [List.mem_singleton.mp m]; exact same_none sMk hh
  clear kp hn hb hh sMk hp hdx hne
  have iv0 : AInv ⟨[], [], 0⟩ 0 := ⟨List.nodup_nil, List.nodup_nil, Nat.le_refl _, Nat.le_refl _, (fun _ m => nomatch m), (fun _ m => nomatch m), (fun _ m => nomatch m), rfl, by decide, (fun _ m => nomatch m), fun _ m => nomatch m⟩
  have nk : ∀ {H' : Hp} {x : Addr}, Same H1 H' → H' x = none → x ∉ [p, n, b, h] := fun {H' x} sm e m => by
    obtain ⟨dx1, g1⟩ := a1.ins
    rcases List.mem_cons.mp m with z | m
    · rw [z, sm _ _ g1] at e; cases e
    · rcases List.mem_cons.mp m with z | m
      · rw [z, sm _ _ a1.ow] at e; cases e
      · rcases List.mem_cons.mp m with z | m
        · rw [z, sm _ _ a1.ba] at e; cases e
        · rw [List.mem_singleton.mp m, sm _ _ a1.ho] at e; cases e
  walk_at "rds"
  intro n2 hn2
  have u1 := same_upd (o := .dK []) hn2
  have en : upd H1 n2 (.dK []) n2 = some (.dK (aowD [])) := upd_same
  have hn0 := same_none s1 hn2
  have nn2 := nk (Same.refl _) hn2
  generalize upd H1 n2 (.dK []) = H2 at u1 en
  walk_at "rds"
  intro b2 hb2
  have u2 := same_upd (o := .dK []) hb2
  have eb : upd H2 b2 (.dK []) b2 = some (.dK (baD [])) := upd_same
  have hb0 := same_none (s1.trans u1) hb2
  have nb2 := nk u1 hb2
  have d1 : n2 ≠ b2 := ne_of_none en hb2
  have en := u2 _ _ en
  have u2 := u1.trans u2
  generalize upd H2 b2 (.dK []) = H3 at u2 eb en
  walk_at "rds"
  intro h2 hh2
  have u3 := same_upd (o := .dK []) hh2
  have eh : upd H3 h2 (.dK []) h2 = some (.dK (hoD [])) := upd_same
  have hh0 := same_none (s1.trans u2) hh2
  have nh2 := nk u2 hh2
  have d2 : n2 ≠ h2 := ne_of_none en hh2
  have d3 : b2 ≠ h2 := ne_of_none eb hh2
  have en := u3 _ _ en
  have eb := u3 _ _ eb
  have u3 := u2.trans u3
  generalize upd H3 h2 (.dK []) = H4 at u3 eb en eh
  walk_at "rds"
  intro L hL
  have u4 := same_upd (o := .lst [.ref n2, .ref b2, .ref h2]) hL
  have ms : MS C_Accounts H (upd H4 L (.lst [.ref n2, .ref b2, .ref h2])) p n b h L n2 b2 h2 [] [] ⟨[], [], 0⟩ :=
    { sm := (s1.trans u3).trans u4, fr := fr
      fr2 := fun x m => by
        rcases List.mem_cons.mp m with z | m
        · rw [z]; exact hn0
        · rcases List.mem_cons.mp m with z | m
          · rw [z]; exact hb0
          · rw [List.mem_singleton.mp m]; exact hh0
      a := a1.on (u3.trans u4), hs := rfl
      m := ⟨upd_same, u4 _ _ en, u4 _ _ eb, u4 _ _ eh, (fun _ m => nomatch m), d1, d2, d3⟩
      hs2 := rfl
      dis := fun x m => by
        rcases List.mem_cons.mp m with z | m
        · rw [z]; exact nn2
        · rcases List.mem_cons.mp m with z | m
          · rw [z]; exact nb2
          · rw [List.mem_singleton.mp m]; exact nh2 }
  generalize upd H4 L (.lst [V.ref n2, .ref b2, .ref h2]) = H5 at ms
  clear u1 u2 u3 u4 en eb eh hn0 hb0 hh0 nn2 nb2 nh2 d1 d2 d3 a1 nk fr s1 hn2 hb2 hh2 hL
  walk_at "rds"
  intro X hX
  have eX : upd H5 X (.lst [.int 1000000000000000, .int 100, .int 100]) X = some (.lst [.int 1000000000000000, .int 100, .int 100]) := upd_same
  have ms := ms.on (same_upd (o := .lst [.int 1000000000000000, .int 100, .int 100]) hX)
  generalize upd H5 X (.lst [V.int 1000000000000000, .int 100, .int 100]) = H6 at ms eX
  walk_at "rds"
  intro Y hY
  have eY : upd H6 Y (.lst [.int (10 ^ Int.toNat 15), .int 100, .int 100]) Y = some (.lst [.int (10 ^ Int.toNat 15), .int 100, .int 100]) := upd_same
  have ms := ms.on (same_upd (o := .lst [.int (10 ^ Int.toNat 15), .int 100, .int 100]) hY)
  have eX := (same_upd (o := .lst [.int (10 ^ Int.toNat 15), .int 100, .int 100]) hY) _ _ eX
  have eY2 : upd H6 Y (.lst [(fun i j : Int => V.int (i ^ j.toNat)) 10 15, .int 100, .int 100]) = upd H6 Y (.lst [.int (10 ^ Int.toNat 15), .int 100, .int 100]) := rfl
  rw [eY2]
  generalize upd H6 Y (.lst [V.int (10 ^ Int.toNat 15), .int 100, .int 100]) = H7 at ms eX eY
  refine ⟨.list [.int 1000000000000000, .int 100, .int 100], .list [.int (10 ^ Int.toNat 15), .int 100, .int 100], .lst (.of eX) (.cons (.int _) (.cons (.int _) (.cons (.int _) .nil))), .lst (.of eY) (.cons (.int _) (.cons (.int _) (.cons (.int _) .nil))), rfl, rfl, ?_⟩
  rw [show PyData.eqv (.list [.int 1000000000000000, .int 100, .int 100]) (.list [.int (10 ^ Int.toNat 15), .int 100, .int 100]) = true by decide +kernel]
  refine ⟨_, rfl, ?_⟩
  refine ifF rfl ?_
  clear eX eY eY2 hX hY
  refine ⟨fun σ' H' => ∃ (he he2 : HE) (s : AS) (m : Nat) (y3 y4 y5 : Option V), σ' = [some (.ref a), some (.ref p), some (.ref L), y3, y4, y5, none] ∧ m ≤ 210 ∧ MS C_Accounts H H' p n b h L n2 b2 h2 he he2 s ∧ AInv s m ∧ ∀ e ∈ s.ac, e.1 ≠ "", ?_, ?_⟩
  · have none0 : ∃ (he he2 : HE) (s : AS) (m : Nat) (y3 y4 y5 : Option V), [some (V.ref a), some (.ref p), some (.ref L), none, none, none, none] = [some (V.ref a), some (.ref p), some (.ref L), y3, y4, y5, none] ∧ m ≤ 210 ∧ MS C_Accounts H H7 p n b h L n2 b2 h2 he he2 s ∧ AInv s m ∧ ∀ e ∈ s.ac, e.1 ≠ "" := ⟨[], [], _, 0, none, none, none, rfl, by decide, ms, iv0, fun _ m => nomatch m⟩
    walk_at "rds"
    refine ⟨a, _, rfl, .inl (ms.sm.seq hS), ?_⟩
    rw [List.length_map]
    walk_at "rds"
    by_cases h0 : 0 < ns.length
    case neg =>
      refine ifF (decide_eq_false (by omega)) ?_
      refine ifF rfl ?_
      exact none0
    refine ifT (decide_eq_true (by omega)) ?_
    have g0 : (ns.map V.int)[0]? = some (.int ns[0]) := by rw [List.getElem?_map, List.getElem?_eq_getElem h0]; rfl
    generalize ns[0] = c0 at g0
    walk_at "rds"
    refine ⟨a, _, 0, _, rfl, rfl, ms.sm.seq hS, atI_nat (j := 0) g0, ?_⟩
    walk_at "rds"
    refine ite2 (fun _ => ?_) (fun _ => none0)
    walk_at "rds"
    refine ⟨a, _, 0, _, rfl, rfl, ms.sm.seq hS, atI_nat (j := 0) g0, ?_⟩
    walk_at "rds"
    have hcnt : (98 + c0 / 6 % 3).toNat ≤ 100 := by omega
    refine for_it walk_range (Pv := fun i σ' H' => ∃ (he he2 : HE) (s : AS) (y3 y4 y5 : Option V), σ' = [some (.ref a), some (.ref p), some (.ref L), y3, y4, y5, none] ∧ MS C_Accounts H H' p n b h L n2 b2 h2 he he2 s ∧ AInv s (2 * i) ∧ Pre s i ∧ ∀ e ∈ s.ac, e.1 ≠ "") ⟨[], [], _, none, none, none, rfl, ms, iv0, ⟨rfl, rfl, (fun _ m => nomatch m), fun _ m => nomatch m⟩, fun _ m => nomatch m⟩ (fun _ _ _ _ _ => trivial) (fun i x σ' Ha Hb hi hp' hy => ?_) (fun σ' Ha hp' => ?_)
    · clear ms iv0 none0
      obtain ⟨he, he2, s, y3, y4, y5, rfl, ms, iv, pr, ne⟩ := hp'
      obtain ⟨rfl, hx⟩ := hy
      obtain rfl : x = V.int (i : Int) := hx.trans (congrArg V.int (Int.zero_add _))
      clear hx
      have hi : i < 100 := by omega
      have labj : abj.length = 10 := by decide +kernel
      have g1 : abj[i / 10]? = some (abj.getD (i / 10) 0) := by
        have hl : i / 10 < abj.length := by rw [labj]; omega
        rw [List.getD_eq_getElem?_getD, List.getElem?_eq_getElem hl]; rfl
      have g2 : abj[i % 10]? = some (abj.getD (i % 10) 0) := by
        have hl : i % 10 < abj.length := by rw [labj]; omega
        rw [List.getD_eq_getElem?_getD, List.getElem?_eq_getElem hl]; rfl
      have a1 : atI abj ((i : Int) / 10) = some (abj.getD (i / 10) 0) := by
        rw [show (i : Int) / 10 = ((i / 10 : Nat) : Int) by omega]; exact atI_nat g1
      have a2 : atI abj ((i : Int) % 10) = some (abj.getD (i % 10) 0) := by
        rw [show (i : Int) % 10 = ((i % 10 : Nat) : Int) by omega]; exact atI_nat g2
      walk_at "rds"
      refine ⟨_, _, _, rfl, rfl, sz1000 (by decide +kernel), a1, ?_⟩
      walk_at "rds"
      refine ⟨_, _, _, rfl, rfl, sz1000 (by decide +kernel), a2, ?_⟩
      refine ⟨_, _, rfl, rfl, sz1000 (by show 2 + 1 ≤ 100000; decide), ?_⟩
      walk_at "rds"
      intro t1 ht1
      rw [show upd Hb t1 (.tup [.str "create", (fun i : Int => V.int (-i)) 2, .str (Str.ofString "z" ++ ⟨#[abj.getD (i / 10) 0]⟩ ++ ⟨#[abj.getD (i % 10) 0]⟩), .str "", .int 0, .str ""]) = upd Hb t1 (.tup (opV (opC i))) from rfl]
      have ms := ms.on (same_upd (o := .tup (opV (opC i))) ht1)
      have et1 : upd Hb t1 (.tup (opV (opC i))) t1 = some (.tup (opV (opC i))) := upd_same
      generalize upd Hb t1 (.tup (opV (opC i))) = Hc at ms et1
      walk_at "rds"
      intro t2 ht2
      rw [show upd Hc t2 (.tup [.str "hold", (fun i : Int => V.int (-i)) 2, .str (Str.ofString "z" ++ ⟨#[abj.getD (i / 10) 0]⟩ ++ ⟨#[abj.getD (i % 10) 0]⟩), .str (Str.ofString "z" ++ ⟨#[abj.getD (i / 10) 0]⟩ ++ ⟨#[abj.getD (i % 10) 0]⟩), .int 0, .str (Str.ofString "z" ++ ⟨#[abj.getD (i / 10) 0]⟩ ++ ⟨#[abj.getD (i % 10) 0]⟩)]) = upd Hc t2 (.tup (opV (opH i))) from rfl]
      have ms := ms.on (same_upd (o := .tup (opV (opH i))) ht2)
      have et1 := (same_upd (o := .tup (opV (opH i))) ht2) _ _ et1
      have et2 : upd Hc t2 (.tup (opV (opH i))) t2 = some (.tup (opV (opH i))) := upd_same
      generalize upd Hc t2 (.tup (opV (opH i))) = Hd at ms et1 et2
      walk_at "rds"
      intro L3 hL3
      have ms := ms.on (same_upd (o := .lst [.ref t1, .ref t2]) hL3)
      have et1 := (same_upd (o := .lst [.ref t1, .ref t2]) hL3) _ _ et1
      have et2 := (same_upd (o := .lst [.ref t1, .ref t2]) hL3) _ _ et2
      have eL3 : upd Hd L3 (.lst [.ref t1, .ref t2]) L3 = some (.lst [.ref t1, .ref t2]) := upd_same
      generalize upd Hd L3 (.lst [V.ref t1, .ref t2]) = He at ms et1 et2 eL3
      walk_at "rds"
      have c1 := pre_create pr hi
      have c2 := pre_hold pr iv.ok hi
      have iv1 := (iv.op (opC_ok hi) c1).1
      have iv2 := (iv1.op (opH_ok hi) c2).1
      have ne1 : ∀ e ∈ s.ac ++ [(nm i, ((-2 : Int), (0 : Int)))], e.1 ≠ "" := fun e me => by
        rcases List.mem_append.mp me with me | me
        · exact ne e me
        · rw [List.mem_singleton.mp me]; exact (nm_tx i hi).2.2
      have pr2 := pre_next pr
      generalize hsA : ({ s with ac := s.ac ++ [(nm i, (-2, 0))] } : AS) = sA at c1 c2 iv1
      have neA : ∀ e ∈ sA.ac, e.1 ≠ "" := by rw [← hsA]; exact ne1
      generalize hsB : ({ s with ac := s.ac ++ [(nm i, (-2, 0))], ho := s.ho ++ [(nm i, (nm i, nm i, 0))] } : AS) = sB' at c2 iv2 pr2
      have neB : ∀ e ∈ sB'.ac, e.1 ≠ "" := by rw [← hsB]; exact ne1
      refine ⟨⟨_, sq eL3⟩, ?_⟩
      refine for_it (walk_list (K := K) (a := L3) (xs := [.ref t1, .ref t2])) (Pv := fun j σ' H' => ∃ (he he2 : HE) (y5 : Option V), σ' = [some (.ref a), some (.ref p), some (.ref L), some (.int (i : Int)), some (.str (nm i)), y5, none] ∧ MS C_Accounts H H' p n b h L n2 b2 h2 he he2 (if j = 0 then s else if j = 1 then sA else sB') ∧ H' t1 = some (.tup (opV (opC i))) ∧ H' t2 = some (.tup (opV (opH i))) ∧ H' L3 = some (.lst [.ref t1, .ref t2])) ⟨he, he2, _, rfl, ms, et1, et2, eL3⟩ (fun _ _ _ _ h => by obtain ⟨_, _, _, _, _, _, _, h⟩ := h; exact sq h) (fun j x σ' Hf Hg hj hp' hy => ?_) (fun σ' Hf hp' => ?_)
      · clear ms et1 et2 eL3
        obtain ⟨he, he2, y5, rfl, ms, et1, et2, eL3⟩ := hp'
        obtain ⟨rfl, gx⟩ := hy
        have hj : j < 2 := hj
        obtain ⟨t, o, sO, sN, m, rfl, eo, rO, rN, iO, er, hm⟩ : ∃ (t : Addr) (o : OpA) (sO sN : AS) (m : Nat), x = .ref t ∧ Hg t = some (.tup (opV o)) ∧ (if j = 0 then s else if j = 1 then sA else sB') = sO ∧ (if j + 1 = 0 then s else if j + 1 = 1 then sA else sB') = sN ∧ AInv sO m ∧ acOp sO o = .inr sN ∧ m ≤ 1000 := by
          match j, hj, gx with
          | 0, _, gx => exact ⟨t1, opC i, s, sA, 2 * i, (Option.some.inj gx).symm, et1, rfl, rfl, iv, c1, by omega⟩
          | 1, _, gx => exact ⟨t2, opH i, sA, sB', 2 * i + 1, (Option.some.inj gx).symm, et2, rfl, rfl, iv1, c2, by omega⟩
        rw [rO] at ms
        rw [rN]
        have er1 := resOp_inr er
        walk_at "rds"
        refine ⟨p, n, b, h, t, he, sO, o, rfl, iO.aw hm ms.a ms.hs, eo, fun H11 he' bt a11 hs11 => ?_⟩
        rw [er1] at a11 hs11 ⊢
        walk_at "rds"
        refine ⟨L, n2, b2, h2, t, he2, sO, sN, o, m, rfl, ms.mA bt, ms.hs2, iO, hm, ms.tpA bt eo, er, fun H12 he2' bt2 m12 hs12 => ?_⟩
        have mA := ms.mA bt
        have keepT : ∀ {c : Addr} {xs : List V}, Hg c = some (.tup xs) → H12 c = some (.tup xs) := fun {c xs} e => bt2 _ _ (mA.not3 (ms.tpA bt e) (by intro _ z; cases z)) (ms.tpA bt e)
        have keepL : ∀ {c : Addr} {xs : List V}, Hg c = some (.lst xs) → H12 c = some (.lst xs) := fun {c xs} e => bt2 _ _ (mA.not3 (ms.lsA bt e) (by intro _ z; cases z)) (ms.lsA bt e)
        exact ⟨he', he2', _, rfl, ms.turn bt a11 hs11 bt2 m12 hs12, keepT et1, keepT et2, keepL eL3⟩
      · obtain ⟨he, he2, y5, rfl, ms, _, _, _⟩ := hp'
        exact ⟨he, he2, sB', _, _, _, rfl, ms, (by rw [show 2 * (i + 1) = 2 * i + 1 + 1 by omega]; exact iv2), pr2, neB⟩
    · obtain ⟨he, he2, s, y3, y4, y5, rfl, ms, iv, pr, ne⟩ := hp'
      exact ⟨he, he2, s, _, y3, y4, y5, rfl, by omega, ms, iv, ne⟩
  rintro σ' H8 ⟨he, he2, s, m, y3, y4, y5, rfl, hm, ms, iv, ne⟩
  walk_at "rds"
  refine ⟨a, _, rfl, .inl (ms.sm.seq hS), ?_⟩
  rw [List.length_map]
  walk_at "rds"
  refine for_it walk_range (Pv := fun i σ' H' => ∃ (he he2 : HE) (s : AS) (y3 y4 y5 y6 : Option V), σ' = [some (.ref a), some (.ref p), some (.ref L), y3, y4, y5, y6] ∧ MS C_Accounts H H' p n b h L n2 b2 h2 he he2 s ∧ AInv s (m + i) ∧ ∀ e ∈ s.ac, e.1 ≠ "") ⟨he, he2, s, y3, y4, y5, none, rfl, ms, iv, ne⟩ (fun _ _ _ _ _ => trivial) (fun i x σ' Ha Hb hi hp' hy => ?_) (fun σ' Ha hp' => ?_)
  · clear ms iv ne
    obtain ⟨he, he2, s, y3, y4, y5, y6, rfl, ms, iv, ne⟩ := hp'
    obtain ⟨rfl, hx⟩ := hy
    obtain rfl : x = V.int (i : Int) := hx.trans (congrArg V.int (Int.zero_add _))
    clear hx
    have hi : i < ns.length := by omega
    have g : (ns.map V.int)[i]? = some (.int ns[i]) := by rw [List.getElem?_map, List.getElem?_eq_getElem hi]; rfl
    generalize ns[i] = ci at g
    walk_at "rds"
    refine ⟨a, _, i, _, rfl, rfl, ms.sm.seq hS, atI_nat g, ?_⟩
    walk_at "rds"
    refine ⟨ci, (i : Int), rfl, by omega, by omega, fun H9 t o s9 et oo => ?_⟩
    have ms := ms.on s9
    walk_at "rds"
    refine ⟨L, n2, b2, h2, t, he2, s, o, m + i, rfl, ms.m, ms.hs2, iv, by omega, et, oo, fun H10 s10 => ?_⟩
    have ms := ms.on s10
    have et := s10 _ _ et
    clear s9 s10
    walk_at "rds"
    refine ⟨p, n, b, h, t, he, s, o, rfl, iv.aw (by omega) ms.a ms.hs, et, fun H11 he' bt a11 hs11 => ?_⟩
    have et2 := ms.tpA bt et
    walk_at "rds"
    refine ifF (by show (!decide (V.str (resOp s o).1 = V.str (resOp s o).1)) = false; rw [decide_eq_true rfl]; rfl) ?_
    refine ⟨fun σ' H' => ∃ (he he2 : HE) (s' : AS), σ' = [some (.ref a), some (.ref p), some (.ref L), some (.int (i : Int)), y4, some (.ref t), some (.str (resOp s o).1)] ∧ MS C_Accounts H H' p n b h L n2 b2 h2 he he2 s' ∧ AInv s' (m + (i + 1)) ∧ ∀ e ∈ s'.ac, e.1 ≠ "", ?_, ?_⟩
    · cases er : acOp s o with
      | inl z =>
        have e1 := resOp_inl er
        rw [e1] at a11 hs11 ⊢
        have nz := (acOp_rsn er).ne
        walk_at "rds"
        rw [decS]
        refine ifF (decide_eq_false nz) ?_
        exact ⟨he', he2, s, rfl, ms.half bt a11 hs11, iv.mono (by omega), ne⟩
      | inr s' =>
        have e1 := resOp_inr er
        rw [e1] at a11 hs11 ⊢
        walk_at "rds"
        refine ⟨L, n2, b2, h2, t, he2, s, s', o, m + i, rfl, ms.mA bt, ms.hs2, iv, by omega, et2, er, fun H12 he2' bt2 m12 hs12 => ?_⟩
        refine ⟨he', he2', s', rfl, ms.turn bt a11 hs11 bt2 m12 hs12, (iv.op oo er).1, fun e me => ?_⟩
        rcases acOp_keys iv er e me with z | ⟨y, my, z⟩
        · rw [z]; exact oo.ne
        · rw [← z]; exact ne y my
    rintro σ' H12 ⟨he3, he4, s3, rfl, ms3, iv3, ne3⟩
    walk_at "rds"
    refine ⟨p, n, b, h, L, n2, b2, h2, he3, he4, s3, m + (i + 1), rfl, ms3.a, ms3.hs, ms3.m, ms3.hs2, iv3, by omega, fun H13 s13 => ?_⟩
    walk_at "rds"
    refine ifF rfl ?_
    exact ⟨he3, he4, s3, _, _, _, _, rfl, ms3.on s13, iv3, ne3⟩
  · obtain ⟨he, he2, s, y3, y4, y5, y6, rfl, ms, iv, ne⟩ := hp'
    walk_at "rds"
    refine ⟨L, n2, b2, h2, he2, s.ac, rfl, ms.m, ne, fun z gz => ?_⟩
    walk_at "rds"
    refine ⟨p, n, b, h, he, s, z, rfl, iv.aw (by omega) ms.a ms.hs, gz, fun H' => ?_⟩
    exact q H'
end

theorem fin {C_Accounts : Addr} {C_LedgerError : Addr} {C_Refused : Addr} {P : Program} {w : World} {K : PySem.W.Frag} {mg : Str → Option Value} {fa : Addr} (hfa : mg "law" = some (.ref fa)) (T : Txt K mg C_Accounts C_LedgerError C_Refused) :
    ∃ fd : FuncData, (∀ (s : Shared) (u : Value), BindsTo s fd ⟨[u], []⟩ [("script", u)]) ∧ ∀ base : Heap, K.In base → base.Ns mainGlobals mg → FnOk P w K mg base L2.CX0 10 fa fd ["script"] (spLaw K) := by
  obtain ⟨f, fd, F, hm, b⟩ := T.d_law.ex
  cases hfa.symm.trans hm
  refine ⟨fd, fun s u => ?_, fun base _ _ => ok_law F T⟩
  obtain ⟨oc, od, kV, doc, pm, an, cdv, ct, osl, rfl, l, _⟩ := F.ex
  exact .of_eq rfl

theorem all_mk {K : PySem.W.Frag} {h : Heap} {mg : Str → Option Value} (X : K.In h) (G : h.Ns mainGlobals mg)
    {f__law_word : Addr} {od__law_word an__law_word : Option Addr} {sl__law_word : Array (Option Value)} {oc__law_word kV__law_word dc__law_word pm__law_word cd__law_word ct__law_word : Value}
    {f__law_name : Addr} {od__law_name an__law_name : Option Addr} {sl__law_name : Array (Option Value)} {oc__law_name kV__law_name dc__law_name pm__law_name cd__law_name ct__law_name : Value}
    {f__law_key : Addr} {od__law_key an__law_key : Option Addr} {sl__law_key : Array (Option Value)} {oc__law_key kV__law_key dc__law_key pm__law_key cd__law_key ct__law_key : Value}
    {f__law_amount : Addr} {od__law_amount an__law_amount : Option Addr} {sl__law_amount : Array (Option Value)} {oc__law_amount kV__law_amount dc__law_amount pm__law_amount cd__law_amount ct__law_amount : Value}
    {f__law_rich : Addr} {od__law_rich an__law_rich : Option Addr} {sl__law_rich : Array (Option Value)} {oc__law_rich kV__law_rich dc__law_rich pm__law_rich cd__law_rich ct__law_rich : Value}
    {f__law_op : Addr} {od__law_op an__law_op : Option Addr} {sl__law_op : Array (Option Value)} {oc__law_op kV__law_op dc__law_op pm__law_op cd__law_op ct__law_op : Value}
    {f__law_call : Addr} {od__law_call an__law_call : Option Addr} {sl__law_call : Array (Option Value)} {oc__law_call kV__law_call dc__law_call pm__law_call cd__law_call ct__law_call : Value}
    {f__law_funds : Addr} {od__law_funds an__law_funds : Option Addr} {sl__law_funds : Array (Option Value)} {oc__law_funds kV__law_funds dc__law_funds pm__law_funds cd__law_funds ct__law_funds : Value}
    {f__law_payment : Addr} {od__law_payment an__law_payment : Option Addr} {sl__law_payment : Array (Option Value)} {oc__law_payment kV__law_payment dc__law_payment pm__law_payment cd__law_payment ct__law_payment : Value}
    {f__law_close : Addr} {od__law_close an__law_close : Option Addr} {sl__law_close : Array (Option Value)} {oc__law_close kV__law_close dc__law_close pm__law_close cd__law_close ct__law_close : Value}
    {f__law_reason : Addr} {od__law_reason an__law_reason : Option Addr} {sl__law_reason : Array (Option Value)} {oc__law_reason kV__law_reason dc__law_reason pm__law_reason cd__law_reason ct__law_reason : Value}
    {f__law_apply : Addr} {od__law_apply an__law_apply : Option Addr} {sl__law_apply : Array (Option Value)} {oc__law_apply kV__law_apply dc__law_apply pm__law_apply cd__law_apply ct__law_apply : Value}
    {f__law_same : Addr} {od__law_same an__law_same : Option Addr} {sl__law_same : Array (Option Value)} {oc__law_same kV__law_same dc__law_same pm__law_same cd__law_same ct__law_same : Value}
    {f__law_strange : Addr} {od__law_strange an__law_strange : Option Addr} {sl__law_strange : Array (Option Value)} {oc__law_strange kV__law_strange dc__law_strange pm__law_strange cd__law_strange ct__law_strange : Value}
    {f__law_missing : Addr} {od__law_missing an__law_missing : Option Addr} {sl__law_missing : Array (Option Value)} {oc__law_missing kV__law_missing dc__law_missing pm__law_missing cd__law_missing ct__law_missing : Value}
    {f_law : Addr} {od_law an_law : Option Addr} {sl_law : Array (Option Value)} {oc_law kV_law dc_law pm_law cd_law ct_law : Value}
    {C_Accounts : Addr}
    {f_Accounts____init__ : Addr} {od_Accounts____init__ an_Accounts____init__ : Option Addr} {sl_Accounts____init__ : Array (Option Value)} {oc_Accounts____init__ kV_Accounts____init__ dc_Accounts____init__ pm_Accounts____init__ cd_Accounts____init__ ct_Accounts____init__ : Value}
    {f_Accounts__create : Addr} {od_Accounts__create an_Accounts__create : Option Addr} {sl_Accounts__create : Array (Option Value)} {oc_Accounts__create kV_Accounts__create dc_Accounts__create pm_Accounts__create cd_Accounts__create ct_Accounts__create : Value}
    {f_Accounts__close : Addr} {od_Accounts__close an_Accounts__close : Option Addr} {sl_Accounts__close : Array (Option Value)} {oc_Accounts__close kV_Accounts__close dc_Accounts__close pm_Accounts__close cd_Accounts__close ct_Accounts__close : Value}
    {f_Accounts__issue : Addr} {od_Accounts__issue an_Accounts__issue : Option Addr} {sl_Accounts__issue : Array (Option Value)} {oc_Accounts__issue kV_Accounts__issue dc_Accounts__issue pm_Accounts__issue cd_Accounts__issue ct_Accounts__issue : Value}
    {f_Accounts__burn : Addr} {od_Accounts__burn an_Accounts__burn : Option Addr} {sl_Accounts__burn : Array (Option Value)} {oc_Accounts__burn kV_Accounts__burn dc_Accounts__burn pm_Accounts__burn cd_Accounts__burn ct_Accounts__burn : Value}
    {f_Accounts__pay : Addr} {od_Accounts__pay an_Accounts__pay : Option Addr} {sl_Accounts__pay : Array (Option Value)} {oc_Accounts__pay kV_Accounts__pay dc_Accounts__pay pm_Accounts__pay cd_Accounts__pay ct_Accounts__pay : Value}
    {f_Accounts__hold : Addr} {od_Accounts__hold an_Accounts__hold : Option Addr} {sl_Accounts__hold : Array (Option Value)} {oc_Accounts__hold kV_Accounts__hold dc_Accounts__hold pm_Accounts__hold cd_Accounts__hold ct_Accounts__hold : Value}
    {f_Accounts__settle : Addr} {od_Accounts__settle an_Accounts__settle : Option Addr} {sl_Accounts__settle : Array (Option Value)} {oc_Accounts__settle kV_Accounts__settle dc_Accounts__settle pm_Accounts__settle cd_Accounts__settle ct_Accounts__settle : Value}
    {f_Accounts__release : Addr} {od_Accounts__release an_Accounts__release : Option Addr} {sl_Accounts__release : Array (Option Value)} {oc_Accounts__release kV_Accounts__release dc_Accounts__release pm_Accounts__release cd_Accounts__release ct_Accounts__release : Value}
    {f_Accounts__balance : Addr} {od_Accounts__balance an_Accounts__balance : Option Addr} {sl_Accounts__balance : Array (Option Value)} {oc_Accounts__balance kV_Accounts__balance dc_Accounts__balance pm_Accounts__balance cd_Accounts__balance ct_Accounts__balance : Value}
    {f_Accounts__owner : Addr} {od_Accounts__owner an_Accounts__owner : Option Addr} {sl_Accounts__owner : Array (Option Value)} {oc_Accounts__owner kV_Accounts__owner dc_Accounts__owner pm_Accounts__owner cd_Accounts__owner ct_Accounts__owner : Value}
    {f_Accounts__supply : Addr} {od_Accounts__supply an_Accounts__supply : Option Addr} {sl_Accounts__supply : Array (Option Value)} {oc_Accounts__supply kV_Accounts__supply dc_Accounts__supply pm_Accounts__supply cd_Accounts__supply ct_Accounts__supply : Value}
    {f_Accounts__rows : Addr} {od_Accounts__rows an_Accounts__rows : Option Addr} {sl_Accounts__rows : Array (Option Value)} {oc_Accounts__rows kV_Accounts__rows dc_Accounts__rows pm_Accounts__rows cd_Accounts__rows ct_Accounts__rows : Value}
    {f_Accounts__held : Addr} {od_Accounts__held an_Accounts__held : Option Addr} {sl_Accounts__held : Array (Option Value)} {oc_Accounts__held kV_Accounts__held dc_Accounts__held pm_Accounts__held cd_Accounts__held ct_Accounts__held : Value}
    {f_Accounts___check : Addr} {od_Accounts___check an_Accounts___check : Option Addr} {sl_Accounts___check : Array (Option Value)} {oc_Accounts___check kV_Accounts___check dc_Accounts___check pm_Accounts___check cd_Accounts___check ct_Accounts___check : Value}
    {f_Accounts___check_owner : Addr} {od_Accounts___check_owner an_Accounts___check_owner : Option Addr} {sl_Accounts___check_owner : Array (Option Value)} {oc_Accounts___check_owner kV_Accounts___check_owner dc_Accounts___check_owner pm_Accounts___check_owner cd_Accounts___check_owner ct_Accounts___check_owner : Value}
    {f_Accounts___check_funds : Addr} {od_Accounts___check_funds an_Accounts___check_funds : Option Addr} {sl_Accounts___check_funds : Array (Option Value)} {oc_Accounts___check_funds kV_Accounts___check_funds dc_Accounts___check_funds pm_Accounts___check_funds cd_Accounts___check_funds ct_Accounts___check_funds : Value}
    {f_Accounts___check_payment : Addr} {od_Accounts___check_payment an_Accounts___check_payment : Option Addr} {sl_Accounts___check_payment : Array (Option Value)} {oc_Accounts___check_payment kV_Accounts___check_payment dc_Accounts___check_payment pm_Accounts___check_payment cd_Accounts___check_payment ct_Accounts___check_payment : Value}
    {f_Accounts___hold_of : Addr} {od_Accounts___hold_of an_Accounts___hold_of : Option Addr} {sl_Accounts___hold_of : Array (Option Value)} {oc_Accounts___hold_of kV_Accounts___hold_of dc_Accounts___hold_of pm_Accounts___hold_of cd_Accounts___hold_of ct_Accounts___hold_of : Value}
    {f_Accounts___is_held : Addr} {od_Accounts___is_held an_Accounts___is_held : Option Addr} {sl_Accounts___is_held : Array (Option Value)} {oc_Accounts___is_held kV_Accounts___is_held dc_Accounts___is_held pm_Accounts___is_held cd_Accounts___is_held ct_Accounts___is_held : Value}
    {C_LedgerError : Addr}
    {C_Refused : Addr} {nm_Refused qn_Refused : Str} {NN_Refused : Addr} {bs_Refused bm_Refused sub_Refused : List Value} {sn_Refused : List Str} {ab_Refused : Bool} {col_Refused : Option Bool} {dd_Refused : Option Addr} {m0_Refused m1_Refused m2_Refused m3_Refused m5_Refused : Option Value}
    {f_Refused____init__ : Addr} {od_Refused____init__ an_Refused____init__ : Option Addr} {sl_Refused____init__ : Array (Option Value)} {oc_Refused____init__ kV_Refused____init__ dc_Refused____init__ pm_Refused____init__ cd_Refused____init__ ct_Refused____init__ : Value}
    {t_ACCOUNT_LIMIT : Tok}
    {t_HOLD_LIMIT : Tok}
    {t_MINT : Tok}
    {t_SUPPLY_LIMIT : Tok}
    (a__law_word : PySem.W.nsIn K mainGlobals "_law_word" = some (some (.ref f__law_word)))
    (l__law_word : K.lookup f__law_word = some ⟨oc__law_word, od__law_word, .func (PySem.W.fnOf "_law_word" "_law_word" (defArgs s__law_word) (defBody s__law_word) (defScope s__law_word) .none kV__law_word dc__law_word pm__law_word an__law_word cd__law_word ct__law_word), sl__law_word⟩)
    (e__law_word : PySem.W.codeIn K cd__law_word "_law_word" = true)
    (k__law_word : PySem.W.keepIn K (.ref f__law_word) = true)
    (a__law_name : PySem.W.nsIn K mainGlobals "_law_name" = some (some (.ref f__law_name)))
    (l__law_name : K.lookup f__law_name = some ⟨oc__law_name, od__law_name, .func (PySem.W.fnOf "_law_name" "_law_name" (defArgs s__law_name) (defBody s__law_name) (defScope s__law_name) .none kV__law_name dc__law_name pm__law_name an__law_name cd__law_name ct__law_name), sl__law_name⟩)
    (e__law_name : PySem.W.codeIn K cd__law_name "_law_name" = true)
    (k__law_name : PySem.W.keepIn K (.ref f__law_name) = true)
    (a__law_key : PySem.W.nsIn K mainGlobals "_law_key" = some (some (.ref f__law_key)))
    (l__law_key : K.lookup f__law_key = some ⟨oc__law_key, od__law_key, .func (PySem.W.fnOf "_law_key" "_law_key" (defArgs s__law_key) (defBody s__law_key) (defScope s__law_key) .none kV__law_key dc__law_key pm__law_key an__law_key cd__law_key ct__law_key), sl__law_key⟩)
    (e__law_key : PySem.W.codeIn K cd__law_key "_law_key" = true)
    (k__law_key : PySem.W.keepIn K (.ref f__law_key) = true)
    (a__law_amount : PySem.W.nsIn K mainGlobals "_law_amount" = some (some (.ref f__law_amount)))
    (l__law_amount : K.lookup f__law_amount = some ⟨oc__law_amount, od__law_amount, .func (PySem.W.fnOf "_law_amount" "_law_amount" (defArgs s__law_amount) (defBody s__law_amount) (defScope s__law_amount) .none kV__law_amount dc__law_amount pm__law_amount an__law_amount cd__law_amount ct__law_amount), sl__law_amount⟩)
    (e__law_amount : PySem.W.codeIn K cd__law_amount "_law_amount" = true)
    (k__law_amount : PySem.W.keepIn K (.ref f__law_amount) = true)
    (a__law_rich : PySem.W.nsIn K mainGlobals "_law_rich" = some (some (.ref f__law_rich)))
    (l__law_rich : K.lookup f__law_rich = some ⟨oc__law_rich, od__law_rich, .func (PySem.W.fnOf "_law_rich" "_law_rich" (defArgs s__law_rich) (defBody s__law_rich) (defScope s__law_rich) .none kV__law_rich dc__law_rich pm__law_rich an__law_rich cd__law_rich ct__law_rich), sl__law_rich⟩)
    (e__law_rich : PySem.W.codeIn K cd__law_rich "_law_rich" = true)
    (k__law_rich : PySem.W.keepIn K (.ref f__law_rich) = true)
    (a__law_op : PySem.W.nsIn K mainGlobals "_law_op" = some (some (.ref f__law_op)))
    (l__law_op : K.lookup f__law_op = some ⟨oc__law_op, od__law_op, .func (PySem.W.fnOf "_law_op" "_law_op" (defArgs s__law_op) (defBody s__law_op) (defScope s__law_op) .none kV__law_op dc__law_op pm__law_op an__law_op cd__law_op ct__law_op), sl__law_op⟩)
    (e__law_op : PySem.W.codeIn K cd__law_op "_law_op" = true)
    (k__law_op : PySem.W.keepIn K (.ref f__law_op) = true)
    (a__law_call : PySem.W.nsIn K mainGlobals "_law_call" = some (some (.ref f__law_call)))
    (l__law_call : K.lookup f__law_call = some ⟨oc__law_call, od__law_call, .func (PySem.W.fnOf "_law_call" "_law_call" (defArgs s__law_call) (defBody s__law_call) (defScope s__law_call) .none kV__law_call dc__law_call pm__law_call an__law_call cd__law_call ct__law_call), sl__law_call⟩)
    (e__law_call : PySem.W.codeIn K cd__law_call "_law_call" = true)
    (k__law_call : PySem.W.keepIn K (.ref f__law_call) = true)
    (a__law_funds : PySem.W.nsIn K mainGlobals "_law_funds" = some (some (.ref f__law_funds)))
    (l__law_funds : K.lookup f__law_funds = some ⟨oc__law_funds, od__law_funds, .func (PySem.W.fnOf "_law_funds" "_law_funds" (defArgs s__law_funds) (defBody s__law_funds) (defScope s__law_funds) .none kV__law_funds dc__law_funds pm__law_funds an__law_funds cd__law_funds ct__law_funds), sl__law_funds⟩)
    (e__law_funds : PySem.W.codeIn K cd__law_funds "_law_funds" = true)
    (k__law_funds : PySem.W.keepIn K (.ref f__law_funds) = true)
    (a__law_payment : PySem.W.nsIn K mainGlobals "_law_payment" = some (some (.ref f__law_payment)))
    (l__law_payment : K.lookup f__law_payment = some ⟨oc__law_payment, od__law_payment, .func (PySem.W.fnOf "_law_payment" "_law_payment" (defArgs s__law_payment) (defBody s__law_payment) (defScope s__law_payment) .none kV__law_payment dc__law_payment pm__law_payment an__law_payment cd__law_payment ct__law_payment), sl__law_payment⟩)
    (e__law_payment : PySem.W.codeIn K cd__law_payment "_law_payment" = true)
    (k__law_payment : PySem.W.keepIn K (.ref f__law_payment) = true)
    (a__law_close : PySem.W.nsIn K mainGlobals "_law_close" = some (some (.ref f__law_close)))
    (l__law_close : K.lookup f__law_close = some ⟨oc__law_close, od__law_close, .func (PySem.W.fnOf "_law_close" "_law_close" (defArgs s__law_close) (defBody s__law_close) (defScope s__law_close) .none kV__law_close dc__law_close pm__law_close an__law_close cd__law_close ct__law_close), sl__law_close⟩)
    (e__law_close : PySem.W.codeIn K cd__law_close "_law_close" = true)
    (k__law_close : PySem.W.keepIn K (.ref f__law_close) = true)
    (a__law_reason : PySem.W.nsIn K mainGlobals "_law_reason" = some (some (.ref f__law_reason)))
    (l__law_reason : K.lookup f__law_reason = some ⟨oc__law_reason, od__law_reason, .func (PySem.W.fnOf "_law_reason" "_law_reason" (defArgs s__law_reason) (defBody s__law_reason) (defScope s__law_reason) .none kV__law_reason dc__law_reason pm__law_reason an__law_reason cd__law_reason ct__law_reason), sl__law_reason⟩)
    (e__law_reason : PySem.W.codeIn K cd__law_reason "_law_reason" = true)
    (k__law_reason : PySem.W.keepIn K (.ref f__law_reason) = true)
    (a__law_apply : PySem.W.nsIn K mainGlobals "_law_apply" = some (some (.ref f__law_apply)))
    (l__law_apply : K.lookup f__law_apply = some ⟨oc__law_apply, od__law_apply, .func (PySem.W.fnOf "_law_apply" "_law_apply" (defArgs s__law_apply) (defBody s__law_apply) (defScope s__law_apply) .none kV__law_apply dc__law_apply pm__law_apply an__law_apply cd__law_apply ct__law_apply), sl__law_apply⟩)
    (e__law_apply : PySem.W.codeIn K cd__law_apply "_law_apply" = true)
    (k__law_apply : PySem.W.keepIn K (.ref f__law_apply) = true)
    (a__law_same : PySem.W.nsIn K mainGlobals "_law_same" = some (some (.ref f__law_same)))
    (l__law_same : K.lookup f__law_same = some ⟨oc__law_same, od__law_same, .func (PySem.W.fnOf "_law_same" "_law_same" (defArgs s__law_same) (defBody s__law_same) (defScope s__law_same) .none kV__law_same dc__law_same pm__law_same an__law_same cd__law_same ct__law_same), sl__law_same⟩)
    (e__law_same : PySem.W.codeIn K cd__law_same "_law_same" = true)
    (k__law_same : PySem.W.keepIn K (.ref f__law_same) = true)
    (a__law_strange : PySem.W.nsIn K mainGlobals "_law_strange" = some (some (.ref f__law_strange)))
    (l__law_strange : K.lookup f__law_strange = some ⟨oc__law_strange, od__law_strange, .func (PySem.W.fnOf "_law_strange" "_law_strange" (defArgs s__law_strange) (defBody s__law_strange) (defScope s__law_strange) .none kV__law_strange dc__law_strange pm__law_strange an__law_strange cd__law_strange ct__law_strange), sl__law_strange⟩)
    (e__law_strange : PySem.W.codeIn K cd__law_strange "_law_strange" = true)
    (k__law_strange : PySem.W.keepIn K (.ref f__law_strange) = true)
    (a__law_missing : PySem.W.nsIn K mainGlobals "_law_missing" = some (some (.ref f__law_missing)))
    (l__law_missing : K.lookup f__law_missing = some ⟨oc__law_missing, od__law_missing, .func (PySem.W.fnOf "_law_missing" "_law_missing" (defArgs s__law_missing) (defBody s__law_missing) (defScope s__law_missing) .none kV__law_missing dc__law_missing pm__law_missing an__law_missing cd__law_missing ct__law_missing), sl__law_missing⟩)
    (e__law_missing : PySem.W.codeIn K cd__law_missing "_law_missing" = true)
    (k__law_missing : PySem.W.keepIn K (.ref f__law_missing) = true)
    (a_law : PySem.W.nsIn K mainGlobals "law" = some (some (.ref f_law)))
    (l_law : K.lookup f_law = some ⟨oc_law, od_law, .func (PySem.W.fnOf "law" "law" (defArgs s_law) (defBody s_law) (defScope s_law) .none kV_law dc_law pm_law an_law cd_law ct_law), sl_law⟩)
    (e_law : PySem.W.codeIn K cd_law "law" = true)
    (k_law : PySem.W.keepIn K (.ref f_law) = true)
    (ac_Accounts : PySem.W.nsIn K mainGlobals "Accounts" = some (some (.ref C_Accounts)))
    (pg_Accounts : PySem.W.plainGet K C_Accounts Str.empty = true)
    (hd_Accounts : PySem.W.hasDictIn K C_Accounts = true)
    (po_Accounts : PySem.W.plainOver K C_Accounts = true)
    (sa_Accounts : PySem.W.findIn K (.ref C_Accounts) "__setattr__" = some (some (.builtin "object.__setattr__")))
    (mk_Accounts : PySem.W.makesIn K C_Accounts = true)
    (kc_Accounts : PySem.W.keepIn K (.ref C_Accounts) = true)
    (na_Accounts__owners : PySem.W.findIn K (.ref C_Accounts) "_owners" = some none)
    (na_Accounts__balances : PySem.W.findIn K (.ref C_Accounts) "_balances" = some none)
    (na_Accounts__holds : PySem.W.findIn K (.ref C_Accounts) "_holds" = some none)
    (na_Accounts__supply : PySem.W.findIn K (.ref C_Accounts) "_supply" = some none)
    (a_Accounts____init__ : PySem.W.findIn K (.ref C_Accounts) "__init__" = some (some (.ref f_Accounts____init__)))
    (i_Accounts____init__ : PySem.W.isFn K (.ref f_Accounts____init__) = true)
    (l_Accounts____init__ : K.lookup f_Accounts____init__ = some ⟨oc_Accounts____init__, od_Accounts____init__, .func (PySem.W.fnOf "__init__" "Accounts.__init__" (defArgs s_Accounts____init__) (defBody s_Accounts____init__) (defScope s_Accounts____init__) .none kV_Accounts____init__ dc_Accounts____init__ pm_Accounts____init__ an_Accounts____init__ cd_Accounts____init__ ct_Accounts____init__), sl_Accounts____init__⟩)
    (e_Accounts____init__ : PySem.W.codeIn K cd_Accounts____init__ "Accounts.__init__" = true)
    (k_Accounts____init__ : PySem.W.keepIn K (.ref f_Accounts____init__) = true)
    (a_Accounts__create : PySem.W.findIn K (.ref C_Accounts) "create" = some (some (.ref f_Accounts__create)))
    (i_Accounts__create : PySem.W.isFn K (.ref f_Accounts__create) = true)
    (l_Accounts__create : K.lookup f_Accounts__create = some ⟨oc_Accounts__create, od_Accounts__create, .func (PySem.W.fnOf "create" "Accounts.create" (defArgs s_Accounts__create) (defBody s_Accounts__create) (defScope s_Accounts__create) .none kV_Accounts__create dc_Accounts__create pm_Accounts__create an_Accounts__create cd_Accounts__create ct_Accounts__create), sl_Accounts__create⟩)
    (e_Accounts__create : PySem.W.codeIn K cd_Accounts__create "Accounts.create" = true)
    (k_Accounts__create : PySem.W.keepIn K (.ref f_Accounts__create) = true)
    (a_Accounts__close : PySem.W.findIn K (.ref C_Accounts) "close" = some (some (.ref f_Accounts__close)))
    (i_Accounts__close : PySem.W.isFn K (.ref f_Accounts__close) = true)
    (l_Accounts__close : K.lookup f_Accounts__close = some ⟨oc_Accounts__close, od_Accounts__close, .func (PySem.W.fnOf "close" "Accounts.close" (defArgs s_Accounts__close) (defBody s_Accounts__close) (defScope s_Accounts__close) .none kV_Accounts__close dc_Accounts__close pm_Accounts__close an_Accounts__close cd_Accounts__close ct_Accounts__close), sl_Accounts__close⟩)
    (e_Accounts__close : PySem.W.codeIn K cd_Accounts__close "Accounts.close" = true)
    (k_Accounts__close : PySem.W.keepIn K (.ref f_Accounts__close) = true)
    (a_Accounts__issue : PySem.W.findIn K (.ref C_Accounts) "issue" = some (some (.ref f_Accounts__issue)))
    (i_Accounts__issue : PySem.W.isFn K (.ref f_Accounts__issue) = true)
    (l_Accounts__issue : K.lookup f_Accounts__issue = some ⟨oc_Accounts__issue, od_Accounts__issue, .func (PySem.W.fnOf "issue" "Accounts.issue" (defArgs s_Accounts__issue) (defBody s_Accounts__issue) (defScope s_Accounts__issue) .none kV_Accounts__issue dc_Accounts__issue pm_Accounts__issue an_Accounts__issue cd_Accounts__issue ct_Accounts__issue), sl_Accounts__issue⟩)
    (e_Accounts__issue : PySem.W.codeIn K cd_Accounts__issue "Accounts.issue" = true)
    (k_Accounts__issue : PySem.W.keepIn K (.ref f_Accounts__issue) = true)
    (a_Accounts__burn : PySem.W.findIn K (.ref C_Accounts) "burn" = some (some (.ref f_Accounts__burn)))
    (i_Accounts__burn : PySem.W.isFn K (.ref f_Accounts__burn) = true)
    (l_Accounts__burn : K.lookup f_Accounts__burn = some ⟨oc_Accounts__burn, od_Accounts__burn, .func (PySem.W.fnOf "burn" "Accounts.burn" (defArgs s_Accounts__burn) (defBody s_Accounts__burn) (defScope s_Accounts__burn) .none kV_Accounts__burn dc_Accounts__burn pm_Accounts__burn an_Accounts__burn cd_Accounts__burn ct_Accounts__burn), sl_Accounts__burn⟩)
    (e_Accounts__burn : PySem.W.codeIn K cd_Accounts__burn "Accounts.burn" = true)
    (k_Accounts__burn : PySem.W.keepIn K (.ref f_Accounts__burn) = true)
    (a_Accounts__pay : PySem.W.findIn K (.ref C_Accounts) "pay" = some (some (.ref f_Accounts__pay)))
    (i_Accounts__pay : PySem.W.isFn K (.ref f_Accounts__pay) = true)
    (l_Accounts__pay : K.lookup f_Accounts__pay = some ⟨oc_Accounts__pay, od_Accounts__pay, .func (PySem.W.fnOf "pay" "Accounts.pay" (defArgs s_Accounts__pay) (defBody s_Accounts__pay) (defScope s_Accounts__pay) .none kV_Accounts__pay dc_Accounts__pay pm_Accounts__pay an_Accounts__pay cd_Accounts__pay ct_Accounts__pay), sl_Accounts__pay⟩)
    (e_Accounts__pay : PySem.W.codeIn K cd_Accounts__pay "Accounts.pay" = true)
    (k_Accounts__pay : PySem.W.keepIn K (.ref f_Accounts__pay) = true)
    (a_Accounts__hold : PySem.W.findIn K (.ref C_Accounts) "hold" = some (some (.ref f_Accounts__hold)))
    (i_Accounts__hold : PySem.W.isFn K (.ref f_Accounts__hold) = true)
    (l_Accounts__hold : K.lookup f_Accounts__hold = some ⟨oc_Accounts__hold, od_Accounts__hold, .func (PySem.W.fnOf "hold" "Accounts.hold" (defArgs s_Accounts__hold) (defBody s_Accounts__hold) (defScope s_Accounts__hold) .none kV_Accounts__hold dc_Accounts__hold pm_Accounts__hold an_Accounts__hold cd_Accounts__hold ct_Accounts__hold), sl_Accounts__hold⟩)
    (e_Accounts__hold : PySem.W.codeIn K cd_Accounts__hold "Accounts.hold" = true)
    (k_Accounts__hold : PySem.W.keepIn K (.ref f_Accounts__hold) = true)
    (a_Accounts__settle : PySem.W.findIn K (.ref C_Accounts) "settle" = some (some (.ref f_Accounts__settle)))
    (i_Accounts__settle : PySem.W.isFn K (.ref f_Accounts__settle) = true)
    (l_Accounts__settle : K.lookup f_Accounts__settle = some ⟨oc_Accounts__settle, od_Accounts__settle, .func (PySem.W.fnOf "settle" "Accounts.settle" (defArgs s_Accounts__settle) (defBody s_Accounts__settle) (defScope s_Accounts__settle) .none kV_Accounts__settle dc_Accounts__settle pm_Accounts__settle an_Accounts__settle cd_Accounts__settle ct_Accounts__settle), sl_Accounts__settle⟩)
    (e_Accounts__settle : PySem.W.codeIn K cd_Accounts__settle "Accounts.settle" = true)
    (k_Accounts__settle : PySem.W.keepIn K (.ref f_Accounts__settle) = true)
    (a_Accounts__release : PySem.W.findIn K (.ref C_Accounts) "release" = some (some (.ref f_Accounts__release)))
    (i_Accounts__release : PySem.W.isFn K (.ref f_Accounts__release) = true)
    (l_Accounts__release : K.lookup f_Accounts__release = some ⟨oc_Accounts__release, od_Accounts__release, .func (PySem.W.fnOf "release" "Accounts.release" (defArgs s_Accounts__release) (defBody s_Accounts__release) (defScope s_Accounts__release) .none kV_Accounts__release dc_Accounts__release pm_Accounts__release an_Accounts__release cd_Accounts__release ct_Accounts__release), sl_Accounts__release⟩)
    (e_Accounts__release : PySem.W.codeIn K cd_Accounts__release "Accounts.release" = true)
    (k_Accounts__release : PySem.W.keepIn K (.ref f_Accounts__release) = true)
    (a_Accounts__balance : PySem.W.findIn K (.ref C_Accounts) "balance" = some (some (.ref f_Accounts__balance)))
    (i_Accounts__balance : PySem.W.isFn K (.ref f_Accounts__balance) = true)
    (l_Accounts__balance : K.lookup f_Accounts__balance = some ⟨oc_Accounts__balance, od_Accounts__balance, .func (PySem.W.fnOf "balance" "Accounts.balance" (defArgs s_Accounts__balance) (defBody s_Accounts__balance) (defScope s_Accounts__balance) .none kV_Accounts__balance dc_Accounts__balance pm_Accounts__balance an_Accounts__balance cd_Accounts__balance ct_Accounts__balance), sl_Accounts__balance⟩)
    (e_Accounts__balance : PySem.W.codeIn K cd_Accounts__balance "Accounts.balance" = true)
    (k_Accounts__balance : PySem.W.keepIn K (.ref f_Accounts__balance) = true)
    (a_Accounts__owner : PySem.W.findIn K (.ref C_Accounts) "owner" = some (some (.ref f_Accounts__owner)))
    (i_Accounts__owner : PySem.W.isFn K (.ref f_Accounts__owner) = true)
    (l_Accounts__owner : K.lookup f_Accounts__owner = some ⟨oc_Accounts__owner, od_Accounts__owner, .func (PySem.W.fnOf "owner" "Accounts.owner" (defArgs s_Accounts__owner) (defBody s_Accounts__owner) (defScope s_Accounts__owner) .none kV_Accounts__owner dc_Accounts__owner pm_Accounts__owner an_Accounts__owner cd_Accounts__owner ct_Accounts__owner), sl_Accounts__owner⟩)
    (e_Accounts__owner : PySem.W.codeIn K cd_Accounts__owner "Accounts.owner" = true)
    (k_Accounts__owner : PySem.W.keepIn K (.ref f_Accounts__owner) = true)
    (a_Accounts__supply : PySem.W.findIn K (.ref C_Accounts) "supply" = some (some (.ref f_Accounts__supply)))
    (i_Accounts__supply : PySem.W.isFn K (.ref f_Accounts__supply) = true)
    (l_Accounts__supply : K.lookup f_Accounts__supply = some ⟨oc_Accounts__supply, od_Accounts__supply, .func (PySem.W.fnOf "supply" "Accounts.supply" (defArgs s_Accounts__supply) (defBody s_Accounts__supply) (defScope s_Accounts__supply) .none kV_Accounts__supply dc_Accounts__supply pm_Accounts__supply an_Accounts__supply cd_Accounts__supply ct_Accounts__supply), sl_Accounts__supply⟩)
    (e_Accounts__supply : PySem.W.codeIn K cd_Accounts__supply "Accounts.supply" = true)
    (k_Accounts__supply : PySem.W.keepIn K (.ref f_Accounts__supply) = true)
    (a_Accounts__rows : PySem.W.findIn K (.ref C_Accounts) "rows" = some (some (.ref f_Accounts__rows)))
    (i_Accounts__rows : PySem.W.isFn K (.ref f_Accounts__rows) = true)
    (l_Accounts__rows : K.lookup f_Accounts__rows = some ⟨oc_Accounts__rows, od_Accounts__rows, .func (PySem.W.fnOf "rows" "Accounts.rows" (defArgs s_Accounts__rows) (defBody s_Accounts__rows) (defScope s_Accounts__rows) .none kV_Accounts__rows dc_Accounts__rows pm_Accounts__rows an_Accounts__rows cd_Accounts__rows ct_Accounts__rows), sl_Accounts__rows⟩)
    (e_Accounts__rows : PySem.W.codeIn K cd_Accounts__rows "Accounts.rows" = true)
    (k_Accounts__rows : PySem.W.keepIn K (.ref f_Accounts__rows) = true)
    (a_Accounts__held : PySem.W.findIn K (.ref C_Accounts) "held" = some (some (.ref f_Accounts__held)))
    (i_Accounts__held : PySem.W.isFn K (.ref f_Accounts__held) = true)
    (l_Accounts__held : K.lookup f_Accounts__held = some ⟨oc_Accounts__held, od_Accounts__held, .func (PySem.W.fnOf "held" "Accounts.held" (defArgs s_Accounts__held) (defBody s_Accounts__held) (defScope s_Accounts__held) .none kV_Accounts__held dc_Accounts__held pm_Accounts__held an_Accounts__held cd_Accounts__held ct_Accounts__held), sl_Accounts__held⟩)
    (e_Accounts__held : PySem.W.codeIn K cd_Accounts__held "Accounts.held" = true)
    (k_Accounts__held : PySem.W.keepIn K (.ref f_Accounts__held) = true)
    (a_Accounts___check : PySem.W.findIn K (.ref C_Accounts) "_check" = some (some (.ref f_Accounts___check)))
    (i_Accounts___check : PySem.W.isFn K (.ref f_Accounts___check) = true)
    (l_Accounts___check : K.lookup f_Accounts___check = some ⟨oc_Accounts___check, od_Accounts___check, .func (PySem.W.fnOf "_check" "Accounts._check" (defArgs s_Accounts___check) (defBody s_Accounts___check) (defScope s_Accounts___check) .none kV_Accounts___check dc_Accounts___check pm_Accounts___check an_Accounts___check cd_Accounts___check ct_Accounts___check), sl_Accounts___check⟩)
    (e_Accounts___check : PySem.W.codeIn K cd_Accounts___check "Accounts._check" = true)
    (k_Accounts___check : PySem.W.keepIn K (.ref f_Accounts___check) = true)
    (a_Accounts___check_owner : PySem.W.findIn K (.ref C_Accounts) "_check_owner" = some (some (.ref f_Accounts___check_owner)))
    (i_Accounts___check_owner : PySem.W.isFn K (.ref f_Accounts___check_owner) = true)
    (l_Accounts___check_owner : K.lookup f_Accounts___check_owner = some ⟨oc_Accounts___check_owner, od_Accounts___check_owner, .func (PySem.W.fnOf "_check_owner" "Accounts._check_owner" (defArgs s_Accounts___check_owner) (defBody s_Accounts___check_owner) (defScope s_Accounts___check_owner) .none kV_Accounts___check_owner dc_Accounts___check_owner pm_Accounts___check_owner an_Accounts___check_owner cd_Accounts___check_owner ct_Accounts___check_owner), sl_Accounts___check_owner⟩)
    (e_Accounts___check_owner : PySem.W.codeIn K cd_Accounts___check_owner "Accounts._check_owner" = true)
    (k_Accounts___check_owner : PySem.W.keepIn K (.ref f_Accounts___check_owner) = true)
    (a_Accounts___check_funds : PySem.W.findIn K (.ref C_Accounts) "_check_funds" = some (some (.ref f_Accounts___check_funds)))
    (i_Accounts___check_funds : PySem.W.isFn K (.ref f_Accounts___check_funds) = true)
    (l_Accounts___check_funds : K.lookup f_Accounts___check_funds = some ⟨oc_Accounts___check_funds, od_Accounts___check_funds, .func (PySem.W.fnOf "_check_funds" "Accounts._check_funds" (defArgs s_Accounts___check_funds) (defBody s_Accounts___check_funds) (defScope s_Accounts___check_funds) .none kV_Accounts___check_funds dc_Accounts___check_funds pm_Accounts___check_funds an_Accounts___check_funds cd_Accounts___check_funds ct_Accounts___check_funds), sl_Accounts___check_funds⟩)
    (e_Accounts___check_funds : PySem.W.codeIn K cd_Accounts___check_funds "Accounts._check_funds" = true)
    (k_Accounts___check_funds : PySem.W.keepIn K (.ref f_Accounts___check_funds) = true)
    (a_Accounts___check_payment : PySem.W.findIn K (.ref C_Accounts) "_check_payment" = some (some (.ref f_Accounts___check_payment)))
    (i_Accounts___check_payment : PySem.W.isFn K (.ref f_Accounts___check_payment) = true)
    (l_Accounts___check_payment : K.lookup f_Accounts___check_payment = some ⟨oc_Accounts___check_payment, od_Accounts___check_payment, .func (PySem.W.fnOf "_check_payment" "Accounts._check_payment" (defArgs s_Accounts___check_payment) (defBody s_Accounts___check_payment) (defScope s_Accounts___check_payment) .none kV_Accounts___check_payment dc_Accounts___check_payment pm_Accounts___check_payment an_Accounts___check_payment cd_Accounts___check_payment ct_Accounts___check_payment), sl_Accounts___check_payment⟩)
    (e_Accounts___check_payment : PySem.W.codeIn K cd_Accounts___check_payment "Accounts._check_payment" = true)
    (k_Accounts___check_payment : PySem.W.keepIn K (.ref f_Accounts___check_payment) = true)
    (a_Accounts___hold_of : PySem.W.findIn K (.ref C_Accounts) "_hold_of" = some (some (.ref f_Accounts___hold_of)))
    (i_Accounts___hold_of : PySem.W.isFn K (.ref f_Accounts___hold_of) = true)
    (l_Accounts___hold_of : K.lookup f_Accounts___hold_of = some ⟨oc_Accounts___hold_of, od_Accounts___hold_of, .func (PySem.W.fnOf "_hold_of" "Accounts._hold_of" (defArgs s_Accounts___hold_of) (defBody s_Accounts___hold_of) (defScope s_Accounts___hold_of) .none kV_Accounts___hold_of dc_Accounts___hold_of pm_Accounts___hold_of an_Accounts___hold_of cd_Accounts___hold_of ct_Accounts___hold_of), sl_Accounts___hold_of⟩)
    (e_Accounts___hold_of : PySem.W.codeIn K cd_Accounts___hold_of "Accounts._hold_of" = true)
    (k_Accounts___hold_of : PySem.W.keepIn K (.ref f_Accounts___hold_of) = true)
    (a_Accounts___is_held : PySem.W.findIn K (.ref C_Accounts) "_is_held" = some (some (.ref f_Accounts___is_held)))
    (i_Accounts___is_held : PySem.W.isFn K (.ref f_Accounts___is_held) = true)
    (l_Accounts___is_held : K.lookup f_Accounts___is_held = some ⟨oc_Accounts___is_held, od_Accounts___is_held, .func (PySem.W.fnOf "_is_held" "Accounts._is_held" (defArgs s_Accounts___is_held) (defBody s_Accounts___is_held) (defScope s_Accounts___is_held) .none kV_Accounts___is_held dc_Accounts___is_held pm_Accounts___is_held an_Accounts___is_held cd_Accounts___is_held ct_Accounts___is_held), sl_Accounts___is_held⟩)
    (e_Accounts___is_held : PySem.W.codeIn K cd_Accounts___is_held "Accounts._is_held" = true)
    (k_Accounts___is_held : PySem.W.keepIn K (.ref f_Accounts___is_held) = true)
    (xa_LedgerError : PySem.W.nsIn K mainGlobals "LedgerError" = some (some (.ref C_LedgerError)))
    (xe_LedgerError : PySem.W.excIn K C_LedgerError [.type "ValueError", .type "Exception", .type "BaseException", .type "object"] "ValueError.__new__" = true)
    (xk_LedgerError : PySem.W.keepIn K (.ref C_LedgerError) = true)
    (xb_LedgerError : PySem.W.subIn K (.ref C_LedgerError) (.type "BaseException") = some true)
    (xt_LedgerError : PySem.W.typeIn K (.ref C_LedgerError) = some (.type "type"))
    (xh_LedgerError : PySem.W.hasDictIn K C_LedgerError = true)
    (xa_Refused : PySem.W.nsIn K mainGlobals "Refused" = some (some (.ref C_Refused)))
    (xl_Refused : K.lookup C_Refused = some (excClassObj nm_Refused qn_Refused C_Refused NN_Refused bs_Refused bm_Refused true sn_Refused sub_Refused ab_Refused col_Refused dd_Refused m0_Refused m1_Refused m2_Refused m3_Refused m5_Refused "ValueError.__new__"))
    (xr_Refused : PySem.HandSPX.refsVE bm_Refused = true)
    (xs_Refused : PySem.W.findIn K (.ref C_Refused) "__setattr__" = some (some (.builtin "object.__setattr__")))
    (xk_Refused : PySem.W.keepIn K (.ref C_Refused) = true)
    (xb_Refused : PySem.W.subIn K (.ref C_Refused) (.type "BaseException") = some true)
    (xt_Refused : PySem.W.typeIn K (.ref C_Refused) = some (.type "type"))
    (xh_Refused : PySem.W.hasDictIn K C_Refused = true)
    (xg_Refused : PySem.W.findIn K (.ref C_Refused) "__getattribute__" = some (some (.builtin "BaseException.__getattribute__")))
    (xq_Refused : PySem.W.findIn K (.ref C_Refused) "__getattr__" = some none)
    (xn_Refused_reason : PySem.W.findIn K (.ref C_Refused) "reason" = some none)
    (a_Refused____init__ : PySem.W.findIn K (.ref C_Refused) "__init__" = some (some (.ref f_Refused____init__)))
    (ty_Refused____init__ : PySem.W.typeIn K (.ref f_Refused____init__) = some (.type "function"))
    (l_Refused____init__ : K.lookup f_Refused____init__ = some ⟨oc_Refused____init__, od_Refused____init__, .func (PySem.W.fnOf "__init__" "Refused.__init__" (defArgs s_Refused____init__) (defBody s_Refused____init__) (defScope s_Refused____init__) .none kV_Refused____init__ dc_Refused____init__ pm_Refused____init__ an_Refused____init__ cd_Refused____init__ ct_Refused____init__), sl_Refused____init__⟩)
    (e_Refused____init__ : PySem.W.codeIn K cd_Refused____init__ "Refused.__init__" = true)
    (k_Refused____init__ : PySem.W.keepIn K (.ref f_Refused____init__) = true)
    (ehg_Refused : PySem.W.findIn K (.ref C_Refused) "__getattribute__" = some (some (.builtin "BaseException.__getattribute__")))
    (ehk_Refused : PySem.W.findIn K (.ref C_Refused) "__getattr__" = some none)
    (eha_Refused : PySem.W.findIn K (.ref C_Refused) "__class__" = some (some (.builtin "object.__class__")))
    (ehm_Refused : PySem.W.mroIn K C_Refused (.type "object") = some true)
    (ehn_Refused : PySem.W.specialIn K (.builtin "object.__class__") "__get__" = some (some (.builtin "getset_descriptor.__get__")))
    (eht_Refused : PySem.W.takesIn K (.builtin "object.__class__") = some true)
    (skt_Refused_ValueError : PySem.W.subIn K (.ref C_Refused) (.type "ValueError") = some true)
    (skt_Refused_Refused : PySem.W.subIn K (.ref C_Refused) (.ref C_Refused) = some true)
    (u_Refused_Refused : PySem.W.subIn K (.ref C_Refused) (.ref C_Refused) = some true)
    (u_Refused_LedgerError : PySem.W.subIn K (.ref C_Refused) (.ref C_LedgerError) = some true)
    (a_ACCOUNT_LIMIT : PySem.W.nsIn K mainGlobals "ACCOUNT_LIMIT" = some (some (.int 100 t_ACCOUNT_LIMIT)))
    (a_HOLD_LIMIT : PySem.W.nsIn K mainGlobals "HOLD_LIMIT" = some (some (.int 100 t_HOLD_LIMIT)))
    (a_MINT : PySem.W.nsIn K mainGlobals "MINT" = some (some (.int (-1) t_MINT)))
    (a_SUPPLY_LIMIT : PySem.W.nsIn K mainGlobals "SUPPLY_LIMIT" = some (some (.int 1000000000000000 t_SUPPLY_LIMIT)))
    (z_ValueError : PySem.W.nsIn K mainGlobals "ValueError" = some none)
    (z_any : PySem.W.nsIn K mainGlobals "any" = some none)
    (z_int : PySem.W.nsIn K mainGlobals "int" = some none)
    (z_isinstance : PySem.W.nsIn K mainGlobals "isinstance" = some none)
    (z_len : PySem.W.nsIn K mainGlobals "len" = some none)
    (z_list : PySem.W.nsIn K mainGlobals "list" = some none)
    (z_range : PySem.W.nsIn K mainGlobals "range" = some none)
    (z_sorted : PySem.W.nsIn K mainGlobals "sorted" = some none)
    (z_sum : PySem.W.nsIn K mainGlobals "sum" = some none) : Txt K mg C_Accounts C_LedgerError C_Refused :=
  { d__law_word := ⟨_, _, (fun_mk l__law_word e__law_word k__law_word), PySem.W.mg_of X G a__law_word, ((fun_mk (st := s__law_word) l__law_word e__law_word k__law_word).binds (ps := ["size", "chars", "seed", "step"]) fun _ _ _ _ _ _ us hl => match us, hl with | [_, _, _, _], _ => rfl)⟩,
    d__law_name := ⟨_, _, (fun_mk l__law_name e__law_name k__law_name), PySem.W.mg_of X G a__law_name, ((fun_mk (st := s__law_name) l__law_name e__law_name k__law_name).binds (ps := ["cell"]) fun _ _ _ _ _ _ us hl => match us, hl with | [_], _ => rfl)⟩,
    d__law_key := ⟨_, _, (fun_mk l__law_key e__law_key k__law_key), PySem.W.mg_of X G a__law_key, ((fun_mk (st := s__law_key) l__law_key e__law_key k__law_key).binds (ps := ["cell"]) fun _ _ _ _ _ _ us hl => match us, hl with | [_], _ => rfl)⟩,
    d__law_amount := ⟨_, _, (fun_mk l__law_amount e__law_amount k__law_amount), PySem.W.mg_of X G a__law_amount, ((fun_mk (st := s__law_amount) l__law_amount e__law_amount k__law_amount).binds (ps := ["cell"]) fun _ _ _ _ _ _ us hl => match us, hl with | [_], _ => rfl)⟩,
    d__law_rich := ⟨_, _, (fun_mk l__law_rich e__law_rich k__law_rich), PySem.W.mg_of X G a__law_rich, ((fun_mk (st := s__law_rich) l__law_rich e__law_rich k__law_rich).binds (ps := ["cell", "k"]) fun _ _ _ _ _ _ us hl => match us, hl with | [_, _], _ => rfl)⟩,
    d__law_op := ⟨_, _, (fun_mk l__law_op e__law_op k__law_op), PySem.W.mg_of X G a__law_op, ((fun_mk (st := s__law_op) l__law_op e__law_op k__law_op).binds (ps := ["cell", "k"]) fun _ _ _ _ _ _ us hl => match us, hl with | [_, _], _ => rfl)⟩,
    d__law_call := ⟨_, _, (fun_mk l__law_call e__law_call k__law_call), PySem.W.mg_of X G a__law_call, ((fun_mk (st := s__law_call) l__law_call e__law_call k__law_call).binds (ps := ["accounts", "op"]) fun _ _ _ _ _ _ us hl => match us, hl with | [_, _], _ => rfl)⟩,
    d__law_funds := ⟨_, _, (fun_mk l__law_funds e__law_funds k__law_funds), PySem.W.mg_of X G a__law_funds, ((fun_mk (st := s__law_funds) l__law_funds e__law_funds k__law_funds).binds (ps := ["model", "client", "name", "amount"]) fun _ _ _ _ _ _ us hl => match us, hl with | [_, _, _, _], _ => rfl)⟩,
    d__law_payment := ⟨_, _, (fun_mk l__law_payment e__law_payment k__law_payment), PySem.W.mg_of X G a__law_payment, ((fun_mk (st := s__law_payment) l__law_payment e__law_payment k__law_payment).binds (ps := ["model", "op"]) fun _ _ _ _ _ _ us hl => match us, hl with | [_, _], _ => rfl)⟩,
    d__law_close := ⟨_, _, (fun_mk l__law_close e__law_close k__law_close), PySem.W.mg_of X G a__law_close, ((fun_mk (st := s__law_close) l__law_close e__law_close k__law_close).binds (ps := ["model", "op"]) fun _ _ _ _ _ _ us hl => match us, hl with | [_, _], _ => rfl)⟩,
    d__law_reason := ⟨_, _, (fun_mk l__law_reason e__law_reason k__law_reason), PySem.W.mg_of X G a__law_reason, ((fun_mk (st := s__law_reason) l__law_reason e__law_reason k__law_reason).binds (ps := ["model", "op"]) fun _ _ _ _ _ _ us hl => match us, hl with | [_, _], _ => rfl)⟩,
    d__law_apply := ⟨_, _, (fun_mk l__law_apply e__law_apply k__law_apply), PySem.W.mg_of X G a__law_apply, ((fun_mk (st := s__law_apply) l__law_apply e__law_apply k__law_apply).binds (ps := ["model", "op"]) fun _ _ _ _ _ _ us hl => match us, hl with | [_, _], _ => rfl)⟩,
    d__law_same := ⟨_, _, (fun_mk l__law_same e__law_same k__law_same), PySem.W.mg_of X G a__law_same, ((fun_mk (st := s__law_same) l__law_same e__law_same k__law_same).binds (ps := ["accounts", "model"]) fun _ _ _ _ _ _ us hl => match us, hl with | [_, _], _ => rfl)⟩,
    d__law_strange := ⟨_, _, (fun_mk l__law_strange e__law_strange k__law_strange), PySem.W.mg_of X G a__law_strange, ((fun_mk (st := s__law_strange) l__law_strange e__law_strange k__law_strange).binds (ps := ["model"]) fun _ _ _ _ _ _ us hl => match us, hl with | [_], _ => rfl)⟩,
    d__law_missing := ⟨_, _, (fun_mk l__law_missing e__law_missing k__law_missing), PySem.W.mg_of X G a__law_missing, ((fun_mk (st := s__law_missing) l__law_missing e__law_missing k__law_missing).binds (ps := ["accounts", "name"]) fun _ _ _ _ _ _ us hl => match us, hl with | [_, _], _ => rfl)⟩,
    d_law := ⟨_, _, (fun_mk l_law e_law k_law), PySem.W.mg_of X G a_law, ((fun_mk (st := s_law) l_law e_law k_law).binds (ps := ["script"]) fun _ _ _ _ _ _ us hl => match us, hl with | [_], _ => rfl)⟩,
    cl_Accounts := ⟨pg_Accounts, hd_Accounts, po_Accounts, sa_Accounts⟩,
    g_Accounts := PySem.W.mg_of X G ac_Accounts,
    na_Accounts__owners := na_Accounts__owners,
    na_Accounts__balances := na_Accounts__balances,
    na_Accounts__holds := na_Accounts__holds,
    na_Accounts__supply := na_Accounts__supply,
    mk_Accounts := ⟨_, _, ⟨mk_Accounts, a_Accounts____init__, i_Accounts____init__, kc_Accounts⟩, (fun_mk l_Accounts____init__ e_Accounts____init__ k_Accounts____init__), ((fun_mk (st := s_Accounts____init__) l_Accounts____init__ e_Accounts____init__ k_Accounts____init__).binds (ps := ["self"]) fun _ _ _ _ _ _ us hl => match us, hl with | [_], _ => rfl)⟩,
    me_Accounts__create := ⟨_, _, ⟨a_Accounts__create, i_Accounts__create, k_Accounts__create⟩, (fun_mk l_Accounts__create e_Accounts__create k_Accounts__create), ((fun_mk (st := s_Accounts__create) l_Accounts__create e_Accounts__create k_Accounts__create).binds (ps := ["self", "client", "name"]) fun _ _ _ _ _ _ us hl => match us, hl with | [_, _, _], _ => rfl)⟩,
    me_Accounts__close := ⟨_, _, ⟨a_Accounts__close, i_Accounts__close, k_Accounts__close⟩, (fun_mk l_Accounts__close e_Accounts__close k_Accounts__close), ((fun_mk (st := s_Accounts__close) l_Accounts__close e_Accounts__close k_Accounts__close).binds (ps := ["self", "client", "name"]) fun _ _ _ _ _ _ us hl => match us, hl with | [_, _, _], _ => rfl)⟩,
    me_Accounts__issue := ⟨_, _, ⟨a_Accounts__issue, i_Accounts__issue, k_Accounts__issue⟩, (fun_mk l_Accounts__issue e_Accounts__issue k_Accounts__issue), ((fun_mk (st := s_Accounts__issue) l_Accounts__issue e_Accounts__issue k_Accounts__issue).binds (ps := ["self", "client", "name", "amount"]) fun _ _ _ _ _ _ us hl => match us, hl with | [_, _, _, _], _ => rfl)⟩,
    me_Accounts__burn := ⟨_, _, ⟨a_Accounts__burn, i_Accounts__burn, k_Accounts__burn⟩, (fun_mk l_Accounts__burn e_Accounts__burn k_Accounts__burn), ((fun_mk (st := s_Accounts__burn) l_Accounts__burn e_Accounts__burn k_Accounts__burn).binds (ps := ["self", "client", "name", "amount"]) fun _ _ _ _ _ _ us hl => match us, hl with | [_, _, _, _], _ => rfl)⟩,
    me_Accounts__pay := ⟨_, _, ⟨a_Accounts__pay, i_Accounts__pay, k_Accounts__pay⟩, (fun_mk l_Accounts__pay e_Accounts__pay k_Accounts__pay), ((fun_mk (st := s_Accounts__pay) l_Accounts__pay e_Accounts__pay k_Accounts__pay).binds (ps := ["self", "client", "source", "target", "amount"]) fun _ _ _ _ _ _ us hl => match us, hl with | [_, _, _, _, _], _ => rfl)⟩,
    me_Accounts__hold := ⟨_, _, ⟨a_Accounts__hold, i_Accounts__hold, k_Accounts__hold⟩, (fun_mk l_Accounts__hold e_Accounts__hold k_Accounts__hold), ((fun_mk (st := s_Accounts__hold) l_Accounts__hold e_Accounts__hold k_Accounts__hold).binds (ps := ["self", "client", "source", "target", "amount", "key"]) fun _ _ _ _ _ _ us hl => match us, hl with | [_, _, _, _, _, _], _ => rfl)⟩,
    me_Accounts__settle := ⟨_, _, ⟨a_Accounts__settle, i_Accounts__settle, k_Accounts__settle⟩, (fun_mk l_Accounts__settle e_Accounts__settle k_Accounts__settle), ((fun_mk (st := s_Accounts__settle) l_Accounts__settle e_Accounts__settle k_Accounts__settle).binds (ps := ["self", "client", "key"]) fun _ _ _ _ _ _ us hl => match us, hl with | [_, _, _], _ => rfl)⟩,
    me_Accounts__release := ⟨_, _, ⟨a_Accounts__release, i_Accounts__release, k_Accounts__release⟩, (fun_mk l_Accounts__release e_Accounts__release k_Accounts__release), ((fun_mk (st := s_Accounts__release) l_Accounts__release e_Accounts__release k_Accounts__release).binds (ps := ["self", "client", "key"]) fun _ _ _ _ _ _ us hl => match us, hl with | [_, _, _], _ => rfl)⟩,
    me_Accounts__balance := ⟨_, _, ⟨a_Accounts__balance, i_Accounts__balance, k_Accounts__balance⟩, (fun_mk l_Accounts__balance e_Accounts__balance k_Accounts__balance), ((fun_mk (st := s_Accounts__balance) l_Accounts__balance e_Accounts__balance k_Accounts__balance).binds (ps := ["self", "name"]) fun _ _ _ _ _ _ us hl => match us, hl with | [_, _], _ => rfl)⟩,
    me_Accounts__owner := ⟨_, _, ⟨a_Accounts__owner, i_Accounts__owner, k_Accounts__owner⟩, (fun_mk l_Accounts__owner e_Accounts__owner k_Accounts__owner), ((fun_mk (st := s_Accounts__owner) l_Accounts__owner e_Accounts__owner k_Accounts__owner).binds (ps := ["self", "name"]) fun _ _ _ _ _ _ us hl => match us, hl with | [_, _], _ => rfl)⟩,
    me_Accounts__supply := ⟨_, _, ⟨a_Accounts__supply, i_Accounts__supply, k_Accounts__supply⟩, (fun_mk l_Accounts__supply e_Accounts__supply k_Accounts__supply), ((fun_mk (st := s_Accounts__supply) l_Accounts__supply e_Accounts__supply k_Accounts__supply).binds (ps := ["self"]) fun _ _ _ _ _ _ us hl => match us, hl with | [_], _ => rfl)⟩,
    me_Accounts__rows := ⟨_, _, ⟨a_Accounts__rows, i_Accounts__rows, k_Accounts__rows⟩, (fun_mk l_Accounts__rows e_Accounts__rows k_Accounts__rows), ((fun_mk (st := s_Accounts__rows) l_Accounts__rows e_Accounts__rows k_Accounts__rows).binds (ps := ["self"]) fun _ _ _ _ _ _ us hl => match us, hl with | [_], _ => rfl)⟩,
    me_Accounts__held := ⟨_, _, ⟨a_Accounts__held, i_Accounts__held, k_Accounts__held⟩, (fun_mk l_Accounts__held e_Accounts__held k_Accounts__held), ((fun_mk (st := s_Accounts__held) l_Accounts__held e_Accounts__held k_Accounts__held).binds (ps := ["self"]) fun _ _ _ _ _ _ us hl => match us, hl with | [_], _ => rfl)⟩,
    me_Accounts___check := ⟨_, _, ⟨a_Accounts___check, i_Accounts___check, k_Accounts___check⟩, (fun_mk l_Accounts___check e_Accounts___check k_Accounts___check), ((fun_mk (st := s_Accounts___check) l_Accounts___check e_Accounts___check k_Accounts___check).binds (ps := ["self", "name"]) fun _ _ _ _ _ _ us hl => match us, hl with | [_, _], _ => rfl)⟩,
    me_Accounts___check_owner := ⟨_, _, ⟨a_Accounts___check_owner, i_Accounts___check_owner, k_Accounts___check_owner⟩, (fun_mk l_Accounts___check_owner e_Accounts___check_owner k_Accounts___check_owner), ((fun_mk (st := s_Accounts___check_owner) l_Accounts___check_owner e_Accounts___check_owner k_Accounts___check_owner).binds (ps := ["self", "client", "name"]) fun _ _ _ _ _ _ us hl => match us, hl with | [_, _, _], _ => rfl)⟩,
    me_Accounts___check_funds := ⟨_, _, ⟨a_Accounts___check_funds, i_Accounts___check_funds, k_Accounts___check_funds⟩, (fun_mk l_Accounts___check_funds e_Accounts___check_funds k_Accounts___check_funds), ((fun_mk (st := s_Accounts___check_funds) l_Accounts___check_funds e_Accounts___check_funds k_Accounts___check_funds).binds (ps := ["self", "name", "amount"]) fun _ _ _ _ _ _ us hl => match us, hl with | [_, _, _], _ => rfl)⟩,
    me_Accounts___check_payment := ⟨_, _, ⟨a_Accounts___check_payment, i_Accounts___check_payment, k_Accounts___check_payment⟩, (fun_mk l_Accounts___check_payment e_Accounts___check_payment k_Accounts___check_payment), ((fun_mk (st := s_Accounts___check_payment) l_Accounts___check_payment e_Accounts___check_payment k_Accounts___check_payment).binds (ps := ["self", "client", "source", "target", "amount"]) fun _ _ _ _ _ _ us hl => match us, hl with | [_, _, _, _, _], _ => rfl)⟩,
    me_Accounts___hold_of := ⟨_, _, ⟨a_Accounts___hold_of, i_Accounts___hold_of, k_Accounts___hold_of⟩, (fun_mk l_Accounts___hold_of e_Accounts___hold_of k_Accounts___hold_of), ((fun_mk (st := s_Accounts___hold_of) l_Accounts___hold_of e_Accounts___hold_of k_Accounts___hold_of).binds (ps := ["self", "key"]) fun _ _ _ _ _ _ us hl => match us, hl with | [_, _], _ => rfl)⟩,
    me_Accounts___is_held := ⟨_, _, ⟨a_Accounts___is_held, i_Accounts___is_held, k_Accounts___is_held⟩, (fun_mk l_Accounts___is_held e_Accounts___is_held k_Accounts___is_held), ((fun_mk (st := s_Accounts___is_held) l_Accounts___is_held e_Accounts___is_held k_Accounts___is_held).binds (ps := ["self", "name"]) fun _ _ _ _ _ _ us hl => match us, hl with | [_, _], _ => rfl)⟩,
    x_LedgerError := ⟨xe_LedgerError, PySem.W.mg_of X G xa_LedgerError, xk_LedgerError, xb_LedgerError, xt_LedgerError, xh_LedgerError⟩,
    x_Refused := ⟨PySem.W.mg_of X G xa_Refused, ⟨⟨_, _, _, _, _, _, _, _, _, _, _, _, _, _, _, xl_Refused, xr_Refused⟩, xs_Refused, xb_Refused, xt_Refused, xk_Refused⟩, ⟨xg_Refused, xq_Refused, xb_Refused, xh_Refused⟩⟩,
    xn_Refused_reason := xn_Refused_reason,
    ei_Refused := ⟨_, _, a_Refused____init__, ty_Refused____init__, (fun_mk l_Refused____init__ e_Refused____init__ k_Refused____init__), ((fun_mk (st := s_Refused____init__) l_Refused____init__ e_Refused____init__ k_Refused____init__).binds (ps := ["self", "reason"]) fun _ _ _ _ _ _ us hl => match us, hl with | [_, _], _ => rfl)⟩,
    ec_Refused := ⟨ehg_Refused, ehk_Refused, xb_Refused, xh_Refused, eha_Refused, ehn_Refused, eht_Refused, ehm_Refused⟩,
    kt_Refused_ValueError := kit_ty (by decide +kernel) skt_Refused_ValueError,
    kt_Refused_Refused := kit_own xb_Refused xt_Refused skt_Refused_Refused,
    u_Refused_Refused := u_Refused_Refused,
    u_Refused_LedgerError := u_Refused_LedgerError,
    c_ACCOUNT_LIMIT := ⟨_, PySem.W.mg_of X G a_ACCOUNT_LIMIT, _, rfl⟩,
    c_HOLD_LIMIT := ⟨_, PySem.W.mg_of X G a_HOLD_LIMIT, _, rfl⟩,
    c_MINT := ⟨_, PySem.W.mg_of X G a_MINT, _, rfl⟩,
    c_SUPPLY_LIMIT := ⟨_, PySem.W.mg_of X G a_SUPPLY_LIMIT, _, rfl⟩,
    z_ValueError := PySem.W.mg_none_of X G z_ValueError,
    z_any := PySem.W.mg_none_of X G z_any,
    z_int := PySem.W.mg_none_of X G z_int,
    z_isinstance := PySem.W.mg_none_of X G z_isinstance,
    z_len := PySem.W.mg_none_of X G z_len,
    z_list := PySem.W.mg_none_of X G z_list,
    z_range := PySem.W.mg_none_of X G z_range,
    z_sorted := PySem.W.mg_none_of X G z_sorted,
    z_sum := PySem.W.mg_none_of X G z_sum }
end Law
open PySem PySem.W PyProof.Rows
set_option maxRecDepth 100000 in
set_option maxHeartbeats 0 in
theorem PySem.Challenge.cw_oathledger_k46_accounts_step_by_step_holds : PySem.Challenge.rw_oathledger_k46_accounts_step_by_step.Holds := by
  w_on; o_law; k_head; (case hw => w_witness2)
  k_fill
  refine L2.walk_of (l := PySem.Challenge.rw_oathledger_k46_accounts_step_by_step) (n := 63) (k := 10) (x := "script") (CX := fun _ => L2.CX0) (sp := fun w => Law.spLaw _) rfl (by decide) rfl ⟨rfl, by decide, by decide⟩ (fun w h Y => PySem.W.kIn_of Y) ?F (fun _ _ a ns hl _ hS => ⟨a, ns, rfl, hS, hl, fun _ => rfl⟩) (fun _ _ _ _ _ h => h)
  case F =>
    intro w mg fa h KX G hmg
    refine' Law.fin hmg (Law.all_mk KX G ?a__law_word ?l__law_word ?e__law_word ?k__law_word ?a__law_name ?l__law_name ?e__law_name ?k__law_name ?a__law_key ?l__law_key ?e__law_key ?k__law_key ?a__law_amount ?l__law_amount ?e__law_amount ?k__law_amount ?a__law_rich ?l__law_rich ?e__law_rich ?k__law_rich ?a__law_op ?l__law_op ?e__law_op ?k__law_op ?a__law_call ?l__law_call ?e__law_call ?k__law_call ?a__law_funds ?l__law_funds ?e__law_funds ?k__law_funds ?a__law_payment ?l__law_payment ?e__law_payment ?k__law_payment ?a__law_close ?l__law_close ?e__law_close ?k__law_close ?a__law_reason ?l__law_reason ?e__law_reason ?k__law_reason ?a__law_apply ?l__law_apply ?e__law_apply ?k__law_apply ?a__law_same ?l__law_same ?e__law_same ?k__law_same ?a__law_strange ?l__law_strange ?e__law_strange ?k__law_strange ?a__law_missing ?l__law_missing ?e__law_missing ?k__law_missing ?a_law ?l_law ?e_law ?k_law ?ac_Accounts ?pg_Accounts ?hd_Accounts ?po_Accounts ?sa_Accounts ?mk_Accounts ?kc_Accounts ?na_Accounts__owners ?na_Accounts__balances ?na_Accounts__holds ?na_Accounts__supply ?a_Accounts____init__ ?i_Accounts____init__ ?l_Accounts____init__ ?e_Accounts____init__ ?k_Accounts____init__ ?a_Accounts__create ?i_Accounts__create ?l_Accounts__create ?e_Accounts__create ?k_Accounts__create ?a_Accounts__close ?i_Accounts__close ?l_Accounts__close ?e_Accounts__close ?k_Accounts__close ?a_Accounts__issue ?i_Accounts__issue ?l_Accounts__issue ?e_Accounts__issue ?k_Accounts__issue ?a_Accounts__burn ?i_Accounts__burn ?l_Accounts__burn ?e_Accounts__burn ?k_Accounts__burn ?a_Accounts__pay ?i_Accounts__pay ?l_Accounts__pay ?e_Accounts__pay ?k_Accounts__pay ?a_Accounts__hold ?i_Accounts__hold ?l_Accounts__hold ?e_Accounts__hold ?k_Accounts__hold ?a_Accounts__settle ?i_Accounts__settle ?l_Accounts__settle ?e_Accounts__settle ?k_Accounts__settle ?a_Accounts__release ?i_Accounts__release ?l_Accounts__release ?e_Accounts__release ?k_Accounts__release ?a_Accounts__balance ?i_Accounts__balance ?l_Accounts__balance ?e_Accounts__balance ?k_Accounts__balance ?a_Accounts__owner ?i_Accounts__owner ?l_Accounts__owner ?e_Accounts__owner ?k_Accounts__owner ?a_Accounts__supply ?i_Accounts__supply ?l_Accounts__supply ?e_Accounts__supply ?k_Accounts__supply ?a_Accounts__rows ?i_Accounts__rows ?l_Accounts__rows ?e_Accounts__rows ?k_Accounts__rows ?a_Accounts__held ?i_Accounts__held ?l_Accounts__held ?e_Accounts__held ?k_Accounts__held ?a_Accounts___check ?i_Accounts___check ?l_Accounts___check ?e_Accounts___check ?k_Accounts___check ?a_Accounts___check_owner ?i_Accounts___check_owner ?l_Accounts___check_owner ?e_Accounts___check_owner ?k_Accounts___check_owner ?a_Accounts___check_funds ?i_Accounts___check_funds ?l_Accounts___check_funds ?e_Accounts___check_funds ?k_Accounts___check_funds ?a_Accounts___check_payment ?i_Accounts___check_payment ?l_Accounts___check_payment ?e_Accounts___check_payment ?k_Accounts___check_payment ?a_Accounts___hold_of ?i_Accounts___hold_of ?l_Accounts___hold_of ?e_Accounts___hold_of ?k_Accounts___hold_of ?a_Accounts___is_held ?i_Accounts___is_held ?l_Accounts___is_held ?e_Accounts___is_held ?k_Accounts___is_held ?xa_LedgerError ?xe_LedgerError ?xk_LedgerError ?xb_LedgerError ?xt_LedgerError ?xh_LedgerError ?xa_Refused ?xl_Refused ?xr_Refused ?xs_Refused ?xk_Refused ?xb_Refused ?xt_Refused ?xh_Refused ?xg_Refused ?xq_Refused ?xn_Refused_reason ?a_Refused____init__ ?ty_Refused____init__ ?l_Refused____init__ ?e_Refused____init__ ?k_Refused____init__ ?ehg_Refused ?ehk_Refused ?eha_Refused ?ehm_Refused ?ehn_Refused ?eht_Refused ?skt_Refused_ValueError ?skt_Refused_Refused ?u_Refused_Refused ?u_Refused_LedgerError ?a_ACCOUNT_LIMIT ?a_HOLD_LIMIT ?a_MINT ?a_SUPPLY_LIMIT ?z_ValueError ?z_any ?z_int ?z_isinstance ?z_len ?z_list ?z_range ?z_sorted ?z_sum)
    (case a__law_word => k_is)
    (case l__law_word => k_is)
    (case e__law_word => k_is)
    (case k__law_word => k_is)
    (case a__law_name => k_is)
    (case l__law_name => k_is)
    (case e__law_name => k_is)
    (case k__law_name => k_is)
    (case a__law_key => k_is)
    (case l__law_key => k_is)
    (case e__law_key => k_is)
    (case k__law_key => k_is)
    (case a__law_amount => k_is)
    (case l__law_amount => k_is)
    (case e__law_amount => k_is)
    (case k__law_amount => k_is)
    (case a__law_rich => k_is)
    (case l__law_rich => k_is)
    (case e__law_rich => k_is)
    (case k__law_rich => k_is)
    (case a__law_op => k_is)
    (case l__law_op => k_is)
    (case e__law_op => k_is)
    (case k__law_op => k_is)
    (case a__law_call => k_is)
    (case l__law_call => k_is)
    (case e__law_call => k_is)
    (case k__law_call => k_is)
    (case a__law_funds => k_is)
    (case l__law_funds => k_is)
    (case e__law_funds => k_is)
    (case k__law_funds => k_is)
    (case a__law_payment => k_is)
    (case l__law_payment => k_is)
    (case e__law_payment => k_is)
    (case k__law_payment => k_is)
    (case a__law_close => k_is)
    (case l__law_close => k_is)
    (case e__law_close => k_is)
    (case k__law_close => k_is)
    (case a__law_reason => k_is)
    (case l__law_reason => k_is)
    (case e__law_reason => k_is)
    (case k__law_reason => k_is)
    (case a__law_apply => k_is)
    (case l__law_apply => k_is)
    (case e__law_apply => k_is)
    (case k__law_apply => k_is)
    (case a__law_same => k_is)
    (case l__law_same => k_is)
    (case e__law_same => k_is)
    (case k__law_same => k_is)
    (case a__law_strange => k_is)
    (case l__law_strange => k_is)
    (case e__law_strange => k_is)
    (case k__law_strange => k_is)
    (case a__law_missing => k_is)
    (case l__law_missing => k_is)
    (case e__law_missing => k_is)
    (case k__law_missing => k_is)
    (case a_law => k_is)
    (case l_law => k_is)
    (case e_law => k_is)
    (case k_law => k_is)
    (case ac_Accounts => k_is)
    (case pg_Accounts => k_is)
    (case hd_Accounts => k_is)
    (case po_Accounts => k_is)
    (case sa_Accounts => k_is)
    (case mk_Accounts => k_is)
    (case kc_Accounts => k_is)
    (case na_Accounts__owners => k_is)
    (case na_Accounts__balances => k_is)
    (case na_Accounts__holds => k_is)
    (case na_Accounts__supply => k_is)
    (case a_Accounts____init__ => k_is)
    (case i_Accounts____init__ => k_is)
    (case l_Accounts____init__ => k_is)
    (case e_Accounts____init__ => k_is)
    (case k_Accounts____init__ => k_is)
    (case a_Accounts__create => k_is)
    (case i_Accounts__create => k_is)
    (case l_Accounts__create => k_is)
    (case e_Accounts__create => k_is)
    (case k_Accounts__create => k_is)
    (case a_Accounts__close => k_is)
    (case i_Accounts__close => k_is)
    (case l_Accounts__close => k_is)
    (case e_Accounts__close => k_is)
    (case k_Accounts__close => k_is)
    (case a_Accounts__issue => k_is)
    (case i_Accounts__issue => k_is)
    (case l_Accounts__issue => k_is)
    (case e_Accounts__issue => k_is)
    (case k_Accounts__issue => k_is)
    (case a_Accounts__burn => k_is)
    (case i_Accounts__burn => k_is)
    (case l_Accounts__burn => k_is)
    (case e_Accounts__burn => k_is)
    (case k_Accounts__burn => k_is)
    (case a_Accounts__pay => k_is)
    (case i_Accounts__pay => k_is)
    (case l_Accounts__pay => k_is)
    (case e_Accounts__pay => k_is)
    (case k_Accounts__pay => k_is)
    (case a_Accounts__hold => k_is)
    (case i_Accounts__hold => k_is)
    (case l_Accounts__hold => k_is)
    (case e_Accounts__hold => k_is)
    (case k_Accounts__hold => k_is)
    (case a_Accounts__settle => k_is)
    (case i_Accounts__settle => k_is)
    (case l_Accounts__settle => k_is)
    (case e_Accounts__settle => k_is)
    (case k_Accounts__settle => k_is)
    (case a_Accounts__release => k_is)
    (case i_Accounts__release => k_is)
    (case l_Accounts__release => k_is)
    (case e_Accounts__release => k_is)
    (case k_Accounts__release => k_is)
    (case a_Accounts__balance => k_is)
    (case i_Accounts__balance => k_is)
    (case l_Accounts__balance => k_is)
    (case e_Accounts__balance => k_is)
    (case k_Accounts__balance => k_is)
    (case a_Accounts__owner => k_is)
    (case i_Accounts__owner => k_is)
    (case l_Accounts__owner => k_is)
    (case e_Accounts__owner => k_is)
    (case k_Accounts__owner => k_is)
    (case a_Accounts__supply => k_is)
    (case i_Accounts__supply => k_is)
    (case l_Accounts__supply => k_is)
    (case e_Accounts__supply => k_is)
    (case k_Accounts__supply => k_is)
    (case a_Accounts__rows => k_is)
    (case i_Accounts__rows => k_is)
    (case l_Accounts__rows => k_is)
    (case e_Accounts__rows => k_is)
    (case k_Accounts__rows => k_is)
    (case a_Accounts__held => k_is)
    (case i_Accounts__held => k_is)
    (case l_Accounts__held => k_is)
    (case e_Accounts__held => k_is)
    (case k_Accounts__held => k_is)
    (case a_Accounts___check => k_is)
    (case i_Accounts___check => k_is)
    (case l_Accounts___check => k_is)
    (case e_Accounts___check => k_is)
    (case k_Accounts___check => k_is)
    (case a_Accounts___check_owner => k_is)
    (case i_Accounts___check_owner => k_is)
    (case l_Accounts___check_owner => k_is)
    (case e_Accounts___check_owner => k_is)
    (case k_Accounts___check_owner => k_is)
    (case a_Accounts___check_funds => k_is)
    (case i_Accounts___check_funds => k_is)
    (case l_Accounts___check_funds => k_is)
    (case e_Accounts___check_funds => k_is)
    (case k_Accounts___check_funds => k_is)
    (case a_Accounts___check_payment => k_is)
    (case i_Accounts___check_payment => k_is)
    (case l_Accounts___check_payment => k_is)
    (case e_Accounts___check_payment => k_is)
    (case k_Accounts___check_payment => k_is)
    (case a_Accounts___hold_of => k_is)
    (case i_Accounts___hold_of => k_is)
    (case l_Accounts___hold_of => k_is)
    (case e_Accounts___hold_of => k_is)
    (case k_Accounts___hold_of => k_is)
    (case a_Accounts___is_held => k_is)
    (case i_Accounts___is_held => k_is)
    (case l_Accounts___is_held => k_is)
    (case e_Accounts___is_held => k_is)
    (case k_Accounts___is_held => k_is)
    (case xa_LedgerError => k_is)
    (case xe_LedgerError => first | k_is | k_exc)
    (case xk_LedgerError => k_is)
    (case xb_LedgerError => k_is)
    (case xt_LedgerError => k_is)
    (case xh_LedgerError => k_is)
    (case xa_Refused => k_is)
    (case xl_Refused => k_is)
    (case xr_Refused => decide +kernel)
    (case xs_Refused => k_is)
    (case xk_Refused => k_is)
    (case xb_Refused => k_is)
    (case xt_Refused => k_is)
    (case xh_Refused => k_is)
    (case xg_Refused => k_is)
    (case xq_Refused => k_is)
    (case xn_Refused_reason => k_is)
    (case a_Refused____init__ => k_is)
    (case ty_Refused____init__ => k_is)
    (case l_Refused____init__ => k_is)
    (case e_Refused____init__ => k_is)
    (case k_Refused____init__ => k_is)
    (case ehg_Refused => k_is)
    (case ehk_Refused => k_is)
    (case eha_Refused => k_is)
    (case ehm_Refused => k_is)
    (case ehn_Refused => k_is)
    (case eht_Refused => k_is)
    (case skt_Refused_ValueError => k_is)
    (case skt_Refused_Refused => k_is)
    (case u_Refused_Refused => k_is)
    (case u_Refused_LedgerError => k_is)
    (case a_ACCOUNT_LIMIT => k_is)
    (case a_HOLD_LIMIT => k_is)
    (case a_MINT => k_is)
    (case a_SUPPLY_LIMIT => k_is)
    (case z_ValueError => k_is)
    (case z_any => k_is)
    (case z_int => k_is)
    (case z_isinstance => k_is)
    (case z_len => k_is)
    (case z_list => k_is)
    (case z_range => k_is)
    (case z_sorted => k_is)
    (case z_sum => k_is)

