import PyProof.Rows.All
import Wide.All
import OpenK.AllK
import Wide.FinOn
import HandS.ForMost
import HandS.Walk
import HandS.Flow
import HandS.Codes
import HandS.IsInst
import HandS.Conv
import HandS.StrMore
import PyProof.MeetsSeq2
import PyProof.DictTable
import HandS.Wide
import HandS.TupAny
import HandS.More
import HandS.Dict
import HandS.ForExc
import HandS.ExcIs
import HandS.ExcField
import HandS.DeepEq
import HandS.TupLe
import HandS.Steps
import HandS.ExcInit
import HandS.HotCalls
import HandS.SortRule
import HandS.SortKw
import HandS.Keys
import KE.SortKeyHeap
import KE.DataMinMax
import KE.SortData
import HandS.RaiseMore
import HandS.Zip
import HandS.DictSubView
import HandS.Deep
import HandS.Sort
import HandS.SetKeys
import HandS.Strs
import HandS.SetFor
import HandS.DictComp
import HandS.Style
import PySem.Challenge.RW_oathledger_k00_errors_and_limits
set_option Elab.async false
set_option linter.all false
set_option maxRecDepth 100000
set_option maxHeartbeats 4000000
namespace Law
open PySem PySem.Spec PyProof.Rows L2
open C8 (Cal Met Mak pe_c pe_mk pe_mt pe_mt0 pe_gc pss_cut tCut)
/-! ### a def of the top, by its name -/
structure DefOk (K : PySem.W.Frag) (mg : Str → Option Value) (x : Str) (st : Stmt) (ps : List Str) : Prop where
  ex : ∃ (f : Addr) (fd : FuncData), L2.Fun K x x st f fd ∧ mg x = some (.ref f) ∧ Binds K fd ps []
section
variable {P : Program} {w : World} {K : PySem.W.Frag} {mg : Str → Option Value} {base : Heap}
/-- a def's promise, by its body -/
theorem cal {x : Str} {st : Stmt} {N ps : List Str} {k : Nat} {sp : Sp} (D : DefOk K mg x st ps) (S : FnScope N ps (defScope st)) (len : ∀ vs H Q E, sp vs H Q E → vs.length = ps.length)
    (hbody : ∀ (f : Addr) (cdv : Value) (A : Around) (outer : List Env) (s : Shared) (H : Hp) (vs : List V) (Q : VK) (E : XK), Room k (A.deeper (envOfC x (defScope st) s.heap.objs.size f cdv)) → sp vs H Q E →
      ∃ t, PSs (cxOf L2.CX0 P w K mg base N x (defScope st) f cdv A outer s H E).nox (defBody st) t ∧ t { nx := fun _ H' => Q .non H', rt := Q } (start N vs) H) : Cal P w K mg base (k + 1) x sp [] := by
  obtain ⟨f, fd, F, hm, b⟩ := D.ex
  exact ⟨f, fd, ps, [], F.ok S len (fun cdv A outer s H vs Q E hr h => hbody f cdv A outer s H vs Q E hr h), hm, F.kp, b, .nil⟩
/-- a call without arguments -/
theorem pe_c0 {X : Cx} {k j : Nat} {x : Str} {sp : Sp} {dvs : List V} {p pos : Pos} (c : Cal X.prog X.w X.K X.mg X.base k x sp dvs) (hr : Room j X.A) (hk : k ≤ j) (hg : Gl X x)
    (hdb : (x == ("__debug__" : Str)) = false := by decide) : PE X (.Call (.Name x p) [] [] pos) (tCall sp dvs L2.E0 tNil) := by
  obtain ⟨f, fd, ps, ds, F, hm, kp, b, d⟩ := c.ex
  exact pe_call0 F (hr.mono hk) hg hm kp b d pass0 hdb
end
/-! ### small things -/
theorem same_upd {H : Hp} {p : Addr} {o : HO} (h : H p = none) : Same H (upd H p o) := fun b x e => by
  rw [upd_ne (ne_of_none e h)]
  exact e
theorem same_mut {H H' : Hp} {p : Addr} {o : HO} (s : Same H H') (h : H p = none) : Same H (upd H' p o) := fun b x e => by
  rw [upd_ne (ne_of_none e h)]
  exact s b x e
theorem sz1000 {n : Nat} (h : n ≤ 100000) : n ≤ sizeLine := Nat.le_trans h (by decide)
theorem sz1000' {n : Nat} (h : n < 100000) : n < sizeLine := Nat.lt_of_lt_of_le h (by decide)
theorem sz1000'' {n : Nat} (h : n ≤ 16777216) : n ≤ sizeLine := by rw [sizeLine_eq]; exact h
theorem sq {K : PySem.W.Frag} {H : Hp} {a : Addr} {xs : List V} (h : H a = some (.lst xs)) : SqL K H a xs := .inl (.inl h)
def spLaw (K : PySem.W.Frag) : Sp := fun vs H Q _ => ∃ (a : Addr) (ns : List Int), vs = [.ref a] ∧ SqL K H a (ns.map V.int) ∧ ns.length ≤ 63 ∧ ∀ H', Q (.bl true) H'
/-! ### the reading, step by step -/
local macro_rules | `(tactic| walk_at "sd") => `(tactic| first
  | omega
  | decide
  | assumption
  | (show _ ∨ _; exact Or.inl ⟨by omega, by omega⟩)
  | (show _ ∨ _; exact Or.inr ⟨by omega, by omega⟩)
  | (show _ ∧ _; exact ⟨by omega, by omega⟩)
  | (show _ ∧ _; exact ⟨by decide, by decide⟩)
  | exact sz1000 (by omega)
  | exact sz1000' (by omega))
local macro_rules | `(tactic| walk_at "sz") => `(tactic| first
  | exact sz1000 (Nat.le_of_ble_eq_true rfl)
  | exact sz1000 (by omega)
  | exact sz1000'' (by omega)
  | assumption)
/-- one step of a reading: a slot, an operator upon numbers, a call upon values -/
local macro_rules | `(tactic| walk_at "rd") => `(tactic| first
  | refine ⟨_, (rfl : (_ : List (Option V))[_]? = some (some _)), ?_⟩
  | refine ⟨_, _, (rfl : (_ : V) = _), (rfl : (_ : V) = _), (by walk_at "sd" : (_ : Prop)), ?_⟩
  | refine ⟨_, _, (rfl : (_ : V) = _), (rfl : (_ : V) = _), ?_⟩
  | refine ⟨_, (rfl : (_ : List V) = _), (by walk_at "sd" : (_ : Prop)), (by walk_at "sd" : (_ : Prop)), ?_⟩
  | refine ⟨_, (rfl : (_ : List V) = _), ?_⟩
  | refine ⟨_, (rfl : (_ : V) = _), ?_⟩
  | refine .inl ⟨_, (rfl : (_ : List V) = _), ?_⟩
  | refine ⟨⟨_, (rfl : (_ : V) = _)⟩, ?_⟩
  | refine ⟨(rfl : scal _ _ = true), ?_⟩
  | refine ⟨(rfl : V.non = V.non), ?_⟩
  | refine ⟨(by walk_at "sz" : (_ ≤ sizeLine)), ?_⟩)
local macro_rules | `(tactic| walk_at "rds") => `(tactic| repeat walk_at "rd")
theorem tyes {σ : L2.St} {H : Hp} {A B : Hp → Prop} (h : A H) : tYes σ H (fun b H3 => if b = true then A H3 else B H3) := by
  show (if true = true then A H else B H)
  rw [if_pos rfl]
  exact h
theorem sum_ones {ys : List Str} (h : ∀ y ∈ ys, y.length = 1) : (ys.map (fun x => x.length)).sum = ys.length := by
  induction ys with
  | nil => rfl
  | cons y r ih =>
    rw [List.map_cons, List.sum_cons, ih (fun z hz => h z (List.mem_cons_of_mem _ hz)), h y List.mem_cons_self, List.length_cons]
    omega
theorem chr_at {z : Str} {i : Int} (h0 : 0 ≤ i) (h1 : i < z.length) : ∃ c, atI z.cps.toList i = some c := by
  obtain ⟨j, rfl⟩ := Int.eq_ofNat_of_zero_le h0
  have hj : j < z.cps.toList.length := by
    rw [Array.length_toList]
    exact Int.ofNat_lt.mp h1
  exact ⟨z.cps.toList[j], atI_nat (List.getElem?_eq_getElem hj)⟩
/-- what an append to a tracked new list leaves -/
theorem lst_app {α : Type} {H : Hp} {D : Addr} {f : α → V} {ys : List α} {y : α} : upd H D (.lst (ys.map f ++ [f y])) D = some (.lst ((ys ++ [y]).map f)) := by
  rw [upd_same, List.map_append]
  rfl
theorem rg40 {n : Nat} (h : n ≤ 100000) : RgC 0 n 40 ((n + 39) / 40) := by
  have e : Builtin.Range.rangeSize 0 (n : Int) 40 = (((n + 39) / 40 : Nat) : Int) := by
    rw [rangeSize_pos (by decide) (by omega)]
    omega
  refine ⟨by decide, by decide, ?_, e⟩
  unfold Builtin.Range.small
  rw [e]
  unfold Builtin.Range.rangeFitsLong
  simp
  omega
theorem isi {K : PySem.W.Frag} {H : Hp} {x : V} {T1 T2 : String} {b : Bool} {Q : VK} (ty : TyX K H x (.type T1)) (e : kitB T1 T2 = some b) (q : Q (.bl b) H) : rIsi K [x, .ty T2] H Q :=
  ⟨x, .ty T2, _, _, b, rfl, .ty _, ty, kit_ty e, q⟩
theorem ifT {c : Bool} {A B : Prop} (hc : c = true) (h : A) : if c = true then A else B := by
  rw [if_pos hc]
  exact h
theorem ifF {c : Bool} {A B : Prop} (hc : c = false) (h : B) : if c = true then A else B := by
  rw [if_neg (by rw [hc]; decide)]
  exact h
local macro_rules | `(tactic| walk_at "isk") => `(tactic| first
  | exact .base (.int _) | exact .base (.str _) | exact .base (.bl _) | exact .base .non
  | exact .base (.lst (by assumption)) | exact .base (.tup (by assumption)) | exact .base (.dK (by assumption)))
/-- isinstance(x, T) with a built-in T; the object's fact stands in the context -/
local macro_rules | `(tactic| walk_at "isi") => `(tactic| first
  | refine ⟨_, .ty _, _, _, true, (rfl : (_ : List V) = _), .ty _, (by walk_at "isk"), kit_ty (by decide +kernel), ?_⟩
  | refine ⟨_, .ty _, _, _, false, (rfl : (_ : List V) = _), .ty _, (by walk_at "isk"), kit_ty (by decide +kernel), ?_⟩)
/-! ### classes of the top -/
structure MethOk (K : PySem.W.Frag) (C : Addr) (m qual : Str) (st : Stmt) (ps : List Str) : Prop where
  ex : ∃ (f : Addr) (fd : FuncData), Meth K C m f ∧ L2.Fun K m qual st f fd ∧ Binds K fd ps []
structure MakOk (K : PySem.W.Frag) (C : Addr) (qual : Str) (st : Stmt) (ps : List Str) : Prop where
  ex : ∃ (f : Addr) (fd : FuncData), Mk K C f ∧ L2.Fun K "__init__" qual st f fd ∧ Binds K fd ps []
section
variable {P : Program} {w : World} {K : PySem.W.Frag} {mg : Str → Option Value} {base : Heap}
theorem met {C : Addr} {m qual : Str} {st : Stmt} {N ps : List Str} {k : Nat} {sp : Sp} (c : Cls K C) (D : MethOk K C m qual st ps) (S : FnScope N ps (defScope st)) (len : ∀ vs H Q E, sp vs H Q E → vs.length = ps.length)
    (hbody : ∀ (f : Addr) (cdv : Value) (A : Around) (outer : List Env) (s : Shared) (H : Hp) (vs : List V) (Q : VK) (E : XK), Room k (A.deeper (envOfC qual (defScope st) s.heap.objs.size f cdv)) → sp vs H Q E →
      ∃ t, PSs (cxOf L2.CX0 P w K mg base N qual (defScope st) f cdv A outer s H E).nox (defBody st) t ∧ t { nx := fun _ H' => Q .non H', rt := Q } (start N vs) H) : Met P w K mg base (k + 1) C m sp [] := by
  obtain ⟨f, fd, M, F, b⟩ := D.ex
  exact ⟨f, fd, ps, [], c, M, F.ok S len (fun cdv A outer s H vs Q E hr h => hbody f cdv A outer s H vs Q E hr h), b, .nil⟩
theorem mak {C : Addr} {x qual : Str} {st : Stmt} {N ps : List Str} {k : Nat} {sp : Sp} (hm : mg x = some (.ref C)) (D : MakOk K C qual st ps) (S : FnScope N ps (defScope st)) (len : ∀ vs H Q E, sp vs H Q E → vs.length = ps.length)
    (hbody : ∀ (f : Addr) (cdv : Value) (A : Around) (outer : List Env) (s : Shared) (H : Hp) (vs : List V) (Q : VK) (E : XK), Room k (A.deeper (envOfC qual (defScope st) s.heap.objs.size f cdv)) → sp vs H Q E →
      ∃ t, PSs (cxOf L2.CX0 P w K mg base N qual (defScope st) f cdv A outer s H E).nox (defBody st) t ∧ t { nx := fun _ H' => Q .non H', rt := Q } (start N vs) H) : Mak P w K mg base (k + 1) x C sp [] := by
  obtain ⟨f, fd, M, F, b⟩ := D.ex
  exact ⟨f, fd, ps, [], M, F.ok S len (fun cdv A outer s H vs Q E hr h => hbody f cdv A outer s H vs Q E hr h), hm, b, .nil⟩
end
/-- a tuple of the top, in the written part -/
def KTup (K : PySem.W.Frag) (a : Addr) (xs : List V) : Prop := ∃ o its n, K.lookup a = some o ∧ o.cls = Value.type "tuple" ∧ o.data = Data.seq its n ∧ its.size ≤ sizeLine ∧ Vals xs its.toList
theorem pe_mk0 {X : Cx} {k j : Nat} {x : Str} {C : Addr} {sp : Sp} {dvs : List V} {p pos : Pos} (c : Mak X.prog X.w X.K X.mg X.base k x C sp dvs) (hr : Room j X.A) (hk : k + 1 ≤ j) (hg : Gl X x)
    (hdb : (x == ("__debug__" : Str)) = false := by decide) : PE X (.Call (.Name x p) [] [] pos) (tMake C sp dvs L2.E0 tNil) := by
  obtain ⟨f, fd, ps, ds, M, F, hm, b, d⟩ := c.ex
  exact pe_make0 M F (hr.mono hk) hg hm b d pass0 hdb
/-! ### rules whose written part is named K (a comprehension's context is another one) -/
section
variable {X : Cx} {K : PySem.W.Frag}
theorem kin (h : X.K = K := by rfl) : OpR X (compareOp .In) (rIn K false) := by subst h; exact op_in_seq
theorem knin (h : X.K = K := by rfl) : OpR X (compareOp .NotIn) (rIn K true) := by subst h; exact op_notIn_seq
theorem kixl (h : X.K = K := by rfl) : IxR X (rIxL K) := by subst h; exact ix_list
theorem kixt (h : X.K = K := by rfl) : IxR X (rIxT K) := by subst h; exact ix_tup
theorem ksll (h : X.K = K := by rfl) : SlR X (rSlL K) := by subst h; exact sl_list
theorem kisi (h : X.K = K := by rfl) : CallR X (.builtin "isinstance") (rIsi K) := by subst h; exact call_isi
theorem kfld {o : Expr} {f : Str} {pos : Pos} {ta : TE} (he : PE X o ta) (hb : attributeBase o f X.env (eval o X.env) = eval o X.env := by rfl) (h : X.K = K := by rfl) : PE X (.Attribute o f pos) (tFld K ta f) := by subst h; exact pe_fld he hb
def rLenK (K : PySem.W.Frag) : List V → Hp → VK → Prop := fun xs H Q => ∃ p ys, xs = [.ref p] ∧ (SqL K H p ys ∨ SqT K H p ys) ∧ Q (.int ys.length) H
theorem klen (h : X.K = K := by rfl) : CallR X (.builtin "len") (rLenK K) := by subst h; exact call_len_seq
end
theorem hu1 {k : Nat} {A : Around} (hr : Room k A) : A.units + 1 < cLine := by have := hr.units; omega
section
variable {X : Cx}
theorem kdin {d : Addr} (h : ∃ es n, KDict X.K X.w d es n) : OpR X (compareOp .In) (fun x y H Q => ∃ (z : Str) (r : Option Value), x = .str z ∧ y = .ref d ∧ PySem.W.nsIn X.K d z = some r ∧ Q (.bl r.isSome) H) := by
  obtain ⟨es, n, D⟩ := h
  exact op_in_kd D
theorem kdnin {d : Addr} (h : ∃ es n, KDict X.K X.w d es n) : OpR X (compareOp .NotIn) (fun x y H Q => ∃ (z : Str) (r : Option Value), x = .str z ∧ y = .ref d ∧ PySem.W.nsIn X.K d z = some r ∧ Q (.bl (!r.isSome)) H) := by
  obtain ⟨es, n, D⟩ := h
  exact op_notIn_kd D
end
theorem kgtup {X : Cx} {K : PySem.W.Frag} {es : List Expr} {k : Nat} {t : TGs} {n : Nat} {pos : Pos} (hc : X.calm = true) (h : PGs X es t)
    (hn : (assignEach es X.env).length = n := by rfl) (hst : (assignEach es X.env).findIdx? (·.1) = none := by rfl) (hK : X.K = K := by rfl) : PG X (.Tuple es k pos) (gTup K n t) := by subst hK; exact pg_tup hc h hn hst
theorem hu65 {A : Around} {k : Nat} (hr : Room k A) : A.units + 65 < cLine := by have := hr.un; omega
theorem keqD {X : Cx} {K : PySem.W.Frag} (hu : X.A.units + 64 < cLine) (h : X.K = K := by rfl) : OpR X (compareOp .Eq) (rEqD K) := by subst h; exact op_eqD hu
theorem kneD {X : Cx} {K : PySem.W.Frag} (hu : X.A.units + 64 < cLine) (h : X.K = K := by rfl) : OpR X (compareOp .NotEq) (rNeD K) := by subst h; exact op_neD hu

/-! ### defs that raise own exceptions -/
theorem kit_tyB {K : PySem.W.Frag} {B : Addr} {T : String} (hm : PySem.W.kitMeta T = true) (h : PySem.W.subIn K (.ref B) (.type T) = some true) : PySem.W.kitOne K (.ref B) (.type T) = some true := by
  unfold PySem.W.kitOne
  rw [if_neg (by rw [show ((Value.ref B : Value) == .type T) = false from rfl]; exact Bool.false_ne_true)]
  show (if PySem.W.kitMeta T = true then PySem.W.subIn K (.ref B) (.type T) else none) = some true
  rw [if_pos hm]; exact h
theorem kit_own {K : PySem.W.Frag} {B C : Addr} (h1 : PySem.W.subIn K (.ref C) (.type "BaseException") = some true) (h2 : PySem.W.typeIn K (.ref C) = some (.type "type")) (h3 : PySem.W.subIn K (.ref B) (.ref C) = some true) : PySem.W.kitOne K (.ref B) (.ref C) = some true := by
  have h0 : (PySem.W.clsIn K C).isSome = true := by
    have h1 : PySem.W.mroIn K C (.type "BaseException") = some true := h1
    unfold PySem.W.mroIn at h1
    cases e : PySem.W.clsIn K C with
    | some _ => rfl
    | none => rw [e] at h1; cases h1
  unfold PySem.W.kitOne
  split
  · rfl
  · show (if ((PySem.W.clsIn K C).isSome && PySem.W.typeIn K (.ref C) == some (.type "type")) = true then PySem.W.subIn K (.ref B) (.ref C) else none) = some true
    rw [h0, h2, h3]
    rfl
section
variable {X : Cx}
/-- C() of an own exception class without an __init__ of its own -/
theorem pmk_own0 {x : Str} {C : Addr} {bmB : List Value} {B newId initId : String} {p pos : Pos} (F : ExcBaseFacts B newId initId bmB) (q : PySem.W.excIn X.K C bmB newId = true) (gC : X.mg x = some (.ref C)) (kC : PySem.W.keepIn X.K (.ref C) = true) (r : Raises X (.ref C)) (hg : Gl X x)
    (hdb : (x == ("__debug__" : Str)) = false := by decide) : PMk X (.Call (.Name x p) [] [] pos) (fun _ H Q => Q (.ref C) none H) := by
  intro pins s σ H Q I h
  refine wpAny_Call_Name_kw (ld_glob I hg gC ?_ hdb)
  refine PySem.W.callWith_K0 I.kIn kC ?_
  show wpAny _ _ (call (.ref C) []) _ _ _
  obtain ⟨bm, N, nm, qn, bs, hdct, sn, sub, ab, col, dd, k0, k1, k2, k3, k5, mN, hC, hN, hni, T⟩ := exc_obj I.kIn q
  refine wpAny_call_exc_subT F T hC hN hni (fun h' e hm => ?_) (Nat.zero_le _)
  exact mk_of I hm r h (I.hok.gone hm.new)
end
/-- an own exception class over ValueError -/
structure ExOk (K : PySem.W.Frag) (mg : Str → Option Value) (x : Str) (C : Addr) : Prop where
  ex : PySem.W.excIn K C [.type "ValueError", .type "Exception", .type "BaseException", .type "object"] "ValueError.__new__" = true
  g : mg x = some (.ref C)
  kp : PySem.W.keepIn K (.ref C) = true
  bp : PySem.W.subIn K (.ref C) (.type "BaseException") = some true
  tp : PySem.W.typeIn K (.ref C) = some (.type "type")
  hd : PySem.W.hasDictIn K C = true
theorem ExOk.exm {K : PySem.W.Frag} {mg : Str → Option Value} {x : Str} {C : Addr} {cls : Value} {b : Bool} (e : ExOk K mg x C) (h : PySem.W.subIn K cls (.ref C) = some b) : PySem.W.exmOne K cls (.ref C) = some b := PySem.W.exm_ref e.bp e.hd e.tp h
theorem pmk_ok {X : Cx} {x : Str} {C : Addr} {p pos : Pos} (e : ExOk X.K X.mg x C) (hg : Gl X x) (hdb : (x == ("__debug__" : Str)) = false := by decide) : PMk X (.Call (.Name x p) [] [] pos) (fun _ H Q => Q (.ref C) none H) :=
  pmk_own0 PySem.F.excBase_ValueError e.ex e.g e.kp (raises_own e.bp e.tp) hg hdb
/-! the promises of such defs -/
structure CalX (P : Program) (w : World) (K : PySem.W.Frag) (mg : Str → Option Value) (base : Heap) (k : Nat) (x : Str) (sp : Sp) : Prop where
  ex : ∃ (f : Addr) (fd : FuncData) (ps : List Str), FnOk P w K mg base (L2.CX P w) k f fd ps sp ∧ mg x = some (.ref f) ∧ PySem.W.keepIn K (.ref f) = true ∧ Binds K fd ps []
structure MetX (P : Program) (w : World) (K : PySem.W.Frag) (mg : Str → Option Value) (base : Heap) (k : Nat) (C : Addr) (m : Str) (sp : Sp) : Prop where
  ex : ∃ (f : Addr) (fd : FuncData) (ps : List Str), Cls K C ∧ Meth K C m f ∧ FnOk P w K mg base (L2.CX P w) k f fd ps sp ∧ Binds K fd ps []
structure MakX (P : Program) (w : World) (K : PySem.W.Frag) (mg : Str → Option Value) (base : Heap) (k : Nat) (x : Str) (C : Addr) (sp : Sp) : Prop where
  ex : ∃ (f : Addr) (fd : FuncData) (ps : List Str), Mk K C f ∧ FnOk P w K mg base (L2.CX P w) k f fd ps sp ∧ mg x = some (.ref C) ∧ Binds K fd ps []
section
variable {P : Program} {w : World} {K : PySem.W.Frag} {mg : Str → Option Value} {base : Heap}
theorem calX {x : Str} {st : Stmt} {N ps : List Str} {k : Nat} {sp : Sp} (D : DefOk K mg x st ps) (S : FnScope N ps (defScope st)) (len : ∀ vs H Q E, sp vs H Q E → vs.length = ps.length)
    (hbody : ∀ (f : Addr) (cdv : Value) (A : Around) (outer : List Env) (s : Shared) (H : Hp) (vs : List V) (Q : VK) (E : XK), Room k (A.deeper (envOfC x (defScope st) s.heap.objs.size f cdv)) → sp vs H Q E →
      ∃ t, PSs (cxOf (L2.CX P w) P w K mg base N x (defScope st) f cdv A outer s H E) (defBody st) t ∧ t { nx := fun _ H' => Q .non H', rt := Q } (start N vs) H) : CalX P w K mg base (k + 1) x sp := by
  obtain ⟨f, fd, F, hm, b⟩ := D.ex
  exact ⟨f, fd, ps, F.okX S len (fun cdv A outer s H vs Q E hr h => hbody f cdv A outer s H vs Q E hr h), hm, F.kp, b⟩
theorem metX {C : Addr} {m qual : Str} {st : Stmt} {N ps : List Str} {k : Nat} {sp : Sp} (c : Cls K C) (D : MethOk K C m qual st ps) (S : FnScope N ps (defScope st)) (len : ∀ vs H Q E, sp vs H Q E → vs.length = ps.length)
    (hbody : ∀ (f : Addr) (cdv : Value) (A : Around) (outer : List Env) (s : Shared) (H : Hp) (vs : List V) (Q : VK) (E : XK), Room k (A.deeper (envOfC qual (defScope st) s.heap.objs.size f cdv)) → sp vs H Q E →
      ∃ t, PSs (cxOf (L2.CX P w) P w K mg base N qual (defScope st) f cdv A outer s H E) (defBody st) t ∧ t { nx := fun _ H' => Q .non H', rt := Q } (start N vs) H) : MetX P w K mg base (k + 1) C m sp := by
  obtain ⟨f, fd, M, F, b⟩ := D.ex
  exact ⟨f, fd, ps, c, M, F.okX S len (fun cdv A outer s H vs Q E hr h => hbody f cdv A outer s H vs Q E hr h), b⟩
theorem makX {C : Addr} {x qual : Str} {st : Stmt} {N ps : List Str} {k : Nat} {sp : Sp} (hm : mg x = some (.ref C)) (D : MakOk K C qual st ps) (S : FnScope N ps (defScope st)) (len : ∀ vs H Q E, sp vs H Q E → vs.length = ps.length)
    (hbody : ∀ (f : Addr) (cdv : Value) (A : Around) (outer : List Env) (s : Shared) (H : Hp) (vs : List V) (Q : VK) (E : XK), Room k (A.deeper (envOfC qual (defScope st) s.heap.objs.size f cdv)) → sp vs H Q E →
      ∃ t, PSs (cxOf (L2.CX P w) P w K mg base N qual (defScope st) f cdv A outer s H E) (defBody st) t ∧ t { nx := fun _ H' => Q .non H', rt := Q } (start N vs) H) : MakX P w K mg base (k + 1) x C sp := by
  obtain ⟨f, fd, M, F, b⟩ := D.ex
  exact ⟨f, fd, ps, M, F.okX S len (fun cdv A outer s H vs Q E hr h => hbody f cdv A outer s H vs Q E hr h), hm, b⟩
end
/-! their calls: E tells at the slots what is wished of an error -/
section
variable {X : Cx} {k j : Nat} {C : Addr} {x m : Str} {sp : Sp} {p pos apos : Pos} {e o : Expr} {es : List Expr} {ta : TE} {t : TA} {E : L2.St → XK}
theorem pe_cX (c : CalX X.prog X.w X.K X.mg X.base k x sp) (hr : Room j X.A) (hk : k ≤ j) (hg : Gl X x) (hx : ∀ σ, PassesAt (L2.CX X.prog X.w) X σ (E σ)) (ha : PA X (e :: es) t)
    (hdb : (x == ("__debug__" : Str)) = false := by decide) (he : starEach (e :: es) X.env = (false, eval e X.env) :: starEach es X.env := by rfl) (hpl : (backTo pos (starEach es X.env)).any (·.1) = false := by rfl) :
    PE X (.Call (.Name x p) (e :: es) [] pos) (tCallS sp E t) := by
  obtain ⟨f, fd, ps, F, hm, kp, b⟩ := c.ex
  exact pe_callS F (hr.mono hk) hg hm kp b hx ha hdb he hpl
/-- where nothing is raised -/
theorem pe_cXn (c : CalX X.prog X.w X.K X.mg X.base k x sp) (hr : Room j X.A) (hk : k ≤ j) (hg : Gl X x) (ha : PA X (e :: es) t)
    (hdb : (x == ("__debug__" : Str)) = false := by decide) (he : starEach (e :: es) X.env = (false, eval e X.env) :: starEach es X.env := by rfl) (hpl : (backTo pos (starEach es X.env)).any (·.1) = false := by rfl) :
    PE X (.Call (.Name x p) (e :: es) [] pos) (tCall sp [] L2.E0 t) := by
  obtain ⟨f, fd, ps, F, hm, kp, b⟩ := c.ex
  exact pe_call F (hr.mono hk) hg hm kp b .nil passL ha hdb he hpl
def tMethX (C : Addr) (m : Str) (sp : Sp) (E : L2.St → XK) (ta : TE) (t : TA) : TE := fun σ H Q => ta σ H fun x H1 => ∃ a dx fs, x = .ref a ∧ H1 a = some (.ins C dx fs) ∧ fs.lookup m = none ∧ t σ H1 fun vs H2 => sp (.ref a :: vs) H2 Q (E σ)
theorem pe_mtX {pl : Sem Bool} (c : MetX X.prog X.w X.K X.mg X.base k C m sp) (hr : Room j X.A) (hk : k ≤ j) (hx : ∀ σ, PassesAt (L2.CX X.prog X.w) X σ (E σ)) (he : PE X o ta) (ha : PA X (e :: es) t)
    (hst : starEach (e :: es) X.env = (false, eval e X.env) :: starEach es X.env := by rfl) (hpl : (backTo pos (starEach es X.env)).any (·.1) = false := by rfl)
    (ht : eval (.Call (.Attribute o m apos) (e :: es) [] pos) X.env = (do
      let ov ← eval o X.env
      standAt apos.atName
      let (f, first) ← holding [ov] (getMethod ov m pl)
      callWith pos f first (backTo pos (starEach (e :: es) X.env)) (backToKw pos (keywordEach [] X.env))) := by rfl) :
    PE X (.Call (.Attribute o m apos) (e :: es) [] pos) (tMethX C m sp E ta t) := by
  obtain ⟨f, fd, ps, hc, hm, F, b⟩ := c.ex
  refine ⟨fun pins s σ H Q I h => ?_⟩
  refine PySem.W.methodCall_KW (pl := pl) (thn (he.run pins s σ H _ I h) fun u s1 ⟨x, H1, I1, rx, a, dx, fs, ex, ea, l, q⟩ => ?_) ht
  subst ex
  obtain rfl : u = Value.ref a := rx
  refine getmeth_ok I1 ea hc hm l ?_
  refine PySem.W.callWith_K (first := [.ref a]) (h₀ := X.base) I.ok.mod.kin hm.kp (thn (ha.run pos pins s1 σ H1 _ I1 q) fun us s2 ⟨vs, H2, I2, r, q2⟩ => ⟨I2.kIn, ?_⟩) hst hpl
  exact run_fnS (us := .ref a :: us) (vs := .ref a :: vs) F (hr.mono hk) b (hx σ) I2 (.cons rfl r) q2
theorem pe_mtX0 {pl : Sem Bool} (c : MetX X.prog X.w X.K X.mg X.base k C m sp) (hr : Room j X.A) (hk : k ≤ j) (hx : ∀ σ, PassesAt (L2.CX X.prog X.w) X σ (E σ)) (he : PE X o ta)
    (ht : eval (.Call (.Attribute o m apos) [] [] pos) X.env = (do
      let ov ← eval o X.env
      standAt apos.atName
      let (f, first) ← holding [ov] (getMethod ov m pl)
      callWith pos f first (backTo pos (starEach [] X.env)) (backToKw pos (keywordEach [] X.env))) := by rfl) :
    PE X (.Call (.Attribute o m apos) [] [] pos) (tMethX C m sp E ta tNil) := by
  obtain ⟨f, fd, ps, hc, hm, F, b⟩ := c.ex
  refine ⟨fun pins s σ H Q I h => ?_⟩
  refine PySem.W.methodCall_KW (pl := pl) (thn (he.run pins s σ H _ I h) fun u s1 ⟨x, H1, I1, rx, a, dx, fs, ex, ea, l, q⟩ => ?_) ht
  subst ex
  obtain rfl : u = Value.ref a := rx
  refine getmeth_ok I1 ea hc hm l ?_
  exact PySem.W.callWith_K0 (first := [.ref a]) I1.kIn hm.kp (run_fnS (us := [.ref a]) (vs := [.ref a]) F (hr.mono hk) b (hx σ) I1 (.cons rfl .nil) q)
def tMakeX (C : Addr) (sp : Sp) (E : L2.St → XK) (t : TA) : TE := fun σ H Q => t σ H fun vs H1 => ∀ x dx, H1 x = none → H1 dx = none → dx ≠ x → sp (.ref x :: vs) (upd (upd H1 dx (.own x)) x (.ins C dx [])) (fun v H2 => v = .non ∧ Q (.ref x) H2) (E σ)
theorem run_makeX {CX : CXT} {f : Addr} {fd : FuncData} {ps : List Str} {pins : List (Addr × Obj)} {σ : L2.St} {H : Hp} {s : Shared} {Q : VK} {us : List Value} {vs : List V} {Eσ : XK} (M : Mk X.K C f) (F : FnOk X.prog X.w X.K X.mg X.base CX k f fd ps sp) (hr : Room (k + 1) X.A) (hb : Binds X.K fd ps [])
    (hx : PassesAt CX X σ Eσ) (I : Inv X pins σ H s) (r : Vals vs us)
    (h : ∀ x dx, H x = none → H dx = none → dx ≠ x → sp (.ref x :: vs) (upd (upd H dx (.own x)) x (.ins C dx [])) (fun v H2 => v = .non ∧ Q (.ref x) H2) Eσ) :
    wpAny (model X.prog X.w) X.A (call (.ref C) us) (EP X pins σ Q) X.xe s := by
  have hq := h (s.heap.objs.size + 1) s.heap.objs.size (I.hok.fresh (Nat.le_succ _)) (I.hok.fresh (Nat.le_refl _)) (Nat.ne_of_lt (Nat.lt_succ_self _))
  have I2 := Inv.made (C := C) I
  have r2 : Vals (V.ref (s.heap.objs.size + 1) :: vs) (Value.ref (s.heap.objs.size + 1) :: us) := .cons rfl r
  have hl : (Value.ref (s.heap.objs.size + 1) :: us ++ ([] : List Value)).length = ps.length := by
    have e := r2.length
    rw [F.len _ _ _ _ hq] at e
    rw [List.append_nil]
    exact e.symm
  have hb' := hb _ (Value.ref (s.heap.objs.size + 1) :: us) I2.kIn hl
  rw [List.append_nil] at hb'
  refine wpAny_call (make_map (f := f) I.kIn M.makes M.init (beq_iff_eq.mp M.fn) (codeAny_mono (F.run _ X.stack _ _ ⟨Value.ref (s.heap.objs.size + 1) :: us, []⟩ (Value.ref (s.heap.objs.size + 1) :: us) _ _ Eσ (hr.make C us [])
    (I2.env0.make C us []) hb' r2 hq) fun r s' hq' => ?_))
  cases r with
  | error e => exact hx pins _ _ e s' I2 hq'
  | ok fl =>
    cases fl with
    | ret u =>
      obtain ⟨v, H', I3, rv, ev, q3⟩ := I2.after hq'
      subst ev
      exact ⟨rv, ⟨V.ref (s.heap.objs.size + 1), H', I3, rfl, q3⟩⟩
    | next => exact False.elim hq'
    | brk => exact False.elim hq'
    | cont => exact False.elim hq'
theorem pe_mkX (c : MakX X.prog X.w X.K X.mg X.base k x C sp) (hr : Room j X.A) (hk : k + 1 ≤ j) (hg : Gl X x) (hx : ∀ σ, PassesAt (L2.CX X.prog X.w) X σ (E σ)) (ha : PA X (e :: es) t)
    (hdb : (x == ("__debug__" : Str)) = false := by decide) (he : starEach (e :: es) X.env = (false, eval e X.env) :: starEach es X.env := by rfl) (hpl : (backTo pos (starEach es X.env)).any (·.1) = false := by rfl) :
    PE X (.Call (.Name x p) (e :: es) [] pos) (tMakeX C sp E t) := by
  obtain ⟨f, fd, ps, M, F, hm, b⟩ := c.ex
  refine ⟨fun pins s σ H Q I h => ?_⟩
  refine wpAny_Call_Name_kw (ld_glob I hg hm ?_ hdb)
  refine PySem.W.callWith_K (h₀ := X.base) I.ok.mod.kin M.kp (thn (ha.run pos pins s σ H _ I h) fun us s1 ⟨vs, H1, I1, r, q⟩ => ⟨I1.kIn, ?_⟩) he hpl
  exact run_makeX M F (hr.mono hk) b (hx σ) I1 r q
/-- where nothing is let out: for the calls above in a def without errors -/
theorem no_pass : ∀ σ : L2.St, PassesAt (L2.CX X.prog X.w) X σ ((fun _ => L2.E0) σ) := fun σ pins H s e s' I c => passL pins σ H s e s' I c
end
/-- a for's body that is one try: kept together, so that for_it can name it -/
def tBody (t : TS) : TS := t
theorem pss_body {X : Cx} {b : List Stmt} {t : TS} (h : PSs X b t) : PSs X b (tBody t) := h

/-! ### own exceptions with an __init__ of their own -/
structure ExI (K : PySem.W.Frag) (mg : Str → Option Value) (x : Str) (C : Addr) : Prop where
  g : mg x = some (.ref C)
  ox : OexC K C
  xf : XfC K C
theorem ExI.exm {K : PySem.W.Frag} {mg : Str → Option Value} {x : Str} {C : Addr} {cls : Value} {b : Bool} (e : ExI K mg x C) (h : PySem.W.subIn K cls (.ref C) = some b) : PySem.W.exmOne K cls (.ref C) = some b := PySem.W.exm_ref e.ox.exC e.xf.hdC e.ox.tyC h
structure ExInit (K : PySem.W.Frag) (C : Addr) (qual : Str) (st : Stmt) (ps : List Str) : Prop where
  ex : ∃ (f : Addr) (fd : FuncData), PySem.W.findIn K (.ref C) "__init__" = some (some (.ref f)) ∧ PySem.W.typeIn K (.ref f) = some (.type "function") ∧ L2.Fun K "__init__" qual st f fd ∧ Binds K fd ps []
structure ExMk (P : Program) (w : World) (K : PySem.W.Frag) (mg : Str → Option Value) (base : Heap) (k : Nat) (x : Str) (C : Addr) (sp : Sp) : Prop where
  ex : ∃ (f : Addr) (fd : FuncData) (ps : List Str), OexC K C ∧ PySem.W.findIn K (.ref C) "__init__" = some (some (.ref f)) ∧ PySem.W.typeIn K (.ref f) = some (.type "function") ∧ FnOk P w K mg base L2.CX0 k f fd ps sp ∧ Binds K fd ps [] ∧ mg x = some (.ref C)
section
variable {P : Program} {w : World} {K : PySem.W.Frag} {mg : Str → Option Value} {base : Heap}
theorem exmk {C : Addr} {x qual : Str} {st : Stmt} {N ps : List Str} {k : Nat} {sp : Sp} (e : ExI K mg x C) (D : ExInit K C qual st ps) (S : FnScope N ps (defScope st)) (len : ∀ vs H Q E, sp vs H Q E → vs.length = ps.length)
    (hbody : ∀ (f : Addr) (cdv : Value) (A : Around) (outer : List Env) (s : Shared) (H : Hp) (vs : List V) (Q : VK) (E : XK), Room k (A.deeper (envOfC qual (defScope st) s.heap.objs.size f cdv)) → sp vs H Q E →
      ∃ t, PSs (cxOf L2.CX0 P w K mg base N qual (defScope st) f cdv A outer s H E).nox (defBody st) t ∧ t { nx := fun _ H' => Q .non H', rt := Q } (start N vs) H) : ExMk P w K mg base (k + 1) x C sp := by
  obtain ⟨f, fd, h1, h2, F, b⟩ := D.ex
  exact ⟨f, fd, ps, e.ox, h1, h2, F.ok S len (fun cdv A outer s H vs Q E hr h => hbody f cdv A outer s H vs Q E hr h), b, e.g⟩
end
theorem pmk_ei {X : Cx} {k j : Nat} {x : Str} {C : Addr} {sp : Sp} {ta : TA} {p pos : Pos} {e : Expr} {es : List Expr} (c : ExMk X.prog X.w X.K X.mg X.base k x C sp) (hr : Room j X.A) (hk : k + 1 ≤ j) (hg : Gl X x) (ha : PA X (e :: es) ta)
    (hdb : (x == ("__debug__" : Str)) = false := by decide) (he : starEach (e :: es) X.env = (false, eval e X.env) :: starEach es X.env := by rfl) (hpl : (backTo pos (starEach es X.env)).any (·.1) = false := by rfl) :
    PMk X (.Call (.Name x p) (e :: es) [] pos) (tMkO C sp [] ta) := by
  obtain ⟨f, fd, ps, T, iC, tI, F1, hb, hm⟩ := c.ex
  exact pmk_oex T iC tI F1 (hr.mono hk) hb .nil pass0 hg hm ha hdb he hpl
/-- what an __init__ of two fields leaves -/
def spInit2 (C : Addr) (f g : Str) : Sp := fun vs H Q _ => ∃ (a : Addr) (r s : V), vs = [.ref a, r, s] ∧ H a = some (exo a C none) ∧
  ∀ d, H d = none → d ≠ a → Q .non (upd (upd (upd H d (exd d [(f, r)])) a (exo a C (some d))) d (exd d [(g, s), (f, r)]))
/-- its use where it is raised -/
theorem mk_two {C : Addr} {f g : Str} {H1 : Hp} {Q : XK} {r s : V} (q : ∀ H' d, Same H1 H' → H1 d = none → H' d = some (.xd [(g, s), (f, r)]) → Q (.ref C) (some d) H') :
    ([r, s] : List V).length ≤ 1000 ∧ ∀ a, H1 a = none → spInit2 C f g (.ref a :: ([r, s] ++ [])) (upd H1 a (exo a C none)) (fun v H2 => v = .non ∧ ∃ (d : Addr) (fs : List (Str × V)), H2 a = some (exo a C (some d)) ∧ H2 d = some (exd d fs) ∧ H1 d = none ∧ Q (.ref C) (some d) (upd (del H2 a) d (.xd fs))) (fun _ _ _ => False) := by
  refine ⟨by show 2 ≤ 1000; decide, fun a ha => ⟨a, r, s, rfl, upd_same, fun d hd hne => ⟨rfl, d, [(g, s), (f, r)], ?_, upd_same, ?_, q _ d ?_ ?_ upd_same⟩⟩⟩
  · rw [upd_ne hne.symm, upd_same]
  · rw [upd_ne hne] at hd; exact hd
  · intro b o e
    have hb : b ≠ d := fun z => by rw [z] at e; rw [upd_ne hne] at hd; rw [hd] at e; cases e
    have hba : b ≠ a := fun z => by rw [z, ha] at e; cases e
    rw [upd_ne hb, del_ne hba, upd_ne hb, upd_ne hba, upd_ne hb, upd_ne hba]
    exact e
  · rw [upd_ne hne] at hd; exact hd

def topS (i : Nat) : Stmt := PySem.Challenge.pw_oathledger_k00_errors_and_limits.main.body.getD i (.Pass ⟨0, 0, 0, 0⟩)
abbrev s_Refused____init__ : Stmt := inClass (topS 11) 0
theorem sc_Refused____init__ : FnScope ["self", "reason"] ["self", "reason"] (defScope s_Refused____init__) := ⟨rfl, rfl, rfl, by decide +kernel, rfl, by decide +kernel, by decide +kernel⟩
abbrev s_BadCommand____init__ : Stmt := inClass (topS 12) 0
theorem sc_BadCommand____init__ : FnScope ["self", "reason", "statement"] ["self", "reason", "statement"] (defScope s_BadCommand____init__) := ⟨rfl, rfl, rfl, by decide +kernel, rfl, by decide +kernel, by decide +kernel⟩
abbrev s_BadSchedule____init__ : Stmt := inClass (topS 13) 0
theorem sc_BadSchedule____init__ : FnScope ["self", "line", "reason"] ["self", "line", "reason"] (defScope s_BadSchedule____init__) := ⟨rfl, rfl, rfl, by decide +kernel, rfl, by decide +kernel, by decide +kernel⟩
abbrev s__law_draws : Stmt := topS 26
theorem sc__law_draws : FnScope ["script", "draws", "k", "cell", "step", "mixed"] ["script"] (defScope s__law_draws) := ⟨rfl, rfl, rfl, by decide +kernel, rfl, by decide +kernel, by decide +kernel⟩
abbrev s__law_next : Stmt := topS 27
theorem sc__law_next : FnScope ["draws", "at", "many", "index"] ["draws", "at", "many"] (defScope s__law_next) := ⟨rfl, rfl, rfl, by decide +kernel, rfl, by decide +kernel, by decide +kernel⟩
abbrev s__law_big : Stmt := topS 28
theorem sc__law_big : FnScope ["draws", "at", "many", "number", "k"] ["draws", "at", "many"] (defScope s__law_big) := ⟨rfl, rfl, rfl, by decide +kernel, rfl, by decide +kernel, by decide +kernel⟩
abbrev s__law_char : Stmt := topS 29
theorem sc__law_char : FnScope ["number", "chars"] ["number"] (defScope s__law_char) := ⟨rfl, rfl, rfl, by decide +kernel, rfl, by decide +kernel, by decide +kernel⟩
abbrev s__law_string : Stmt := topS 30
theorem sc__law_string : FnScope ["draws", "at", "most", "size", "first", "step", "text", "k"] ["draws", "at", "most"] (defScope s__law_string) := ⟨rfl, rfl, rfl, by decide +kernel, rfl, by decide +kernel, by decide +kernel⟩
abbrev s__law_raise : Stmt := topS 31
theorem sc__law_raise : FnScope ["which", "reason", "number"] ["which", "reason", "number"] (defScope s__law_raise) := ⟨rfl, rfl, rfl, by decide +kernel, rfl, by decide +kernel, by decide +kernel⟩
abbrev s__law_marks : Stmt := topS 32
theorem sc__law_marks : FnScope ["e", "marks"] ["e"] (defScope s__law_marks) := ⟨rfl, rfl, rfl, by decide +kernel, rfl, by decide +kernel, by decide +kernel⟩
abbrev s__law_caught : Stmt := topS 33
theorem sc__law_caught : FnScope ["which", "reason", "number", "marks", "e", "k"] ["which", "reason", "number"] (defScope s__law_caught) := ⟨rfl, rfl, rfl, by decide +kernel, rfl, by decide +kernel, by decide +kernel⟩
abbrev s__law_number : Stmt := topS 34
theorem sc__law_number : FnScope ["actual", "expected"] ["actual", "expected"] (defScope s__law_number) := ⟨rfl, rfl, rfl, by decide +kernel, rfl, by decide +kernel, by decide +kernel⟩
abbrev s__law_limits : Stmt := topS 35
theorem sc__law_limits : FnScope ["actual", "expected", "k"] [] (defScope s__law_limits) := ⟨rfl, rfl, rfl, by decide +kernel, rfl, by decide +kernel, by decide +kernel⟩
abbrev s__law_kept : Stmt := topS 36
theorem sc__law_kept : FnScope ["reason", "number", "e"] ["reason", "number"] (defScope s__law_kept) := ⟨rfl, rfl, rfl, by decide +kernel, rfl, by decide +kernel, by decide +kernel⟩
abbrev s_law : Stmt := topS 37
theorem sc_law : FnScope ["script", "draws", "at", "turn", "reason", "number", "which"] ["script"] (defScope s_law) := ⟨rfl, rfl, rfl, by decide +kernel, rfl, by decide +kernel, by decide +kernel⟩
structure Txt (K : PySem.W.Frag) (mg : Str → Option Value) (C_BadGroup : Addr) (C_BadLetter : Addr) (C_BadBlock : Addr) (C_BadText : Addr) (C_JournalError : Addr) (C_DiskCrashed : Addr) (C_DiskError : Addr) (C_BadRecord : Addr) (C_JournalFull : Addr) (C_LedgerError : Addr) (C_Refused : Addr) (C_BadSchedule : Addr) (C_BadCommand : Addr) : Prop where
  d__law_draws : DefOk K mg "_law_draws" s__law_draws ["script"]
  d__law_next : DefOk K mg "_law_next" s__law_next ["draws", "at", "many"]
  d__law_big : DefOk K mg "_law_big" s__law_big ["draws", "at", "many"]
  d__law_char : DefOk K mg "_law_char" s__law_char ["number"]
  d__law_string : DefOk K mg "_law_string" s__law_string ["draws", "at", "most"]
  d__law_raise : DefOk K mg "_law_raise" s__law_raise ["which", "reason", "number"]
  d__law_marks : DefOk K mg "_law_marks" s__law_marks ["e"]
  d__law_caught : DefOk K mg "_law_caught" s__law_caught ["which", "reason", "number"]
  d__law_number : DefOk K mg "_law_number" s__law_number ["actual", "expected"]
  d__law_limits : DefOk K mg "_law_limits" s__law_limits []
  d__law_kept : DefOk K mg "_law_kept" s__law_kept ["reason", "number"]
  d_law : DefOk K mg "law" s_law ["script"]
  x_BadGroup : ExOk K mg "BadGroup" C_BadGroup
  x_BadLetter : ExOk K mg "BadLetter" C_BadLetter
  x_BadBlock : ExOk K mg "BadBlock" C_BadBlock
  x_BadText : ExOk K mg "BadText" C_BadText
  x_JournalError : ExOk K mg "JournalError" C_JournalError
  x_DiskCrashed : ExOk K mg "DiskCrashed" C_DiskCrashed
  x_DiskError : ExOk K mg "DiskError" C_DiskError
  x_BadRecord : ExOk K mg "BadRecord" C_BadRecord
  x_JournalFull : ExOk K mg "JournalFull" C_JournalFull
  x_LedgerError : ExOk K mg "LedgerError" C_LedgerError
  x_Refused : ExI K mg "Refused" C_Refused
  xn_Refused_reason : PySem.W.findIn K (.ref C_Refused) "reason" = some none
  ei_Refused : ExInit K C_Refused "Refused.__init__" s_Refused____init__ ["self", "reason"]
  x_BadSchedule : ExI K mg "BadSchedule" C_BadSchedule
  xn_BadSchedule_line : PySem.W.findIn K (.ref C_BadSchedule) "line" = some none
  xn_BadSchedule_reason : PySem.W.findIn K (.ref C_BadSchedule) "reason" = some none
  ei_BadSchedule : ExInit K C_BadSchedule "BadSchedule.__init__" s_BadSchedule____init__ ["self", "line", "reason"]
  x_BadCommand : ExI K mg "BadCommand" C_BadCommand
  xn_BadCommand_reason : PySem.W.findIn K (.ref C_BadCommand) "reason" = some none
  xn_BadCommand_statement : PySem.W.findIn K (.ref C_BadCommand) "statement" = some none
  ei_BadCommand : ExInit K C_BadCommand "BadCommand.__init__" s_BadCommand____init__ ["self", "reason", "statement"]
  ec_BadText : ExcC K C_BadText
  ec_BadBlock : ExcC K C_BadBlock
  ec_BadLetter : ExcC K C_BadLetter
  ec_BadGroup : ExcC K C_BadGroup
  ec_DiskError : ExcC K C_DiskError
  ec_DiskCrashed : ExcC K C_DiskCrashed
  ec_JournalError : ExcC K C_JournalError
  ec_JournalFull : ExcC K C_JournalFull
  ec_BadRecord : ExcC K C_BadRecord
  ec_Refused : ExcC K C_Refused
  ec_BadCommand : ExcC K C_BadCommand
  ec_BadSchedule : ExcC K C_BadSchedule
  kt_BadText_ValueError : PySem.W.kitOne K (.ref C_BadText) (.type "ValueError") = some true
  kt_BadBlock_ValueError : PySem.W.kitOne K (.ref C_BadBlock) (.type "ValueError") = some true
  kt_BadLetter_ValueError : PySem.W.kitOne K (.ref C_BadLetter) (.type "ValueError") = some true
  kt_BadGroup_ValueError : PySem.W.kitOne K (.ref C_BadGroup) (.type "ValueError") = some true
  kt_DiskError_ValueError : PySem.W.kitOne K (.ref C_DiskError) (.type "ValueError") = some true
  kt_DiskCrashed_ValueError : PySem.W.kitOne K (.ref C_DiskCrashed) (.type "ValueError") = some true
  kt_JournalError_ValueError : PySem.W.kitOne K (.ref C_JournalError) (.type "ValueError") = some true
  kt_JournalFull_ValueError : PySem.W.kitOne K (.ref C_JournalFull) (.type "ValueError") = some true
  kt_BadRecord_ValueError : PySem.W.kitOne K (.ref C_BadRecord) (.type "ValueError") = some true
  kt_Refused_ValueError : PySem.W.kitOne K (.ref C_Refused) (.type "ValueError") = some true
  kt_BadCommand_ValueError : PySem.W.kitOne K (.ref C_BadCommand) (.type "ValueError") = some true
  kt_BadSchedule_ValueError : PySem.W.kitOne K (.ref C_BadSchedule) (.type "ValueError") = some true
  u_BadText_BadText : PySem.W.subIn K (.ref C_BadText) (.ref C_BadText) = some true
  u_BadText_BadBlock : PySem.W.subIn K (.ref C_BadText) (.ref C_BadBlock) = some false
  u_BadText_BadLetter : PySem.W.subIn K (.ref C_BadText) (.ref C_BadLetter) = some false
  u_BadText_BadGroup : PySem.W.subIn K (.ref C_BadText) (.ref C_BadGroup) = some false
  u_BadText_DiskError : PySem.W.subIn K (.ref C_BadText) (.ref C_DiskError) = some false
  u_BadText_DiskCrashed : PySem.W.subIn K (.ref C_BadText) (.ref C_DiskCrashed) = some false
  u_BadText_JournalError : PySem.W.subIn K (.ref C_BadText) (.ref C_JournalError) = some false
  u_BadText_JournalFull : PySem.W.subIn K (.ref C_BadText) (.ref C_JournalFull) = some false
  u_BadText_BadRecord : PySem.W.subIn K (.ref C_BadText) (.ref C_BadRecord) = some false
  u_BadText_Refused : PySem.W.subIn K (.ref C_BadText) (.ref C_Refused) = some false
  u_BadText_BadCommand : PySem.W.subIn K (.ref C_BadText) (.ref C_BadCommand) = some false
  u_BadText_BadSchedule : PySem.W.subIn K (.ref C_BadText) (.ref C_BadSchedule) = some false
  u_BadText_LedgerError : PySem.W.subIn K (.ref C_BadText) (.ref C_LedgerError) = some true
  u_BadBlock_BadText : PySem.W.subIn K (.ref C_BadBlock) (.ref C_BadText) = some false
  u_BadBlock_BadBlock : PySem.W.subIn K (.ref C_BadBlock) (.ref C_BadBlock) = some true
  u_BadBlock_BadLetter : PySem.W.subIn K (.ref C_BadBlock) (.ref C_BadLetter) = some false
  u_BadBlock_BadGroup : PySem.W.subIn K (.ref C_BadBlock) (.ref C_BadGroup) = some false
  u_BadBlock_DiskError : PySem.W.subIn K (.ref C_BadBlock) (.ref C_DiskError) = some false
  u_BadBlock_DiskCrashed : PySem.W.subIn K (.ref C_BadBlock) (.ref C_DiskCrashed) = some false
  u_BadBlock_JournalError : PySem.W.subIn K (.ref C_BadBlock) (.ref C_JournalError) = some false
  u_BadBlock_JournalFull : PySem.W.subIn K (.ref C_BadBlock) (.ref C_JournalFull) = some false
  u_BadBlock_BadRecord : PySem.W.subIn K (.ref C_BadBlock) (.ref C_BadRecord) = some false
  u_BadBlock_Refused : PySem.W.subIn K (.ref C_BadBlock) (.ref C_Refused) = some false
  u_BadBlock_BadCommand : PySem.W.subIn K (.ref C_BadBlock) (.ref C_BadCommand) = some false
  u_BadBlock_BadSchedule : PySem.W.subIn K (.ref C_BadBlock) (.ref C_BadSchedule) = some false
  u_BadBlock_LedgerError : PySem.W.subIn K (.ref C_BadBlock) (.ref C_LedgerError) = some true
  u_BadLetter_BadText : PySem.W.subIn K (.ref C_BadLetter) (.ref C_BadText) = some false
  u_BadLetter_BadBlock : PySem.W.subIn K (.ref C_BadLetter) (.ref C_BadBlock) = some false
  u_BadLetter_BadLetter : PySem.W.subIn K (.ref C_BadLetter) (.ref C_BadLetter) = some true
  u_BadLetter_BadGroup : PySem.W.subIn K (.ref C_BadLetter) (.ref C_BadGroup) = some false
  u_BadLetter_DiskError : PySem.W.subIn K (.ref C_BadLetter) (.ref C_DiskError) = some false
  u_BadLetter_DiskCrashed : PySem.W.subIn K (.ref C_BadLetter) (.ref C_DiskCrashed) = some false
  u_BadLetter_JournalError : PySem.W.subIn K (.ref C_BadLetter) (.ref C_JournalError) = some false
  u_BadLetter_JournalFull : PySem.W.subIn K (.ref C_BadLetter) (.ref C_JournalFull) = some false
  u_BadLetter_BadRecord : PySem.W.subIn K (.ref C_BadLetter) (.ref C_BadRecord) = some false
  u_BadLetter_Refused : PySem.W.subIn K (.ref C_BadLetter) (.ref C_Refused) = some false
  u_BadLetter_BadCommand : PySem.W.subIn K (.ref C_BadLetter) (.ref C_BadCommand) = some false
  u_BadLetter_BadSchedule : PySem.W.subIn K (.ref C_BadLetter) (.ref C_BadSchedule) = some false
  u_BadLetter_LedgerError : PySem.W.subIn K (.ref C_BadLetter) (.ref C_LedgerError) = some true
  u_BadGroup_BadText : PySem.W.subIn K (.ref C_BadGroup) (.ref C_BadText) = some false
  u_BadGroup_BadBlock : PySem.W.subIn K (.ref C_BadGroup) (.ref C_BadBlock) = some false
  u_BadGroup_BadLetter : PySem.W.subIn K (.ref C_BadGroup) (.ref C_BadLetter) = some false
  u_BadGroup_BadGroup : PySem.W.subIn K (.ref C_BadGroup) (.ref C_BadGroup) = some true
  u_BadGroup_DiskError : PySem.W.subIn K (.ref C_BadGroup) (.ref C_DiskError) = some false
  u_BadGroup_DiskCrashed : PySem.W.subIn K (.ref C_BadGroup) (.ref C_DiskCrashed) = some false
  u_BadGroup_JournalError : PySem.W.subIn K (.ref C_BadGroup) (.ref C_JournalError) = some false
  u_BadGroup_JournalFull : PySem.W.subIn K (.ref C_BadGroup) (.ref C_JournalFull) = some false
  u_BadGroup_BadRecord : PySem.W.subIn K (.ref C_BadGroup) (.ref C_BadRecord) = some false
  u_BadGroup_Refused : PySem.W.subIn K (.ref C_BadGroup) (.ref C_Refused) = some false
  u_BadGroup_BadCommand : PySem.W.subIn K (.ref C_BadGroup) (.ref C_BadCommand) = some false
  u_BadGroup_BadSchedule : PySem.W.subIn K (.ref C_BadGroup) (.ref C_BadSchedule) = some false
  u_BadGroup_LedgerError : PySem.W.subIn K (.ref C_BadGroup) (.ref C_LedgerError) = some true
  u_DiskError_BadText : PySem.W.subIn K (.ref C_DiskError) (.ref C_BadText) = some false
  u_DiskError_BadBlock : PySem.W.subIn K (.ref C_DiskError) (.ref C_BadBlock) = some false
  u_DiskError_BadLetter : PySem.W.subIn K (.ref C_DiskError) (.ref C_BadLetter) = some false
  u_DiskError_BadGroup : PySem.W.subIn K (.ref C_DiskError) (.ref C_BadGroup) = some false
  u_DiskError_DiskError : PySem.W.subIn K (.ref C_DiskError) (.ref C_DiskError) = some true
  u_DiskError_DiskCrashed : PySem.W.subIn K (.ref C_DiskError) (.ref C_DiskCrashed) = some false
  u_DiskError_JournalError : PySem.W.subIn K (.ref C_DiskError) (.ref C_JournalError) = some false
  u_DiskError_JournalFull : PySem.W.subIn K (.ref C_DiskError) (.ref C_JournalFull) = some false
  u_DiskError_BadRecord : PySem.W.subIn K (.ref C_DiskError) (.ref C_BadRecord) = some false
  u_DiskError_Refused : PySem.W.subIn K (.ref C_DiskError) (.ref C_Refused) = some false
  u_DiskError_BadCommand : PySem.W.subIn K (.ref C_DiskError) (.ref C_BadCommand) = some false
  u_DiskError_BadSchedule : PySem.W.subIn K (.ref C_DiskError) (.ref C_BadSchedule) = some false
  u_DiskError_LedgerError : PySem.W.subIn K (.ref C_DiskError) (.ref C_LedgerError) = some true
  u_DiskCrashed_BadText : PySem.W.subIn K (.ref C_DiskCrashed) (.ref C_BadText) = some false
  u_DiskCrashed_BadBlock : PySem.W.subIn K (.ref C_DiskCrashed) (.ref C_BadBlock) = some false
  u_DiskCrashed_BadLetter : PySem.W.subIn K (.ref C_DiskCrashed) (.ref C_BadLetter) = some false
  u_DiskCrashed_BadGroup : PySem.W.subIn K (.ref C_DiskCrashed) (.ref C_BadGroup) = some false
  u_DiskCrashed_DiskError : PySem.W.subIn K (.ref C_DiskCrashed) (.ref C_DiskError) = some false
  u_DiskCrashed_DiskCrashed : PySem.W.subIn K (.ref C_DiskCrashed) (.ref C_DiskCrashed) = some true
  u_DiskCrashed_JournalError : PySem.W.subIn K (.ref C_DiskCrashed) (.ref C_JournalError) = some false
  u_DiskCrashed_JournalFull : PySem.W.subIn K (.ref C_DiskCrashed) (.ref C_JournalFull) = some false
  u_DiskCrashed_BadRecord : PySem.W.subIn K (.ref C_DiskCrashed) (.ref C_BadRecord) = some false
  u_DiskCrashed_Refused : PySem.W.subIn K (.ref C_DiskCrashed) (.ref C_Refused) = some false
  u_DiskCrashed_BadCommand : PySem.W.subIn K (.ref C_DiskCrashed) (.ref C_BadCommand) = some false
  u_DiskCrashed_BadSchedule : PySem.W.subIn K (.ref C_DiskCrashed) (.ref C_BadSchedule) = some false
  u_DiskCrashed_LedgerError : PySem.W.subIn K (.ref C_DiskCrashed) (.ref C_LedgerError) = some true
  u_JournalError_BadText : PySem.W.subIn K (.ref C_JournalError) (.ref C_BadText) = some false
  u_JournalError_BadBlock : PySem.W.subIn K (.ref C_JournalError) (.ref C_BadBlock) = some false
  u_JournalError_BadLetter : PySem.W.subIn K (.ref C_JournalError) (.ref C_BadLetter) = some false
  u_JournalError_BadGroup : PySem.W.subIn K (.ref C_JournalError) (.ref C_BadGroup) = some false
  u_JournalError_DiskError : PySem.W.subIn K (.ref C_JournalError) (.ref C_DiskError) = some false
  u_JournalError_DiskCrashed : PySem.W.subIn K (.ref C_JournalError) (.ref C_DiskCrashed) = some false
  u_JournalError_JournalError : PySem.W.subIn K (.ref C_JournalError) (.ref C_JournalError) = some true
  u_JournalError_JournalFull : PySem.W.subIn K (.ref C_JournalError) (.ref C_JournalFull) = some false
  u_JournalError_BadRecord : PySem.W.subIn K (.ref C_JournalError) (.ref C_BadRecord) = some false
  u_JournalError_Refused : PySem.W.subIn K (.ref C_JournalError) (.ref C_Refused) = some false
  u_JournalError_BadCommand : PySem.W.subIn K (.ref C_JournalError) (.ref C_BadCommand) = some false
  u_JournalError_BadSchedule : PySem.W.subIn K (.ref C_JournalError) (.ref C_BadSchedule) = some false
  u_JournalError_LedgerError : PySem.W.subIn K (.ref C_JournalError) (.ref C_LedgerError) = some true
  u_JournalFull_BadText : PySem.W.subIn K (.ref C_JournalFull) (.ref C_BadText) = some false
  u_JournalFull_BadBlock : PySem.W.subIn K (.ref C_JournalFull) (.ref C_BadBlock) = some false
  u_JournalFull_BadLetter : PySem.W.subIn K (.ref C_JournalFull) (.ref C_BadLetter) = some false
  u_JournalFull_BadGroup : PySem.W.subIn K (.ref C_JournalFull) (.ref C_BadGroup) = some false
  u_JournalFull_DiskError : PySem.W.subIn K (.ref C_JournalFull) (.ref C_DiskError) = some false
  u_JournalFull_DiskCrashed : PySem.W.subIn K (.ref C_JournalFull) (.ref C_DiskCrashed) = some false
  u_JournalFull_JournalError : PySem.W.subIn K (.ref C_JournalFull) (.ref C_JournalError) = some false
  u_JournalFull_JournalFull : PySem.W.subIn K (.ref C_JournalFull) (.ref C_JournalFull) = some true
  u_JournalFull_BadRecord : PySem.W.subIn K (.ref C_JournalFull) (.ref C_BadRecord) = some false
  u_JournalFull_Refused : PySem.W.subIn K (.ref C_JournalFull) (.ref C_Refused) = some false
  u_JournalFull_BadCommand : PySem.W.subIn K (.ref C_JournalFull) (.ref C_BadCommand) = some false
  u_JournalFull_BadSchedule : PySem.W.subIn K (.ref C_JournalFull) (.ref C_BadSchedule) = some false
  u_JournalFull_LedgerError : PySem.W.subIn K (.ref C_JournalFull) (.ref C_LedgerError) = some true
  u_BadRecord_BadText : PySem.W.subIn K (.ref C_BadRecord) (.ref C_BadText) = some false
  u_BadRecord_BadBlock : PySem.W.subIn K (.ref C_BadRecord) (.ref C_BadBlock) = some false
  u_BadRecord_BadLetter : PySem.W.subIn K (.ref C_BadRecord) (.ref C_BadLetter) = some false
  u_BadRecord_BadGroup : PySem.W.subIn K (.ref C_BadRecord) (.ref C_BadGroup) = some false
  u_BadRecord_DiskError : PySem.W.subIn K (.ref C_BadRecord) (.ref C_DiskError) = some false
  u_BadRecord_DiskCrashed : PySem.W.subIn K (.ref C_BadRecord) (.ref C_DiskCrashed) = some false
  u_BadRecord_JournalError : PySem.W.subIn K (.ref C_BadRecord) (.ref C_JournalError) = some false
  u_BadRecord_JournalFull : PySem.W.subIn K (.ref C_BadRecord) (.ref C_JournalFull) = some false
  u_BadRecord_BadRecord : PySem.W.subIn K (.ref C_BadRecord) (.ref C_BadRecord) = some true
  u_BadRecord_Refused : PySem.W.subIn K (.ref C_BadRecord) (.ref C_Refused) = some false
  u_BadRecord_BadCommand : PySem.W.subIn K (.ref C_BadRecord) (.ref C_BadCommand) = some false
  u_BadRecord_BadSchedule : PySem.W.subIn K (.ref C_BadRecord) (.ref C_BadSchedule) = some false
  u_BadRecord_LedgerError : PySem.W.subIn K (.ref C_BadRecord) (.ref C_LedgerError) = some true
  u_Refused_BadText : PySem.W.subIn K (.ref C_Refused) (.ref C_BadText) = some false
  u_Refused_BadBlock : PySem.W.subIn K (.ref C_Refused) (.ref C_BadBlock) = some false
  u_Refused_BadLetter : PySem.W.subIn K (.ref C_Refused) (.ref C_BadLetter) = some false
  u_Refused_BadGroup : PySem.W.subIn K (.ref C_Refused) (.ref C_BadGroup) = some false
  u_Refused_DiskError : PySem.W.subIn K (.ref C_Refused) (.ref C_DiskError) = some false
  u_Refused_DiskCrashed : PySem.W.subIn K (.ref C_Refused) (.ref C_DiskCrashed) = some false
  u_Refused_JournalError : PySem.W.subIn K (.ref C_Refused) (.ref C_JournalError) = some false
  u_Refused_JournalFull : PySem.W.subIn K (.ref C_Refused) (.ref C_JournalFull) = some false
  u_Refused_BadRecord : PySem.W.subIn K (.ref C_Refused) (.ref C_BadRecord) = some false
  u_Refused_Refused : PySem.W.subIn K (.ref C_Refused) (.ref C_Refused) = some true
  u_Refused_BadCommand : PySem.W.subIn K (.ref C_Refused) (.ref C_BadCommand) = some false
  u_Refused_BadSchedule : PySem.W.subIn K (.ref C_Refused) (.ref C_BadSchedule) = some false
  u_Refused_LedgerError : PySem.W.subIn K (.ref C_Refused) (.ref C_LedgerError) = some true
  u_BadCommand_BadText : PySem.W.subIn K (.ref C_BadCommand) (.ref C_BadText) = some false
  u_BadCommand_BadBlock : PySem.W.subIn K (.ref C_BadCommand) (.ref C_BadBlock) = some false
  u_BadCommand_BadLetter : PySem.W.subIn K (.ref C_BadCommand) (.ref C_BadLetter) = some false
  u_BadCommand_BadGroup : PySem.W.subIn K (.ref C_BadCommand) (.ref C_BadGroup) = some false
  u_BadCommand_DiskError : PySem.W.subIn K (.ref C_BadCommand) (.ref C_DiskError) = some false
  u_BadCommand_DiskCrashed : PySem.W.subIn K (.ref C_BadCommand) (.ref C_DiskCrashed) = some false
  u_BadCommand_JournalError : PySem.W.subIn K (.ref C_BadCommand) (.ref C_JournalError) = some false
  u_BadCommand_JournalFull : PySem.W.subIn K (.ref C_BadCommand) (.ref C_JournalFull) = some false
  u_BadCommand_BadRecord : PySem.W.subIn K (.ref C_BadCommand) (.ref C_BadRecord) = some false
  u_BadCommand_Refused : PySem.W.subIn K (.ref C_BadCommand) (.ref C_Refused) = some false
  u_BadCommand_BadCommand : PySem.W.subIn K (.ref C_BadCommand) (.ref C_BadCommand) = some true
  u_BadCommand_BadSchedule : PySem.W.subIn K (.ref C_BadCommand) (.ref C_BadSchedule) = some false
  u_BadCommand_LedgerError : PySem.W.subIn K (.ref C_BadCommand) (.ref C_LedgerError) = some true
  u_BadSchedule_BadText : PySem.W.subIn K (.ref C_BadSchedule) (.ref C_BadText) = some false
  u_BadSchedule_BadBlock : PySem.W.subIn K (.ref C_BadSchedule) (.ref C_BadBlock) = some false
  u_BadSchedule_BadLetter : PySem.W.subIn K (.ref C_BadSchedule) (.ref C_BadLetter) = some false
  u_BadSchedule_BadGroup : PySem.W.subIn K (.ref C_BadSchedule) (.ref C_BadGroup) = some false
  u_BadSchedule_DiskError : PySem.W.subIn K (.ref C_BadSchedule) (.ref C_DiskError) = some false
  u_BadSchedule_DiskCrashed : PySem.W.subIn K (.ref C_BadSchedule) (.ref C_DiskCrashed) = some false
  u_BadSchedule_JournalError : PySem.W.subIn K (.ref C_BadSchedule) (.ref C_JournalError) = some false
  u_BadSchedule_JournalFull : PySem.W.subIn K (.ref C_BadSchedule) (.ref C_JournalFull) = some false
  u_BadSchedule_BadRecord : PySem.W.subIn K (.ref C_BadSchedule) (.ref C_BadRecord) = some false
  u_BadSchedule_Refused : PySem.W.subIn K (.ref C_BadSchedule) (.ref C_Refused) = some false
  u_BadSchedule_BadCommand : PySem.W.subIn K (.ref C_BadSchedule) (.ref C_BadCommand) = some false
  u_BadSchedule_BadSchedule : PySem.W.subIn K (.ref C_BadSchedule) (.ref C_BadSchedule) = some true
  u_BadSchedule_LedgerError : PySem.W.subIn K (.ref C_BadSchedule) (.ref C_LedgerError) = some true
  c_MOST_ANSWER : ∃ u, mg "MOST_ANSWER" = some u ∧ RelV (.int 200) u
  c_MOST_CLIENTS : ∃ u, mg "MOST_CLIENTS" = some u ∧ RelV (.int 100) u
  c_MOST_DEPTH : ∃ u, mg "MOST_DEPTH" = some u ∧ RelV (.int 12) u
  c_MOST_DIGITS : ∃ u, mg "MOST_DIGITS" = some u ∧ RelV (.int 60) u
  c_MOST_FAULTS : ∃ u, mg "MOST_FAULTS" = some u ∧ RelV (.int 10) u
  c_MOST_LENGTH : ∃ u, mg "MOST_LENGTH" = some u ∧ RelV (.int 100000) u
  c_MOST_NUMBER : ∃ u, mg "MOST_NUMBER" = some u ∧ RelV (.int 1000000000000) u
  c_MOST_STATE : ∃ u, mg "MOST_STATE" = some u ∧ RelV (.int 60000) u
  c_MOST_TEXT : ∃ u, mg "MOST_TEXT" = some u ∧ RelV (.int 240) u
  c_SPAN : ∃ u, mg "SPAN" = some u ∧ RelV (.int 5) u
  c_STINT : ∃ u, mg "STINT" = some u ∧ RelV (.int 5) u
  z_ValueError : mg "ValueError" = none
  z_abs : mg "abs" = none
  z_bool : mg "bool" = none
  z_int : mg "int" = none
  z_isinstance : mg "isinstance" = none
  z_len : mg "len" = none
  z_range : mg "range" = none
set_option pp.maxSteps 150
/-! ### the draws of a script -/
def Dr (H : Hp) (D A : Addr) : Prop := D ≠ A ∧ ∃ (ds : List Int) (n : Nat), H D = some (.lst (ds.map V.int)) ∧ H A = some (.lst [.int n]) ∧ (∀ d ∈ ds, 0 ≤ d ∧ d < 1000) ∧ ds.length ≤ 2520
/-- all that was tracked but A is as it was -/
def Mod (A : Addr) (H H' : Hp) : Prop := ∀ b o, b ≠ A → H b = some o → H' b = some o
theorem Mod.refl {A : Addr} {H : Hp} : Mod A H H := fun _ _ _ h => h
theorem Mod.trans {A : Addr} {H H1 H2 : Hp} (a : Mod A H H1) (b : Mod A H1 H2) : Mod A H H2 := fun c o n h => b c o n (a c o n h)
theorem Same.mod {A : Addr} {H H' : Hp} (s : Same H H') : Mod A H H' := fun b o _ h => s b o h
theorem Mod.new {A p : Addr} {o : HO} {H H' : Hp} (s : Mod A H H') (h : H' p = none) : Mod A H (upd H' p o) := fun b u n e => by
  rw [upd_ne (ne_of_none (s b u n e) h)]
  exact s b u n e
theorem Dr.new {D A p : Addr} {o : HO} {H : Hp} (d : Dr H D A) (h : H p = none) : Dr (upd H p o) D A := by
  obtain ⟨ne, ds, n, h1, h2, h3⟩ := d
  exact ⟨ne, ds, n, by rw [upd_ne (ne_of_none h1 h)]; exact h1, by rw [upd_ne (ne_of_none h2 h)]; exact h2, h3⟩
theorem Dr.same {D A : Addr} {H H' : Hp} (d : Dr H D A) (s : Same H H') : Dr H' D A := by
  obtain ⟨ne, ds, n, h1, h2, h3⟩ := d
  exact ⟨ne, ds, n, s _ _ h1, s _ _ h2, h3⟩
/-- an object that is neither D nor A is changed -/
theorem Dr.put {D A p : Addr} {o : HO} {H : Hp} (d : Dr H D A) (h1 : p ≠ D) (h2 : p ≠ A) : Dr (upd H p o) D A := by
  obtain ⟨ne, ds, n, e1, e2, h3⟩ := d
  exact ⟨ne, ds, n, by rw [upd_ne h1.symm]; exact e1, by rw [upd_ne h2.symm]; exact e2, h3⟩
theorem Dr.freshA {D A p : Addr} {H : Hp} (d : Dr H D A) (h : H p = none) : p ≠ A := by
  obtain ⟨_, _, _, _, e, _⟩ := d
  exact (ne_of_none e h).symm
theorem Dr.freshD {D A p : Addr} {H : Hp} (d : Dr H D A) (h : H p = none) : p ≠ D := by
  obtain ⟨_, _, _, e, _⟩ := d
  exact (ne_of_none e h).symm
theorem Mod.free {A p : Addr} {H H' : Hp} (s : Mod A H H') (d : ∃ o, H' A = some o) (h : H' p = none) : H p = none := by
  cases e : H p with
  | none => rfl
  | some o =>
    by_cases hp : p = A
    · subst hp
      obtain ⟨o', e'⟩ := d
      rw [e'] at h; cases h
    · rw [s p o hp e] at h; cases h
theorem Dr.A_in {D A : Addr} {H : Hp} (d : Dr H D A) : ∃ o, H A = some o := by
  obtain ⟨_, _, _, _, e, _⟩ := d
  exact ⟨_, e⟩
theorem rng_app {ds : List Int} {x : Int} (h : ∀ d ∈ ds, 0 ≤ d ∧ d < 1000) (h0 : 0 ≤ x) (h1 : x < 1000) : ∀ d ∈ ds ++ [x], 0 ≤ d ∧ d < 1000 := fun d hd => by
  rcases List.mem_append.mp hd with hd | hd
  · exact h d hd
  · rw [List.mem_singleton.mp hd]; exact ⟨h0, h1⟩

def spDraws (K : PySem.W.Frag) : Sp := fun vs H Q _ => ∃ (a : Addr) (ns : List Int), vs = [.ref a] ∧ SqL K H a (ns.map V.int) ∧ ns.length ≤ 63 ∧
  ∀ (H' : Hp) (D : Addr) (ds : List Int), Same H H' → H D = none → H' D = some (.lst (ds.map V.int)) → (∀ d ∈ ds, 0 ≤ d ∧ d < 1000) → ds.length ≤ 2520 → Q (.ref D) H'
def spNext : Sp := fun vs H Q _ => ∃ (D A : Addr) (m : Int), vs = [.ref D, .ref A, .int m] ∧ Dr H D A ∧ 1 ≤ m ∧
  ∀ (H' : Hp) (r : Int), 0 ≤ r → r < m → Mod A H H' → Dr H' D A → Q (.int r) H'
section
variable {P : Program} {w : World} {K : PySem.W.Frag} {mg : Str → Option Value} {base : Heap}
theorem c__law_next {C_BadGroup : Addr} {C_BadLetter : Addr} {C_BadBlock : Addr} {C_BadText : Addr} {C_JournalError : Addr} {C_DiskCrashed : Addr} {C_DiskError : Addr} {C_BadRecord : Addr} {C_JournalFull : Addr} {C_LedgerError : Addr} {C_Refused : Addr} {C_BadSchedule : Addr} {C_BadCommand : Addr} (T : Txt K mg C_BadGroup C_BadLetter C_BadBlock C_BadText C_JournalError C_DiskCrashed C_DiskError C_BadRecord C_JournalFull C_LedgerError C_Refused C_BadSchedule C_BadCommand) : Cal P w K mg base 1 "_law_next" spNext [] := by
  refine cal T.d__law_next sc__law_next (fun vs H Q E h => ?_) (fun f cdv A outer s H vs Q E hr h => ?_)
  · obtain ⟨D, A, m, rfl, _⟩ := h; rfl
  obtain ⟨D, A, m, rfl, dr, hm, q⟩ := h
  obtain ⟨ne, ds, n, hD, hA, hrg, hle⟩ := id dr
  refine ⟨_, (pss_cons (ps_set (i := 3) sc__law_next.nd rfl (Or.inl rfl) (pe_ix (kixl (K := K)) (pv 1) pe_int (fun _ _ => rfl)))
      (pss_cons (ps_asg (pe_op op_add (pv 3) pe_int) (pg_sub (pv 1) pe_int set_list))
      (pss_cons (ps_if (pt_cmpR op_lt (pv 3) (pe_callB (klen (K := K)) (by rfl) T.z_len (by decide +kernel) (pa_cons (pv 0) pa_nil)) (nomark _)) (pss_one (ps_ret (pe_op op_mod (pe_callTy call_int1 (by rfl) T.z_int (by decide +kernel) (pa_cons (pe_ix (kixl (K := K)) (pv 0) (pv 3) (fun _ _ => rfl)) pa_nil)) (pv 2)))) pss_nil)
      (pss_one (ps_ret pe_int))))), ?_⟩
  walk_at "rds"
  refine ⟨A, _, (0 : Int), _, rfl, rfl, sq hA, atI_nat (j := 0) rfl, ?_⟩
  walk_at "rds"
  refine ⟨A, _, (0 : Int), 0, rfl, rfl, hA, rfl, ?_⟩
  have hD' : (upd H A (.lst [.int ((n : Int) + 1)])) D = some (.lst (ds.map V.int)) := by rw [upd_ne ne]; exact hD
  have md : Mod A H (upd H A (.lst [.int ((n : Int) + 1)])) := fun b o hb e => by rw [upd_ne hb]; exact e
  have dr' : Dr (upd H A (.lst [.int ((n : Int) + 1)])) D A := ⟨ne, ds, n + 1, hD', upd_same, hrg, hle⟩
  walk_at "rds"
  refine ⟨D, _, rfl, .inl (sq hD'), ?_⟩
  walk_at "rds"
  refine ite2 (fun e => ?_) (fun e => ?_)
  · have e := of_decide_eq_true e
    rw [List.length_map] at e
    have e1 : n < ds.length := by omega
    have g : (ds.map V.int)[n]? = some (.int ds[n]) := by
      rw [List.getElem?_map, List.getElem?_eq_getElem e1]; rfl
    walk_at "rds"
    refine ⟨D, _, (n : Int), _, rfl, rfl, sq hD', atI_nat g, ?_⟩
    walk_at "rds"
    exact q _ _ (Int.emod_nonneg _ (by omega)) (Int.emod_lt_of_pos _ (by omega)) md dr'
  · exact q _ _ (by omega) (by omega) md dr'
theorem c__law_draws {C_BadGroup : Addr} {C_BadLetter : Addr} {C_BadBlock : Addr} {C_BadText : Addr} {C_JournalError : Addr} {C_DiskCrashed : Addr} {C_DiskError : Addr} {C_BadRecord : Addr} {C_JournalFull : Addr} {C_LedgerError : Addr} {C_Refused : Addr} {C_BadSchedule : Addr} {C_BadCommand : Addr} (T : Txt K mg C_BadGroup C_BadLetter C_BadBlock C_BadText C_JournalError C_DiskCrashed C_DiskError C_BadRecord C_JournalFull C_LedgerError C_Refused C_BadSchedule C_BadCommand) : Cal P w K mg base 1 "_law_draws" (spDraws K) [] := by
  refine cal T.d__law_draws sc__law_draws (fun vs H Q E h => ?_) (fun f cdv A outer s H vs Q E hr h => ?_)
  · obtain ⟨a, ns, rfl, _⟩ := h; rfl
  obtain ⟨a, ns, rfl, hS, hlen, q⟩ := h
  refine ⟨_, (pss_cons (ps_set (i := 1) sc__law_draws.nd rfl (Or.inl rfl) (pe_lst pa_nil))
      (pss_cons (ps_for PassesOwn.never rfl (pi_range1 (by rfl) T.z_range (pa_cons (pe_callB (klen (K := K)) (by rfl) T.z_len (by decide +kernel) (pa_cons (pv 0) pa_nil)) pa_nil)) (pg_name (i := 2) sc__law_draws.nd rfl (Or.inl rfl)) (pss_cons (ps_set (i := 3) sc__law_draws.nd rfl (Or.inl rfl) (pe_callB call_abs (by rfl) T.z_abs (by decide +kernel) (pa_cons (pe_ix (kixl (K := K)) (pv 0) (pv 2) (fun _ _ => rfl)) pa_nil)))
      (pss_one (ps_if (pt_cmpR op_ge (pv 3) (pe_op op_pow pe_int pe_int) (nomark _)) (pss_one (ps_for PassesOwn.never rfl (pi_range1 (by rfl) T.z_range (pa_cons pe_int pa_nil)) (pg_name (i := 4) sc__law_draws.nd rfl (Or.inl rfl)) (pss_cons (ps_expr (pe_bm PySem.F.plainAttrs_list PySem.F.slot_list_append PySem.F.type_list_append mt_append (pv 1) (pa_cons (pe_op op_mod (pe_callTy call_int1 (by rfl) T.z_int (by decide +kernel) (pa_cons (pv 3) pa_nil)) pe_int) pa_nil)))
      (pss_one (ps_set (i := 3) sc__law_draws.nd rfl (Or.inl rfl) (pe_op op_fdiv (pv 3) pe_int)))))) (pss_cons (ps_set (i := 5) sc__law_draws.nd rfl (Or.inl rfl) (pe_op op_add (pv 3) pe_int))
      (pss_one (ps_for PassesOwn.never rfl (pi_range1 (by rfl) T.z_range (pa_cons pe_int pa_nil)) (pg_name (i := 4) sc__law_draws.nd rfl (Or.inl rfl)) (pss_cons (ps_set (i := 5) sc__law_draws.nd rfl (Or.inl rfl) (pe_op op_mod (pe_callTy call_int1 (by rfl) T.z_int (by decide +kernel) (pa_cons (pe_op op_add (pe_op op_add (pe_op op_mul (pv 5) pe_int) (pe_op op_mul pe_int (pe_op op_add (pv 2) (pv 4)))) pe_int) pa_nil)) pe_int))
      (pss_cons (ps_set (i := 5) sc__law_draws.nd rfl (Or.inl rfl) (pe_op op_mod (pe_callTy call_int1 (by rfl) T.z_int (by decide +kernel) (pa_cons (pe_op op_add (pe_op op_mul (pv 5) pe_int) pe_int) pa_nil)) pe_int))
      (pss_one (ps_expr (pe_bm PySem.F.plainAttrs_list PySem.F.slot_list_append PySem.F.type_list_append mt_append (pv 1) (pa_cons (pe_op op_mod (pe_callTy call_int1 (by rfl) T.z_int (by decide +kernel) (pa_cons (pe_op op_fdiv (pv 5) pe_int) pa_nil)) pe_int) pa_nil)))))))))))))
      (pss_one (ps_ret (pv 1))))), ?_⟩
  refine ⟨by decide, fun D hD => ?_⟩
  walk_at "rds"
  refine ⟨a, _, rfl, .inl ((same_upd hD).seq hS), ?_⟩
  refine ⟨_, rfl, by rw [List.length_map]; omega, by rw [List.length_map]; omega, ?_⟩
  refine for_it walk_range (Pv := fun i σ H' => ∃ y2 y3 y4 y5 ds, σ = [some (.ref a), some (.ref D), y2, y3, y4, y5] ∧ Same H H' ∧ H' D = some (.lst (ds.map V.int)) ∧ (∀ d ∈ ds, 0 ≤ d ∧ d < 1000) ∧ ds.length ≤ 40 * i) ⟨none, none, none, none, [], rfl, same_upd hD, upd_same, by simp, by simp⟩ (fun _ _ _ _ _ => trivial) (fun i x σ H1 H2 hi hp hy => ?_) (fun σ H1 hp => ?_)
  · obtain ⟨y2, y3, y4, y5, ds, rfl, sm, hd, hrg, hl⟩ := hp
    obtain ⟨rfl, rfl⟩ := hy
    have hi' : i < ns.length := by rw [List.length_map] at hi; omega
    have g : (ns.map V.int)[i]? = some (.int ns[i]) := by
      rw [List.getElem?_map, List.getElem?_eq_getElem hi']; rfl
    have e0 : (0 : Int) + (i : Int) = (i : Int) := by omega
    walk_at "rds"
    refine ⟨a, _, (i : Int), _, rfl, by show V.int (0 + (i : Int)) = V.int i; rw [e0], sm.seq hS, atI_nat g, ?_⟩
    walk_at "rds"
    have hc0 : (0 : Int) ≤ (if ns[i] < 0 then -ns[i] else ns[i]) := by split <;> omega
    generalize (if ns[i] < 0 then -ns[i] else ns[i]) = c at hc0
    refine ite2 (fun e => ?_) (fun e => ?_)
    · refine ⟨40, rfl, by decide, by decide, ?_⟩
      refine for_it walk_range (Pv := fun j σ H' => ∃ y4 ds c, σ = [some (.ref a), some (.ref D), some (.int (0 + (i : Int))), some (.int c), y4, y5] ∧ Same H H' ∧ H' D = some (.lst (ds.map V.int)) ∧ (∀ d ∈ ds, 0 ≤ d ∧ d < 1000) ∧ ds.length ≤ 40 * i + j ∧ 0 ≤ c) ⟨y4, ds, c, rfl, sm, hd, hrg, by omega, hc0⟩ (fun _ _ _ _ _ => trivial) (fun j x σ H3 H4 hj hp hy => ?_) (fun σ H3 hp => ?_)
      · obtain ⟨z4, ds, c, rfl, sm, hd, hrg, hl, hc0⟩ := hp
        obtain ⟨rfl, rfl⟩ := hy
        refine ⟨.ref D, rfl, .inl ⟨rfl, _, sq hd⟩, ?_⟩
        walk_at "rds"
        have hj' : j < 40 := hj
        refine ⟨_, _, _, rfl, rfl, hd, by rw [List.length_map]; exact sz1000' (by omega), ?_⟩
        refine ⟨_, rfl, _, _, rfl, rfl, ⟨by decide, by decide⟩, ?_⟩
        refine ⟨_, ds ++ [c % 1000], c / 1000, rfl, same_mut sm hD, lst_app, rng_app hrg (by omega) (by omega), ?_, by omega⟩
        rw [List.length_append, List.length_singleton]; omega
      · obtain ⟨z4, ds, c, rfl, sm, hd, hrg, hl, hc0⟩ := hp
        exact ⟨_, _, _, _, ds, rfl, sm, hd, hrg, by have : (40 : Int).toNat = 40 := rfl; omega⟩
    · have hc1 : c < 10 ^ 18 := by
        have : ¬ ((10 : Int) ^ (18 : Int).toNat ≤ c) := fun z => e (decide_eq_true z)
        have e18 : (10 : Int) ^ (18 : Int).toNat = 10 ^ 18 := rfl
        omega
      walk_at "rds"
      refine for_it walk_range (Pv := fun j σ H' => ∃ y4 ds m, σ = [some (.ref a), some (.ref D), some (.int (0 + (i : Int))), some (.int c), y4, some (.int m)] ∧ Same H H' ∧ H' D = some (.lst (ds.map V.int)) ∧ (∀ d ∈ ds, 0 ≤ d ∧ d < 1000) ∧ ds.length ≤ 40 * i + j ∧ 0 ≤ m ∧ m ≤ 10 ^ 18) ⟨y4, ds, _, rfl, sm, hd, hrg, by omega, by omega, by omega⟩ (fun _ _ _ _ _ => trivial) (fun j x σ H3 H4 hj hp hy => ?_) (fun σ H3 hp => ?_)
      · obtain ⟨z4, ds, m, rfl, sm, hd, hrg, hl, hm0, hm1⟩ := hp
        obtain ⟨rfl, rfl⟩ := hy
        have hj' : j < 8 := hj
        walk_at "rds"
        refine ⟨.inl ⟨rfl, _, sq hd⟩, ?_⟩
        walk_at "rds"
        refine ⟨_, _, _, rfl, rfl, hd, by rw [List.length_map]; exact sz1000' (by omega), ?_⟩
        refine ⟨_, ds ++ [_], _, rfl, same_mut sm hD, lst_app, rng_app hrg (by omega) (by omega), ?_, by omega, by omega⟩
        rw [List.length_append, List.length_singleton]; omega
      · obtain ⟨z4, ds, m, rfl, sm, hd, hrg, hl, hm0, hm1⟩ := hp
        exact ⟨_, _, _, _, ds, rfl, sm, hd, hrg, by have : (8 : Int).toNat = 8 := rfl; omega⟩
  · obtain ⟨y2, y3, y4, y5, ds, rfl, sm, hd, hrg, hl⟩ := hp
    refine ⟨.ref D, rfl, ?_⟩
    refine q _ _ _ sm hD hd hrg ?_
    rw [List.length_map] at hl; omega
end

/-! ### drawn numbers and strings -/
def prC (c : Nat) : Bool := decide (32 ≤ c) && decide (c ≤ 126) && decide (c ≠ 37)
def isPr (z : Str) : Bool := z.cps.toList.all prC
theorem app_tl (a b : Str) : (a ++ b).cps.toList = a.cps.toList ++ b.cps.toList := by
  show (a.cps ++ b.cps).toList = _
  rw [Array.toList_append]
theorem len_tl (z : Str) : z.cps.toList.length = z.length := Array.length_toList
theorem isPr_app (a b : Str) : isPr (a ++ b) = (isPr a && isPr b) := by
  unfold isPr
  rw [app_tl, List.all_append]

def spBig : Sp := fun vs H Q _ => ∃ (D A : Addr) (m : Int), vs = [.ref D, .ref A, .int m] ∧ Dr H D A ∧ 1 ≤ m ∧
  ∀ (H' : Hp) (r : Int), 0 ≤ r → r < m → Mod A H H' → Dr H' D A → Q (.int r) H'
def spChar : Sp := fun vs H Q _ => ∃ (n : Int), vs = [.int n] ∧ ∀ c : Nat, prC c = true → Q (.str ⟨#[c]⟩) H
def spString : Sp := fun vs H Q _ => ∃ (D A : Addr) (m : Int), vs = [.ref D, .ref A, .int m] ∧ Dr H D A ∧ 5 ≤ m ∧ m ≤ 1000000 ∧
  ∀ (H' : Hp) (z : Str), z.length ≤ m → isPr z = true → Mod A H H' → Dr H' D A → Q (.str z) H'
section
variable {P : Program} {w : World} {K : PySem.W.Frag} {mg : Str → Option Value} {base : Heap}
theorem c__law_big {C_BadGroup : Addr} {C_BadLetter : Addr} {C_BadBlock : Addr} {C_BadText : Addr} {C_JournalError : Addr} {C_DiskCrashed : Addr} {C_DiskError : Addr} {C_BadRecord : Addr} {C_JournalFull : Addr} {C_LedgerError : Addr} {C_Refused : Addr} {C_BadSchedule : Addr} {C_BadCommand : Addr} (T : Txt K mg C_BadGroup C_BadLetter C_BadBlock C_BadText C_JournalError C_DiskCrashed C_DiskError C_BadRecord C_JournalFull C_LedgerError C_Refused C_BadSchedule C_BadCommand) : Cal P w K mg base 2 "_law_big" spBig [] := by
  have c__law_next := c__law_next (P := P) (w := w) (base := base) T
  refine cal T.d__law_big sc__law_big (fun vs H Q E h => ?_) (fun f cdv A' outer s H vs Q E hr h => ?_)
  · obtain ⟨D, A, m, rfl, _⟩ := h; rfl
  obtain ⟨D, A, m, rfl, dr, hm, q⟩ := h
  refine ⟨_, (pss_cons (ps_set (i := 3) sc__law_big.nd rfl (Or.inl rfl) pe_int)
      (pss_cons (ps_for PassesOwn.never rfl (pi_range1 (by rfl) T.z_range (pa_cons pe_int pa_nil)) (pg_name (i := 4) sc__law_big.nd rfl (Or.inl rfl)) (pss_one (ps_set (i := 3) sc__law_big.nd rfl (Or.inl rfl) (pe_op op_add (pe_op op_mul pe_int (pv 3)) (pe_c c__law_next hr (by decide) (by rfl) (pa_cons (pv 0) (pa_cons (pv 1) (pa_cons pe_int pa_nil))))))))
      (pss_one (ps_ret (pe_op op_mod (pe_callTy call_int1 (by rfl) T.z_int (by decide +kernel) (pa_cons (pv 3) pa_nil)) (pv 2)))))), ?_⟩
  walk_at "rds"
  refine for_it walk_range (Pv := fun i σ H' => ∃ (n : Int) (y : Option V), σ = [some (.ref D), some (.ref A), some (.int m), some (.int n), y] ∧ 0 ≤ n ∧ Mod A H H' ∧ Dr H' D A) ⟨0, none, rfl, by decide, Mod.refl, dr⟩ (fun _ _ _ _ _ => trivial) (fun i x σ H1 H2 hi hp hy => ?_) (fun σ H1 hp => ?_)
  · obtain ⟨n, y, rfl, hn, md, dr⟩ := hp
    obtain ⟨rfl, rfl⟩ := hy
    walk_at "rds"
    refine ⟨D, A, 1000, rfl, dr, by decide, fun H3 r r0 r1 md3 dr3 => ?_⟩
    walk_at "rds"
    exact ⟨_, _, rfl, by omega, md.trans md3, dr3⟩
  · obtain ⟨n, y, rfl, hn, md, dr⟩ := hp
    walk_at "rds"
    exact q _ _ (Int.emod_nonneg _ (by omega)) (Int.emod_lt_of_pos _ (by omega)) md dr
theorem c__law_char {C_BadGroup : Addr} {C_BadLetter : Addr} {C_BadBlock : Addr} {C_BadText : Addr} {C_JournalError : Addr} {C_DiskCrashed : Addr} {C_DiskError : Addr} {C_BadRecord : Addr} {C_JournalFull : Addr} {C_LedgerError : Addr} {C_Refused : Addr} {C_BadSchedule : Addr} {C_BadCommand : Addr} (T : Txt K mg C_BadGroup C_BadLetter C_BadBlock C_BadText C_JournalError C_DiskCrashed C_DiskError C_BadRecord C_JournalFull C_LedgerError C_Refused C_BadSchedule C_BadCommand) : Cal P w K mg base 1 "_law_char" spChar [] := by
  refine cal T.d__law_char sc__law_char (fun vs H Q E h => ?_) (fun f cdv A' outer s H vs Q E hr h => ?_)
  · obtain ⟨n, rfl, _⟩ := h; rfl
  obtain ⟨n, rfl, q⟩ := h
  refine ⟨_, (pss_cons (ps_set (i := 1) sc__law_char.nd rfl (Or.inl rfl) pe_str)
      (pss_cons (ps_set (i := 1) sc__law_char.nd rfl (Or.inl rfl) (pe_op op_add_str (pv 1) pe_str))
      (pss_one (ps_ret (pe_ix ix_str (pv 1) (pe_op op_mod (pe_callTy call_int1 (by rfl) T.z_int (by decide +kernel) (pa_cons (pv 0) pa_nil)) pe_int) (fun _ _ => rfl)))))), ?_⟩
  walk_at "rds"
  have e94 : ∀ z : Str, z = Str.ofString " !\"#$&'()*+,-./0123456789:;<=>?@ABCDEFGHIJKLMNOPQRSTUVWXYZ[\\]^_`" ++ Str.ofString "abcdefghijklmnopqrstuvwxyz{|}~" → z.length = 94 ∧ isPr z = true := by
    intro z e; subst e; exact ⟨by decide +kernel, by decide +kernel⟩
  generalize Str.ofString " !\"#$&'()*+,-./0123456789:;<=>?@ABCDEFGHIJKLMNOPQRSTUVWXYZ[\\]^_`" ++ Str.ofString "abcdefghijklmnopqrstuvwxyz{|}~" = z at e94
  obtain ⟨hz, hp⟩ := e94 z rfl
  obtain ⟨c, hc⟩ := chr_at (z := z) (i := n % 94) (by omega) (by rw [hz]; omega)
  have hm : c ∈ z.cps.toList := by
    obtain ⟨j, _, e, _⟩ := atI_get hc
    exact List.mem_of_getElem? e
  refine ⟨_, _, c, rfl, rfl, by rw [hz]; exact sz1000 (by omega), hc, ?_⟩
  exact q c (List.all_eq_true.mp hp c hm)
theorem c__law_string {C_BadGroup : Addr} {C_BadLetter : Addr} {C_BadBlock : Addr} {C_BadText : Addr} {C_JournalError : Addr} {C_DiskCrashed : Addr} {C_DiskError : Addr} {C_BadRecord : Addr} {C_JournalFull : Addr} {C_LedgerError : Addr} {C_Refused : Addr} {C_BadSchedule : Addr} {C_BadCommand : Addr} (T : Txt K mg C_BadGroup C_BadLetter C_BadBlock C_BadText C_JournalError C_DiskCrashed C_DiskError C_BadRecord C_JournalFull C_LedgerError C_Refused C_BadSchedule C_BadCommand) : Cal P w K mg base 2 "_law_string" spString [] := by
  have c__law_next := c__law_next (P := P) (w := w) (base := base) T
  have c__law_char := c__law_char (P := P) (w := w) (base := base) T
  refine cal T.d__law_string sc__law_string (fun vs H Q E h => ?_) (fun f cdv A' outer s H vs Q E hr h => ?_)
  · obtain ⟨D, A, m, rfl, _⟩ := h; rfl
  obtain ⟨D, A, m, rfl, dr, hm, hm2, q⟩ := h
  refine ⟨_, (pss_cons (ps_set (i := 3) sc__law_string.nd rfl (Or.inl rfl) (pe_c c__law_next hr (by decide) (by rfl) (pa_cons (pv 0) (pa_cons (pv 1) (pa_cons pe_int pa_nil)))))
      (pss_cut (ps_if (pt_cmpR op_eq (pe_c c__law_next hr (by decide) (by rfl) (pa_cons (pv 0) (pa_cons (pv 1) (pa_cons pe_int pa_nil)))) pe_int (nomark _)) (pss_one (ps_set (i := 3) sc__law_string.nd rfl (Or.inl rfl) (pe_c c__law_next hr (by decide) (by rfl) (pa_cons (pv 0) (pa_cons (pv 1) (pa_cons (pe_op op_add (pv 2) pe_int) pa_nil)))))) pss_nil)
      (pss_cut (ps_if (pt_cmpR op_eq (pe_c c__law_next hr (by decide) (by rfl) (pa_cons (pv 0) (pa_cons (pv 1) (pa_cons pe_int pa_nil)))) pe_int (nomark _)) (pss_one (ps_set (i := 3) sc__law_string.nd rfl (Or.inl rfl) (pv 2))) pss_nil)
      (pss_cons (ps_set (i := 4) sc__law_string.nd rfl (Or.inl rfl) (pe_c c__law_next hr (by decide) (by rfl) (pa_cons (pv 0) (pa_cons (pv 1) (pa_cons pe_int pa_nil)))))
      (pss_cons (ps_set (i := 5) sc__law_string.nd rfl (Or.inl rfl) (pe_c c__law_next hr (by decide) (by rfl) (pa_cons (pv 0) (pa_cons (pv 1) (pa_cons pe_int pa_nil)))))
      (pss_cons (ps_set (i := 6) sc__law_string.nd rfl (Or.inl rfl) pe_str)
      (pss_cons (ps_for PassesOwn.never rfl (pi_range1 (by rfl) T.z_range (pa_cons (pv 3) pa_nil)) (pg_name (i := 7) sc__law_string.nd rfl (Or.inl rfl)) (pss_one (ps_if (pt_cmpR op_lt (pv 7) pe_int (nomark _)) (pss_one (ps_set (i := 6) sc__law_string.nd rfl (Or.inl rfl) (pe_op op_add_str (pv 6) (pe_c c__law_char hr (by decide) (by rfl) (pa_cons (pe_c c__law_next hr (by decide) (by rfl) (pa_cons (pv 0) (pa_cons (pv 1) (pa_cons pe_int pa_nil)))) pa_nil))))) (pss_one (ps_set (i := 6) sc__law_string.nd rfl (Or.inl rfl) (pe_op op_add_str (pv 6) (pe_c c__law_char hr (by decide) (by rfl) (pa_cons (pe_op op_add (pv 4) (pe_op op_mul (pv 5) (pv 7))) pa_nil))))))))
      (pss_one (ps_ret (pv 6)))))))))), ?_⟩
  walk_at "rds"
  refine ⟨D, A, 6, rfl, dr, by decide, fun H1 s1 s10 s11 md1 dr1 => ?_⟩
  obtain ⟨s1, rfl⟩ := Int.eq_ofNat_of_zero_le s10
  refine ⟨fun σ' H' => ∃ n : Nat, σ' = [some (.ref D), some (.ref A), some (.int m), some (.int n), none, none, none, none] ∧ (n : Int) ≤ m ∧ Mod A H H' ∧ Dr H' D A, ?_, ?_⟩
  · walk_at "rds"
    refine ⟨D, A, 7, rfl, dr1, by decide, fun H2 s2 s20 s21 md2 dr2 => ?_⟩
    walk_at "rds"
    refine ite2 (fun _ => ?_) (fun _ => ?_)
    · walk_at "rds"
      refine ⟨D, A, _, rfl, dr2, by omega, fun H3 s3 s30 s31 md3 dr3 => ?_⟩
      obtain ⟨s3, rfl⟩ := Int.eq_ofNat_of_zero_le s30
      exact ⟨s3, rfl, by omega, (md1.trans md2).trans md3, dr3⟩
    · exact ⟨s1, rfl, by omega, md1.trans md2, dr2⟩
  rintro σ' H2 ⟨n, rfl, hn, md2, dr2⟩
  refine ⟨fun σ' H' => ∃ n : Nat, σ' = [some (.ref D), some (.ref A), some (.int m), some (.int n), none, none, none, none] ∧ (n : Int) ≤ m ∧ Mod A H H' ∧ Dr H' D A, ?_, ?_⟩
  · walk_at "rds"
    refine ⟨D, A, 9, rfl, dr2, by decide, fun H3 s3 s30 s31 md3 dr3 => ?_⟩
    walk_at "rds"
    obtain ⟨m, rfl⟩ := Int.eq_ofNat_of_zero_le (show 0 ≤ m by omega)
    refine ite2 (fun _ => ?_) (fun _ => ?_)
    · walk_at "rds"
      exact ⟨m, rfl, by omega, md2.trans md3, dr3⟩
    · exact ⟨n, rfl, by omega, md2.trans md3, dr3⟩
  rintro σ' H3 ⟨n, rfl, hn, md3, dr3⟩
  walk_at "rds"
  refine ⟨D, A, 94, rfl, dr3, by decide, fun H4 f1 f10 f11 md4 dr4 => ?_⟩
  walk_at "rds"
  refine ⟨D, A, 3, rfl, dr4, by decide, fun H5 f2 f20 f21 md5 dr5 => ?_⟩
  walk_at "rds"
  refine for_it walk_range (Pv := fun i σ H' => ∃ (z : Str) (y : Option V), σ = [some (.ref D), some (.ref A), some (.int m), some (.int n), some (.int f1), some (.int f2), some (.str z), y] ∧ z.length = i ∧ isPr z = true ∧ Mod A H H' ∧ Dr H' D A) ⟨Str.ofString "", none, rfl, by decide, by decide, (md3.trans md4).trans md5, dr5⟩ (fun _ _ _ _ _ => trivial) (fun i x σ H6 H7 hi hp hy => ?_) (fun σ H6 hp => ?_)
  · obtain ⟨z, y, rfl, hz, hpz, md, dr⟩ := hp
    obtain ⟨rfl, rfl⟩ := hy
    have hi' : i < n := by omega
    have one : ∀ c : Nat, prC c = true → (z ++ ⟨#[c]⟩ : Str).length = i + 1 ∧ isPr (z ++ ⟨#[c]⟩) = true := fun c hc => by
      refine ⟨by rw [Str.length_append, hz]; rfl, ?_⟩
      rw [isPr_app, hpz]
      show (true && List.all [c] prC) = true
      rw [List.all_cons, hc]; rfl
    walk_at "rds"
    refine ite2 (fun _ => ?_) (fun _ => ?_)
    · walk_at "rds"
      refine ⟨D, A, 94, rfl, dr, by decide, fun H8 f3 f30 f31 md8 dr8 => ?_⟩
      refine ⟨f3, rfl, fun c hc => ?_⟩
      have l1 : (⟨#[c]⟩ : Str).length = 1 := rfl
      refine ⟨_, _, rfl, rfl, by rw [l1]; exact sz1000'' (by omega), ?_⟩
      exact ⟨_, _, rfl, (one c hc).1, (one c hc).2, md.trans md8, dr8⟩
    · walk_at "rds"
      intro c hc
      have l1 : (⟨#[c]⟩ : Str).length = 1 := rfl
      refine ⟨_, _, rfl, rfl, by rw [l1]; exact sz1000'' (by omega), ?_⟩
      exact ⟨_, _, rfl, (one c hc).1, (one c hc).2, md, dr⟩
  · obtain ⟨z, y, rfl, hz, hpz, md, dr⟩ := hp
    walk_at "rds"
    exact q _ z (by omega) hpz md dr
end

/-! ### values as data: what stands at them does not change -/
def TupAt (K : PySem.W.Frag) (H : Hp) (a : Addr) (xs : List V) : Prop := H a = some (.tup xs) ∨ KTup K a xs
section
variable {K : PySem.W.Frag}
theorem TupAt.sq {H : Hp} {a : Addr} {xs : List V} (h : TupAt K H a xs) : SqT K H a xs := h.elim SqT.of .inr
theorem TupAt.ty {H : Hp} {a : Addr} {xs : List V} (h : TupAt K H a xs) : TyX K H (.ref a) (.type "tuple") := h.elim (fun h => .base (.tup h)) (fun ⟨_, _, _, h1, h2, _⟩ => .kTuple h1 h2)
theorem TupAt.same {H H' : Hp} {a : Addr} {xs : List V} (h : TupAt K H a xs) (s : Same H H') : TupAt K H' a xs := h.imp (s _ _) id
/-- none of those at A (none: no matter) -/
def NeA (A : Option Addr) (a : Addr) : Prop := match A with | some b => a ≠ b | none => True
mutual
/-- v is the data d; the lists in it are none of those at A -/
inductive Dt (K : PySem.W.Frag) (H : Hp) (A : Option Addr) : V → PyData → Prop
  | non : Dt K H A .non .none
  | bl (b : Bool) : Dt K H A (.bl b) (.bool b)
  | int (i : Int) : Dt K H A (.int i) (.int i)
  | str (z : Str) (h : z.length ≤ 1000000) : Dt K H A (.str z) (.str z)
  | lst {a : Addr} {xs : List V} {ds : List PyData} : NeA A a → H a = some (.lst xs) → DtAll K H A xs ds → Dt K H A (.ref a) (.list ds)
  | tup {a : Addr} {xs : List V} {ds : List PyData} : TupAt K H a xs → DtAll K H A xs ds → Dt K H A (.ref a) (.tuple ds)
inductive DtAll (K : PySem.W.Frag) (H : Hp) (A : Option Addr) : List V → List PyData → Prop
  | nil : DtAll K H A [] []
  | cons {v : V} {vs : List V} {d : PyData} {ds : List PyData} : Dt K H A v d → DtAll K H A vs ds → DtAll K H A (v :: vs) (d :: ds)
end
theorem DtAll.length {H : Hp} {A : Option Addr} : ∀ {xs : List V} {ds : List PyData}, DtAll K H A xs ds → xs.length = ds.length
  | _, _, .nil => rfl
  | _, _, .cons _ r => by rw [List.length_cons, List.length_cons, r.length]
theorem DtAll.get {H : Hp} {A : Option Addr} : ∀ {xs : List V} {ds : List PyData} {i : Nat} {x : V}, DtAll K H A xs ds → xs[i]? = some x → ∃ d, ds[i]? = some d ∧ Dt K H A x d
  | _, _, _, _, .nil, e => by simp at e
  | _, _, 0, x, .cons h _, e => by simp at e; subst e; exact ⟨_, rfl, h⟩
  | _, _, i + 1, x, .cons _ r, e => by
    obtain ⟨d, h1, h2⟩ := r.get (i := i) (x := x) (by simpa using e)
    exact ⟨d, by simpa using h1, h2⟩
theorem DtAll.getD {H : Hp} {A : Option Addr} {xs : List V} {ds : List PyData} {i : Nat} {d : PyData} (h : DtAll K H A xs ds) (e : ds[i]? = some d) : ∃ x, xs[i]? = some x ∧ Dt K H A x d := by
  have hi : i < ds.length := (List.getElem?_eq_some_iff.mp e).1
  have hi' : i < xs.length := by rw [h.length]; exact hi
  obtain ⟨d', h1, h2⟩ := h.get (List.getElem?_eq_getElem hi')
  rw [e] at h1
  cases h1
  exact ⟨_, List.getElem?_eq_getElem hi', h2⟩
mutual
theorem Dt.mod {H H' : Hp} {A D : Addr} (s : Mod A H H') (dr : Dr H D A) : ∀ (d : PyData) (v : V), Dt K H (some A) v d → Dt K H' (some A) v d
  | .none, _, h => by cases h; exact .non
  | .bool b, _, h => by cases h; exact .bl b
  | .int i, _, h => by cases h; exact .int i
  | .str z, _, h => by cases h with | str _ hz => exact .str z hz
  | .list ds, _, h => by cases h with | lst hn ha hd => exact .lst hn (s _ _ hn ha) (DtAll.mod s dr ds _ hd)
  | .tuple ds, _, h => by
    cases h with
    | tup ha hd =>
      obtain ⟨_, _, _, _, e, _⟩ := id dr
      exact .tup (ha.imp (fun ha => s _ _ (ne_of ha e (by intro z; cases z)) ha) id) (DtAll.mod s dr ds _ hd)
  | .dict _, _, h => by cases h
theorem DtAll.mod {H H' : Hp} {A D : Addr} (s : Mod A H H') (dr : Dr H D A) : ∀ (ds : List PyData) (xs : List V), DtAll K H (some A) xs ds → DtAll K H' (some A) xs ds
  | [], _, h => by cases h; exact .nil
  | d :: ds, _, h => by cases h with | cons h1 h2 => exact .cons (Dt.mod s dr d _ h1) (DtAll.mod s dr ds _ h2)
end
mutual
theorem Dt.same {H H' : Hp} {A : Option Addr} (s : Same H H') : ∀ (d : PyData) (v : V), Dt K H A v d → Dt K H' A v d
  | .none, _, h => by cases h; exact .non
  | .bool b, _, h => by cases h; exact .bl b
  | .int i, _, h => by cases h; exact .int i
  | .str z, _, h => by cases h with | str _ hz => exact .str z hz
  | .list ds, _, h => by cases h with | lst hn ha hd => exact .lst hn (s _ _ ha) (DtAll.same s ds _ hd)
  | .tuple ds, _, h => by cases h with | tup ha hd => exact .tup (ha.same s) (DtAll.same s ds _ hd)
  | .dict _, _, h => by cases h
theorem DtAll.same {H H' : Hp} {A : Option Addr} (s : Same H H') : ∀ (ds : List PyData) (xs : List V), DtAll K H A xs ds → DtAll K H' A xs ds
  | [], _, h => by cases h; exact .nil
  | d :: ds, _, h => by cases h with | cons h1 h2 => exact .cons (Dt.same s d _ h1) (DtAll.same s ds _ h2)
end
mutual
/-- data for a comparison -/
theorem Dt.dp {H : Hp} {A : Option Addr} : ∀ (d : PyData) (v : V), Dt K H A v d → Dp K H v d
  | .none, _, h => by cases h; exact .non
  | .bool b, _, h => by cases h; exact .bl b
  | .int i, _, h => by cases h; exact .int i
  | .str z, _, h => by cases h; exact .str z
  | .list ds, _, h => by cases h with | lst hn ha hd => exact .lst (SqL.of ha) (DtAll.dp ds _ hd)
  | .tuple ds, _, h => by cases h with | tup ha hd => exact .tup ha.sq (DtAll.dp ds _ hd)
  | .dict _, _, h => by cases h
theorem DtAll.dp {H : Hp} {A : Option Addr} : ∀ (ds : List PyData) (xs : List V), DtAll K H A xs ds → DpAll K H xs ds
  | [], _, h => by cases h; exact .nil
  | d :: ds, _, h => by cases h with | cons h1 h2 => exact .cons (Dt.dp d _ h1) (DtAll.dp ds _ h2)
end
theorem Dt.on {H H' : Hp} {A : Option Addr} {v : V} {d : PyData} (h : Dt K H A v d) (s : Same H H') : Dt K H' A v d := Dt.same s d v h
theorem DtAll.on {H H' : Hp} {A : Option Addr} {xs : List V} {ds : List PyData} (h : DtAll K H A xs ds) (s : Same H H') : DtAll K H' A xs ds := DtAll.same s ds xs h
theorem Dt.by {H H' : Hp} {A D : Addr} {v : V} {d : PyData} (h : Dt K H (some A) v d) (s : Mod A H H') (dr : Dr H D A) : Dt K H' (some A) v d := Dt.mod s dr d v h
theorem DtAll.by {H H' : Hp} {A D : Addr} {xs : List V} {ds : List PyData} (h : DtAll K H (some A) xs ds) (s : Mod A H H') (dr : Dr H D A) : DtAll K H' (some A) xs ds := DtAll.mod s dr ds xs h
theorem Dt.two {H : Hp} {A : Option Addr} {v : V} {d : PyData} (h : Dt K H A v d) : (∃ a xs ds, v = .ref a ∧ d = .tuple ds ∧ TupAt K H a xs ∧ DtAll K H A xs ds) ∨ (∃ T, TyX K H v (.type T) ∧ kitB T "tuple" = some false ∧ ∀ ds, d ≠ .tuple ds) := by
  cases h with
  | tup ha hx => exact .inl ⟨_, _, _, rfl, rfl, ha, hx⟩
  | str z hz => exact .inr ⟨_, .base (.str z), by decide +kernel, fun _ z => nomatch z⟩
  | int i => exact .inr ⟨_, .base (.int i), by decide +kernel, fun _ z => nomatch z⟩
  | non => exact .inr ⟨_, .base .non, by decide +kernel, fun _ z => nomatch z⟩
  | bl b => exact .inr ⟨_, .base (.bl b), by decide +kernel, fun _ z => nomatch z⟩
  | lst _ ha _ => exact .inr ⟨_, .base (.lst ha), by decide +kernel, fun _ z => nomatch z⟩
/-- the kind of a value -/
def dTy : PyData → String
  | .none => "NoneType" | .bool _ => "bool" | .int _ => "int" | .str _ => "str" | .list _ => "list" | .tuple _ => "tuple" | .dict _ => "dict"
theorem Dt.ty {H : Hp} {A : Option Addr} {v : V} {d : PyData} (h : Dt K H A v d) : TyX K H v (.type (dTy d)) := by
  cases h with
  | non => exact .base .non
  | bl b => exact .base (.bl b)
  | int i => exact .base (.int i)
  | str z _ => exact .base (.str z)
  | lst _ ha _ => exact .base (.lst ha)
  | tup ha _ => exact ha.ty
/-! the predicates of the program, upon data -/
def dInt (lo hi : Int) : PyData → Bool
  | .int i => decide (lo ≤ i ∧ i ≤ hi)
  | _ => false
def dShort (m : Int) : PyData → Bool
  | .str z => isPr z && decide ((z.length : Int) ≤ m)
  | _ => false
def dCmd : PyData → Bool
  | .tuple [c, n, t] => dInt (-100) (-1) c && dInt 1 1000000000000 n && dShort 240 t
  | _ => false
def dClient : PyData → Int
  | .tuple (.int c :: _) => c
  | _ => 0
def dAfter : Option Int → PyData → Bool
  | some k, d => decide (k < dClient d)
  | none, _ => true
def befV : Option Int → V
  | some k => .int k
  | none => .non
def dCmdsFrom : Option Int → List PyData → Bool
  | _, [] => true
  | b, d :: r => dCmd d && dAfter b d && dCmdsFrom (some (dClient d)) r
theorem dCmdsFrom_cons (b : Option Int) (d : PyData) (r : List PyData) : dCmdsFrom b (d :: r) = (dCmd d && dAfter b d && dCmdsFrom (some (dClient d)) r) := by cases b <;> rfl
theorem dCmdsFrom_nil (b : Option Int) : dCmdsFrom b [] = true := by cases b <;> rfl
def dCmds : PyData → Bool
  | .tuple ds => dCmdsFrom none ds
  | _ => false
def dHeight (parent : Int) (h : PyData) : Bool := if parent = 0 then dInt 1 1 h else dInt 2 (parent + 1) h
def dBlock4 (e p h cs : PyData) : Bool := match e, p with
  | .int e, .int p => dInt 1 1000000000000 (.int e) && dInt 0 (e - 1) (.int p) && dHeight p h && dCmds cs
  | _, _ => false
def dBlock : PyData → Bool
  | .tuple [e, p, h, cs] => dBlock4 e p h cs
  | _ => false
def dEmpty : PyData → Bool
  | .tuple [] => true
  | _ => false
def dGen : PyData → Bool
  | .tuple [e, p, h, cs] => dInt 0 0 e && dInt 0 0 p && dInt 0 0 h && dEmpty cs
  | _ => false
theorem DtAll.four {H : Hp} {A : Option Addr} {xs : List V} {ds : List PyData} (h : DtAll K H A xs ds) (hl : xs.length = 4) :
    ∃ x1 x2 x3 x4 d1 d2 d3 d4, xs = [x1, x2, x3, x4] ∧ ds = [d1, d2, d3, d4] ∧ Dt K H A x1 d1 ∧ Dt K H A x2 d2 ∧ Dt K H A x3 d3 ∧ Dt K H A x4 d4 := by
  match xs, ds, h with
  | [_, _, _, _], _, .cons h1 (.cons h2 (.cons h3 (.cons h4 .nil))) => exact ⟨_, _, _, _, _, _, _, _, rfl, rfl, h1, h2, h3, h4⟩
theorem dBlock4_e1 {e p h cs : PyData} (z : dInt 1 1000000000000 e = false) : dBlock4 e p h cs = false := by
  unfold dBlock4
  split
  · rw [z]; rfl
  · rfl
theorem dBlock4_e2 {e : Int} {p h cs : PyData} (z : dInt 0 (e - 1) p = false) : dBlock4 (.int e) p h cs = false := by
  unfold dBlock4
  split
  · rename_i h1
    cases h1
    rw [z, Bool.and_false]; rfl
  · rfl
/-- a predicate of one value, kept by growing heaps -/
def spPred (K : PySem.W.Frag) (A : Option Addr) (f : PyData → Bool) : Sp := fun vs H Q _ => ∃ (v : V) (d : PyData), vs = [v] ∧ Dt K H A v d ∧ ∀ H', Same H H' → Q (.bl (f d)) H'
def spIntD (K : PySem.W.Frag) (A : Option Addr) : Sp := fun vs H Q _ => ∃ (v : V) (d : PyData) (lo hi : Int), vs = [v, .int lo, .int hi] ∧ Dt K H A v d ∧ Q (.bl (dInt lo hi d)) H
def spShortD (K : PySem.W.Frag) (A : Option Addr) : Sp := fun vs H Q _ => ∃ (v : V) (d : PyData) (m : Int), vs = [v, .int m] ∧ Dt K H A v d ∧ ∀ H', Same H H' → Q (.bl (dShort m d)) H'
theorem dInt_inv {lo hi : Int} {d : PyData} (h : dInt lo hi d = true) : ∃ i, d = .int i ∧ lo ≤ i ∧ i ≤ hi := by
  cases d with
  | int i =>
    have h : decide (lo ≤ i ∧ i ≤ hi) = true := h
    exact ⟨i, rfl, (of_decide_eq_true h).1, (of_decide_eq_true h).2⟩
  | none => cases h
  | bool b => cases h
  | str z => cases h
  | list ds => cases h
  | tuple ds => cases h
  | dict k => cases h
theorem dShort_inv {m : Int} {d : PyData} (h : dShort m d = true) : ∃ z : Str, d = .str z ∧ isPr z = true ∧ (z.length : Int) ≤ m := by
  cases d with
  | str z =>
    have h : (isPr z && decide ((z.length : Int) ≤ m)) = true := h
    obtain ⟨h1, h2⟩ := Bool.and_eq_true_iff.mp h
    exact ⟨z, rfl, h1, of_decide_eq_true h2⟩
  | none => cases h
  | bool b => cases h
  | int i => cases h
  | list ds => cases h
  | tuple ds => cases h
  | dict k => cases h
theorem dCmd_inv {d : PyData} (h : dCmd d = true) : ∃ (c n : Int) (t : Str), d = .tuple [.int c, .int n, .str t] ∧ -100 ≤ c ∧ c ≤ -1 ∧ 1 ≤ n ∧ n ≤ 1000000000000 ∧ isPr t = true ∧ (t.length : Int) ≤ 240 := by
  unfold dCmd at h
  split at h
  · rename_i c n t
    rw [Bool.and_eq_true, Bool.and_eq_true] at h
    obtain ⟨⟨h1, h2⟩, h3⟩ := h
    obtain ⟨c, rfl, c0, c1⟩ := dInt_inv h1
    obtain ⟨n, rfl, n0, n1⟩ := dInt_inv h2
    obtain ⟨t, rfl, t0, t1⟩ := dShort_inv h3
    exact ⟨c, n, t, rfl, c0, c1, n0, n1, t0, t1⟩
  · cases h
/-- what a tuple of three ints, ints, texts stands for -/
theorem Dt.three {H : Hp} {A : Option Addr} {v : V} {d1 d2 d3 : PyData} (h : Dt K H A v (.tuple [d1, d2, d3])) : ∃ a x1 x2 x3, v = .ref a ∧ TupAt K H a [x1, x2, x3] ∧ Dt K H A x1 d1 ∧ Dt K H A x2 d2 ∧ Dt K H A x3 d3 := by
  cases h with
  | tup ha hd =>
    cases hd with
    | cons h1 hd =>
      cases hd with
      | cons h2 hd =>
        cases hd with
        | cons h3 hd =>
          cases hd
          exact ⟨_, _, _, _, rfl, ha, h1, h2, h3⟩
mutual
theorem Dt.any {H : Hp} {A : Option Addr} : ∀ (d : PyData) (v : V), Dt K H A v d → Dt K H none v d
  | .none, _, h => by cases h; exact .non
  | .bool b, _, h => by cases h; exact .bl b
  | .int i, _, h => by cases h; exact .int i
  | .str z, _, h => by cases h with | str _ hz => exact .str z hz
  | .list ds, _, h => by cases h with | lst hn ha hd => exact .lst trivial ha (DtAll.any ds _ hd)
  | .tuple ds, _, h => by cases h with | tup ha hd => exact .tup ha (DtAll.any ds _ hd)
  | .dict _, _, h => by cases h
theorem DtAll.any {H : Hp} {A : Option Addr} : ∀ (ds : List PyData) (xs : List V), DtAll K H A xs ds → DtAll K H none xs ds
  | [], _, h => by cases h; exact .nil
  | d :: ds, _, h => by cases h with | cons h1 h2 => exact .cons (Dt.any d _ h1) (DtAll.any ds _ h2)
end
theorem Dt.an {H : Hp} {A : Option Addr} {v : V} {d : PyData} (h : Dt K H A v d) : Dt K H none v d := Dt.any d v h
/-! data without lists -/
mutual
def noL : PyData → Bool
  | .list _ => false
  | .tuple ds => noLs ds
  | _ => true
def noLs : List PyData → Bool
  | [] => true
  | d :: r => noL d && noLs r
end
/-- tracked tuples stay -/
def Tp (H H' : Hp) : Prop := ∀ a xs, H a = some (.tup xs) → H' a = some (.tup xs)
mutual
theorem Dt.keep {H H' : Hp} {A B : Option Addr} (t : Tp H H') : ∀ (d : PyData) (v : V), noL d = true → Dt K H A v d → Dt K H' B v d
  | .none, _, _, h => by cases h; exact .non
  | .bool b, _, _, h => by cases h; exact .bl b
  | .int i, _, _, h => by cases h; exact .int i
  | .str z, _, _, h => by cases h with | str _ hz => exact .str z hz
  | .list ds, _, n, _ => by cases n
  | .tuple ds, _, n, h => by cases h with | tup ha hd => exact .tup (ha.imp (t _ _) id) (DtAll.keep t ds _ n hd)
  | .dict _, _, _, h => by cases h
theorem DtAll.keep {H H' : Hp} {A B : Option Addr} (t : Tp H H') : ∀ (ds : List PyData) (xs : List V), noLs ds = true → DtAll K H A xs ds → DtAll K H' B xs ds
  | [], _, _, h => by cases h; exact .nil
  | d :: ds, _, n, h => by
    have n : (noL d && noLs ds) = true := n
    rw [Bool.and_eq_true] at n
    cases h with | cons h1 h2 => exact .cons (Dt.keep t d _ n.1 h1) (DtAll.keep t ds _ n.2 h2)
end
theorem DtAll.snoc {H : Hp} {A : Option Addr} : ∀ {xs : List V} {ds : List PyData} {x : V} {d : PyData}, DtAll K H A xs ds → Dt K H A x d → DtAll K H A (xs ++ [x]) (ds ++ [d])
  | _, _, _, _, .nil, h => .cons h .nil
  | _, _, _, _, .cons h r, h2 => .cons h (r.snoc h2)
theorem TupAt.tp {H H' : Hp} {a : Addr} {xs : List V} (h : TupAt K H a xs) (t : Tp H H') : TupAt K H' a xs := h.imp (t _ _) id
theorem Same.tp {H H' : Hp} (s : Same H H') : Tp H H' := fun _ _ h => s _ _ h
theorem Mod.tp {H H' : Hp} {A D : Addr} (s : Mod A H H') (dr : Dr H D A) : Tp H H' := fun a xs h => by
  obtain ⟨_, _, _, _, e, _⟩ := id dr
  exact s _ _ (ne_of h e (by intro z; cases z)) h
theorem tp_put {H : Hp} {l : Addr} {xs ys : List V} (h : H l = some (.lst xs)) : Tp H (upd H l (.lst ys)) := fun a zs e => by
  rw [upd_ne (ne_of e h (by intro z; cases z))]; exact e
theorem dCmd_noL {d : PyData} (h : dCmd d = true) : noL d = true := by
  obtain ⟨c, n, t, rfl, _⟩ := dCmd_inv h
  rfl
theorem dCmdsFrom_noL : ∀ {ds : List PyData} {b : Option Int}, dCmdsFrom b ds = true → noLs ds = true
  | [], _, _ => rfl
  | d :: r, b, h => by
    rw [dCmdsFrom_cons, Bool.and_eq_true, Bool.and_eq_true] at h
    show (noL d && noLs r) = true
    rw [dCmd_noL h.1.1, dCmdsFrom_noL h.2]; rfl
theorem dCmdsFrom_all : ∀ {ds : List PyData} {b : Option Int}, dCmdsFrom b ds = true → ∀ d ∈ ds, dCmd d = true
  | [], _, _, _, m => nomatch m
  | d :: r, b, h, e, m => by
    rw [dCmdsFrom_cons, Bool.and_eq_true, Bool.and_eq_true] at h
    rcases List.mem_cons.mp m with rfl | m
    · exact h.1.1
    · exact dCmdsFrom_all h.2 e m
def lastC : Option Int → List PyData → Option Int
  | b, [] => b
  | _, d :: r => lastC (some (dClient d)) r
theorem lastC_snoc : ∀ (ds : List PyData) (b : Option Int) (d : PyData), lastC b (ds ++ [d]) = some (dClient d)
  | [], _, _ => rfl
  | _ :: r, _, d => lastC_snoc r _ d
theorem dCmdsFrom_snoc : ∀ (ds : List PyData) (b : Option Int) (d : PyData), dCmdsFrom b (ds ++ [d]) = (dCmdsFrom b ds && (dCmd d && dAfter (lastC b ds) d))
  | [], b, d => by
    show dCmdsFrom b [d] = _
    rw [dCmdsFrom_cons, dCmdsFrom_nil, dCmdsFrom_nil, Bool.and_true, Bool.true_and]; rfl
  | e :: r, b, d => by
    show dCmdsFrom b (e :: (r ++ [d])) = _
    rw [dCmdsFrom_cons, dCmdsFrom_snoc r, dCmdsFrom_cons, Bool.and_assoc, Bool.and_assoc, Bool.and_assoc]; rfl
end
theorem noLs_all : ∀ {ds : List PyData}, (∀ d ∈ ds, noL d = true) → noLs ds = true
  | [], _ => rfl
  | d :: r, h => by
    show (noL d && noLs r) = true
    rw [h d List.mem_cons_self, noLs_all (fun e he => h e (List.mem_cons_of_mem _ he))]; rfl

theorem same_none {H H' : Hp} {p : Addr} (s : Same H H') (h : H' p = none) : H p = none := by
  cases e : H p with
  | none => rfl
  | some o => rw [s p o e] at h; cases h

/-! ### comprehensions over a list or a range, as data -/
section
variable {K : PySem.W.Frag}
theorem filterMap_take {α β : Type} (F : α → Option β) (ds : List α) {i : Nat} {d : α} (h : ds[i]? = some d) : (ds.take (i + 1)).filterMap F = (ds.take i).filterMap F ++ (F d).toList := by
  rw [List.take_add_one, h, List.filterMap_append]
  congr 1
theorem noLs_app {xs ys : List PyData} (h1 : noLs xs = true) (h2 : noLs ys = true) : noLs (xs ++ ys) = true := noLs_all fun d hd => by
  rcases List.mem_append.mp hd with h | h
  · exact noLs_mem' h1 h
  · exact noLs_mem' h2 h
where noLs_mem' : ∀ {ds : List PyData} {d : PyData}, noLs ds = true → d ∈ ds → noL d = true
  | e :: r, d, h, m => by
    have h : (noL e && noLs r) = true := h
    rw [Bool.and_eq_true] at h
    rcases List.mem_cons.mp m with rfl | m
    · exact h.1
    · exact noLs_mem' h.2 m
/-- over a walk whose items are told by P -/
theorem lc_walk {α : Type} {J : It} {n : Nat} {G : Hp → Prop} {Y : Nat → Hp → V → Hp → Prop} (w : Walk J n G Y) {g : TG} {tt : TT} {te : TE} {vs : List Nat} {σ : L2.St} {H1 : Hp} {D : Addr} {Qd : Hp → Prop} (hD : H1 D = none) (ds : List α) (hl : ds.length = n) (hn : n ≤ 100000) (F : α → Option PyData)
    (hF : ∀ d e, d ∈ ds → F d = some e → noL e = true)
    (hG : ∀ H', Same H1 H' → G H') (hY : ∀ i H x H', Y i H x H' → H' = H)
    (hs : ∀ i x d H7, i < n → ds[i]? = some d → Same H1 H7 → Y i H7 x H7 → ∀ (R : V → Hp → Prop) (R0 : Hp → Prop), (∀ e, F d = some e → ∀ y H8, Same H7 H8 → Dt K H8 none y e → R y H8) → (F d = none → ∀ H8, Same H7 H8 → R0 H8) →
      g x (wipe σ vs) H7 fun σ2 H2 => wipe σ2 vs = wipe σ vs ∧ tt σ2 H2 fun b H3 => if b = true then te σ2 H3 R else R0 H3)
    (hd : ∀ H' xs', Same H1 H' → H' D = some (.lst xs') → DtAll K H' none xs' (ds.filterMap F) → Qd H') :
    ∃ W : Nat → Nat → Hp → Prop, (∃ m, W 0 m (upd H1 D (.lst []))) ∧ ∀ i m H, W i m H →
      (J.stop i H ∧ Qd H) ∨ (J.go i H ∧ ∃ Nx : Hp → Prop, (∀ H', Nx H' → ∃ m', m' < m ∧ W (i + 1) m' H') ∧ ∀ x H', J.yld i H x H' → g x (wipe σ vs) H' fun σ2 H2 => wipe σ2 vs = wipe σ vs ∧ tt σ2 H2 fun b H3 =>
        if b = true then te σ2 H3 fun y H4 => ∃ acc, H4 D = some (.lst acc) ∧ acc.length < sizeLine ∧ Nx (upd H4 D (.lst (acc ++ [y]))) else Nx H3) := by
  refine lc_it w (Pv := fun i H' => ∃ xs', Same H1 H' ∧ H' D = some (.lst xs') ∧ DtAll K H' none xs' ((ds.take i).filterMap F)) ⟨[], same_upd hD, upd_same, .nil⟩ (fun i H _ h => by obtain ⟨_, h, _⟩ := h; exact hG _ h) (fun i x H6 H7 hi hp hy => ?_) (fun H6 hp => ?_)
  · obtain ⟨xs', s6, hD6, hx6⟩ := hp
    obtain rfl := hY i H6 x H7 hy
    obtain ⟨d, gd⟩ : ∃ d, ds[i]? = some d := ⟨_, List.getElem?_eq_getElem (by omega)⟩
    have hx7 := filterMap_take F ds gd
    have hnl : noLs ((ds.take i).filterMap F) = true := noLs_all fun e he => by
      obtain ⟨d', hd', e'⟩ := List.mem_filterMap.mp he
      exact hF d' e (List.mem_of_mem_take hd') e'
    have hll : xs'.length ≤ i := by
      rw [hx6.length]
      have := List.length_filterMap_le F (ds.take i)
      rw [List.length_take] at this
      omega
    refine hs i x d H7 hi gd s6 hy _ _ (fun e he y H8 s8 hdy => ?_) (fun he H8 s8 => ?_)
    · have hD8 := s8 _ _ hD6
      refine ⟨xs', hD8, sz1000' (by omega), xs' ++ [y], same_mut (s6.trans s8) hD, upd_same, ?_⟩
      rw [hx7, he]
      have hne := hF d e (List.mem_of_getElem? gd) he
      exact DtAll.keep (A := none) (tp_put hD8) _ _ (noLs_app hnl (by show (noL e && true) = true; rw [hne]; rfl)) ((hx6.on s8).snoc hdy)
    · refine ⟨xs', s6.trans s8, s8 _ _ hD6, ?_⟩
      rw [hx7, he]
      show DtAll K H8 none xs' (_ ++ [])
      rw [List.append_nil]
      exact hx6.on s8
  · obtain ⟨xs', s6, hD6, hx6⟩ := hp
    rw [List.take_of_length_le (by omega)] at hx6
    exact hd _ _ s6 hD6 hx6
/-- over a list of data -/
theorem lc_list_dt {g : TG} {tt : TT} {te : TE} {vs : List Nat} {σ : L2.St} {H1 : Hp} {D a : Addr} {xs : List V} {ds : List PyData} {Qd : Hp → Prop} (hD : H1 D = none) (hq : SqL K H1 a xs) (hx : DtAll K H1 none xs ds) (hn : xs.length ≤ 100000) (F : PyData → Option PyData)
    (hF : ∀ d e, d ∈ ds → F d = some e → noL e = true)
    (hs : ∀ x d H7, d ∈ ds → Same H1 H7 → Dt K H7 none x d → ∀ (R : V → Hp → Prop) (R0 : Hp → Prop), (∀ e, F d = some e → ∀ y H8, Same H7 H8 → Dt K H8 none y e → R y H8) → (F d = none → ∀ H8, Same H7 H8 → R0 H8) →
      g x (wipe σ vs) H7 fun σ2 H2 => wipe σ2 vs = wipe σ vs ∧ tt σ2 H2 fun b H3 => if b = true then te σ2 H3 R else R0 H3)
    (hd : ∀ H' xs', Same H1 H' → H' D = some (.lst xs') → DtAll K H' none xs' (ds.filterMap F) → Qd H') :
    ∃ W : Nat → Nat → Hp → Prop, (∃ m, W 0 m (upd H1 D (.lst []))) ∧ ∀ i m H, W i m H →
      ((Itl K a).stop i H ∧ Qd H) ∨ ((Itl K a).go i H ∧ ∃ Nx : Hp → Prop, (∀ H', Nx H' → ∃ m', m' < m ∧ W (i + 1) m' H') ∧ ∀ x H', (Itl K a).yld i H x H' → g x (wipe σ vs) H' fun σ2 H2 => wipe σ2 vs = wipe σ vs ∧ tt σ2 H2 fun b H3 =>
        if b = true then te σ2 H3 fun y H4 => ∃ acc, H4 D = some (.lst acc) ∧ acc.length < sizeLine ∧ Nx (upd H4 D (.lst (acc ++ [y]))) else Nx H3) :=
  lc_walk (K := K) walk_list hD ds hx.length.symm hn F hF (fun _ s => s.seq hq) (fun _ _ _ _ y => y.1) (fun i x d H7 hi gd s7 hy R R0 => hs x d H7 (List.mem_of_getElem? gd) s7 (by
    obtain ⟨d', g', hd'⟩ := hx.get hy.2
    rw [gd] at g'
    cases g'
    exact hd'.on s7) R R0) hd
/-- over a range -/
theorem lc_range_dt {g : TG} {tt : TT} {te : TE} {vs : List Nat} {σ : L2.St} {H1 : Hp} {D : Addr} {lo : Int} {n : Nat} {Qd : Hp → Prop} (hD : H1 D = none) (hn : n ≤ 100000) (F : Nat → Option PyData)
    (hF : ∀ d e, d < n → F d = some e → noL e = true)
    (hs : ∀ i H7, i < n → Same H1 H7 → ∀ (R : V → Hp → Prop) (R0 : Hp → Prop), (∀ e, F i = some e → ∀ y H8, Same H7 H8 → Dt K H8 none y e → R y H8) → (F i = none → ∀ H8, Same H7 H8 → R0 H8) →
      g (.int (lo + i)) (wipe σ vs) H7 fun σ2 H2 => wipe σ2 vs = wipe σ vs ∧ tt σ2 H2 fun b H3 => if b = true then te σ2 H3 R else R0 H3)
    (hd : ∀ H' xs', Same H1 H' → H' D = some (.lst xs') → DtAll K H' none xs' ((List.range n).filterMap F) → Qd H') :
    ∃ W : Nat → Nat → Hp → Prop, (∃ m, W 0 m (upd H1 D (.lst []))) ∧ ∀ i m H, W i m H →
      ((Itr lo n).stop i H ∧ Qd H) ∨ ((Itr lo n).go i H ∧ ∃ Nx : Hp → Prop, (∀ H', Nx H' → ∃ m', m' < m ∧ W (i + 1) m' H') ∧ ∀ x H', (Itr lo n).yld i H x H' → g x (wipe σ vs) H' fun σ2 H2 => wipe σ2 vs = wipe σ vs ∧ tt σ2 H2 fun b H3 =>
        if b = true then te σ2 H3 fun y H4 => ∃ acc, H4 D = some (.lst acc) ∧ acc.length < sizeLine ∧ Nx (upd H4 D (.lst (acc ++ [y]))) else Nx H3) :=
  lc_walk (K := K) walk_range hD (List.range n) List.length_range hn F (fun d e hd he => hF d e (List.mem_range.mp hd) he) (fun _ _ => trivial) (fun _ _ _ _ y => y.1) (fun i x d H7 hi gd s7 hy R R0 h1 h2 => by
    obtain ⟨_, rfl⟩ := hy
    rw [List.getElem?_range hi] at gd
    cases gd
    exact hs i H7 hi s7 R R0 h1 h2) hd
end

/-! ### data for comparisons: shape and depth -/
def Ly (k : Nat) (d : PyData) : Prop := d.canLay0 = true ∧ d.depth ≤ k
theorem ly_all {k : Nat} : ∀ {ds : List PyData}, (∀ d ∈ ds, Ly k d) → PyData.canLayAll0 ds = true ∧ PyData.depthAll ds ≤ k
  | [], _ => ⟨by simp [PyData.canLayAll0], by simp [PyData.depthAll]⟩
  | d :: r, h => by
    obtain ⟨i1, i2⟩ := ly_all fun z hz => h z (List.mem_cons_of_mem _ hz)
    obtain ⟨l1, l2⟩ := h d List.mem_cons_self
    constructor
    · rw [PyData.canLayAll0, i1, l1]; rfl
    · rw [PyData.depthAll]; omega
theorem ly_tup {k : Nat} {ds : List PyData} (h : ∀ d ∈ ds, Ly k d) : Ly (k + 1) (.tuple ds) := by
  obtain ⟨a, b⟩ := ly_all h
  exact ⟨by rw [PyData.canLay0]; exact a, by rw [PyData.depth]; omega⟩
theorem ly_lst {k : Nat} {ds : List PyData} (h : ∀ d ∈ ds, Ly k d) : Ly (k + 1) (.list ds) := by
  obtain ⟨a, b⟩ := ly_all h
  exact ⟨by rw [PyData.canLay0]; exact a, by rw [PyData.depth]; omega⟩
theorem ly_int {k : Nat} (i : Int) : Ly k (.int i) := ⟨by simp [PyData.canLay0], by simp [PyData.depth]⟩
theorem ly_non {k : Nat} : Ly k .none := ⟨by simp [PyData.canLay0], by simp [PyData.depth]⟩
theorem ly_bl {k : Nat} (b : Bool) : Ly k (.bool b) := ⟨by simp [PyData.canLay0], by simp [PyData.depth]⟩
theorem ly_str {k : Nat} {z : Str} (h : PyData.strOk z = true) : Ly k (.str z) := ⟨by simp [PyData.canLay0, h], by simp [PyData.depth]⟩
theorem Ly.mono {k j : Nat} {d : PyData} (h : Ly k d) (le : k ≤ j) : Ly j d := ⟨h.1, Nat.le_trans h.2 le⟩
theorem ly_nil {k : Nat} : ∀ d ∈ ([] : List PyData), Ly k d := fun _ m => nomatch m
theorem ly_cons {k : Nat} {d : PyData} {r : List PyData} (h : Ly k d) (hr : ∀ d ∈ r, Ly k d) : ∀ e ∈ d :: r, Ly k e := fun e m => by
  rcases List.mem_cons.mp m with rfl | m
  · exact h
  · exact hr e m
theorem ly_app {k : Nat} {r s : List PyData} (hr : ∀ d ∈ r, Ly k d) (hs : ∀ d ∈ s, Ly k d) : ∀ e ∈ r ++ s, Ly k e := fun e m => by
  rcases List.mem_append.mp m with m | m
  · exact hr e m
  · exact hs e m
theorem shpL {d : PyData} (h : Ly 20 d) : SeqAt.shaped d = true ∧ PyData.eqv d d = true := by
  refine ⟨?_, SeqAt.eqv_refl _ h.1⟩
  unfold SeqAt.shaped
  rw [h.1, decide_eq_true (by have := h.2; omega)]; rfl

/-! ### Refused(reason) -/
def spInit1 (C : Addr) (f : Str) : Sp := fun vs H Q _ => ∃ (a : Addr) (r : V), vs = [.ref a, r] ∧ H a = some (exo a C none) ∧
  ∀ d, H d = none → d ≠ a → Q .non (upd (upd H d (exd d [(f, r)])) a (exo a C (some d)))
theorem mk_one {C : Addr} {f : Str} {H1 : Hp} {Q : XK} {r : V} (q : ∀ H' d, Same H1 H' → H1 d = none → H' d = some (.xd [(f, r)]) → Q (.ref C) (some d) H') :
    ([r] : List V).length ≤ 1000 ∧ ∀ a, H1 a = none → spInit1 C f (.ref a :: ([r] ++ [])) (upd H1 a (exo a C none)) (fun v H2 => v = .non ∧ ∃ (d : Addr) (fs : List (Str × V)), H2 a = some (exo a C (some d)) ∧ H2 d = some (exd d fs) ∧ H1 d = none ∧ Q (.ref C) (some d) (upd (del H2 a) d (.xd fs))) (fun _ _ _ => False) := by
  refine ⟨by show 1 ≤ 1000; decide, fun a ha => ⟨a, r, rfl, upd_same, fun d hd hne => ⟨rfl, d, [(f, r)], upd_same, ?_, ?_, q _ d ?_ ?_ upd_same⟩⟩⟩
  · rw [upd_ne hne]; exact upd_same
  · rw [upd_ne hne] at hd; exact hd
  · intro b o e
    have hb : b ≠ d := fun z => by rw [z] at e; rw [upd_ne hne] at hd; rw [hd] at e; cases e
    have hba : b ≠ a := fun z => by rw [z, ha] at e; cases e
    rw [upd_ne hb, del_ne hba, upd_ne hba, upd_ne hb, upd_ne hba]
    exact e
  · rw [upd_ne hne] at hd; exact hd
/-- Refused(r) is raised -/
def Rz (B : Addr) (H : Hp) (E : XK) (r : Str) : Prop := ∀ H' d, Same H H' → H' d = some (.xd [("reason", .str r)]) → E (.ref B) (some d) H'
theorem Rz.on {B : Addr} {H H1 : Hp} {E : XK} {r : Str} (h : Rz B H E r) (s : Same H H1) : Rz B H1 E r := fun H' d s' e => h H' d (s.trans s') e
section
variable {P : Program} {w : World} {K : PySem.W.Frag} {mg : Str → Option Value} {base : Heap}
theorem i_Refused {C_BadGroup : Addr} {C_BadLetter : Addr} {C_BadBlock : Addr} {C_BadText : Addr} {C_JournalError : Addr} {C_DiskCrashed : Addr} {C_DiskError : Addr} {C_BadRecord : Addr} {C_JournalFull : Addr} {C_LedgerError : Addr} {C_Refused : Addr} {C_BadSchedule : Addr} {C_BadCommand : Addr} (T : Txt K mg C_BadGroup C_BadLetter C_BadBlock C_BadText C_JournalError C_DiskCrashed C_DiskError C_BadRecord C_JournalFull C_LedgerError C_Refused C_BadSchedule C_BadCommand) : ExMk P w K mg base 1 "Refused" C_Refused (spInit1 C_Refused "reason") := by
  refine exmk T.x_Refused T.ei_Refused sc_Refused____init__ (fun vs H Q E h => ?_) (fun f cdv A' outer s H vs Q E hr h => ?_)
  · obtain ⟨a, r, rfl, _⟩ := h; rfl
  obtain ⟨a, r, rfl, ha, q⟩ := h
  refine ⟨_, (pss_one (ps_ost (pv 0) (pv 1))), ?_⟩
  walk_at "rds"
  refine ⟨a, C_Refused, rfl, T.x_Refused.ox, T.xn_Refused_reason, .inl ⟨ha, fun d hd hne => ?_⟩⟩
  exact q d hd hne
end

/-! ### BadCommand(reason, statement) -/
section
variable {P : Program} {w : World} {K : PySem.W.Frag} {mg : Str → Option Value} {base : Heap}
theorem i_BadCommand {C_BadGroup : Addr} {C_BadLetter : Addr} {C_BadBlock : Addr} {C_BadText : Addr} {C_JournalError : Addr} {C_DiskCrashed : Addr} {C_DiskError : Addr} {C_BadRecord : Addr} {C_JournalFull : Addr} {C_LedgerError : Addr} {C_Refused : Addr} {C_BadSchedule : Addr} {C_BadCommand : Addr} (T : Txt K mg C_BadGroup C_BadLetter C_BadBlock C_BadText C_JournalError C_DiskCrashed C_DiskError C_BadRecord C_JournalFull C_LedgerError C_Refused C_BadSchedule C_BadCommand) : ExMk P w K mg base 1 "BadCommand" C_BadCommand (spInit2 C_BadCommand "reason" "statement") := by
  refine exmk T.x_BadCommand T.ei_BadCommand sc_BadCommand____init__ (fun vs H Q E h => ?_) (fun f cdv A' outer s H vs Q E hr h => ?_)
  · obtain ⟨a, r, t, rfl, _⟩ := h; rfl
  obtain ⟨a, r, t, rfl, ha, q⟩ := h
  refine ⟨_, (pss_cons (ps_ost (pv 0) (pv 1))
      (pss_one (ps_ost (pv 0) (pv 2)))), ?_⟩
  walk_at "rds"
  refine ⟨a, C_BadCommand, rfl, T.x_BadCommand.ox, T.xn_BadCommand_reason, .inl ⟨ha, fun d hd hne => ?_⟩⟩
  walk_at "rds"
  refine ⟨a, C_BadCommand, rfl, T.x_BadCommand.ox, T.xn_BadCommand_statement, .inr ⟨d, _, upd_same, by rw [upd_ne hne]; exact upd_same, (by show 1 ≤ 900; decide), ?_⟩⟩
  exact q d hd hne
end

/-! ### BadSchedule(line, reason) -/
section
variable {P : Program} {w : World} {K : PySem.W.Frag} {mg : Str → Option Value} {base : Heap}
theorem i_BadSchedule {C_BadGroup : Addr} {C_BadLetter : Addr} {C_BadBlock : Addr} {C_BadText : Addr} {C_JournalError : Addr} {C_DiskCrashed : Addr} {C_DiskError : Addr} {C_BadRecord : Addr} {C_JournalFull : Addr} {C_LedgerError : Addr} {C_Refused : Addr} {C_BadSchedule : Addr} {C_BadCommand : Addr} (T : Txt K mg C_BadGroup C_BadLetter C_BadBlock C_BadText C_JournalError C_DiskCrashed C_DiskError C_BadRecord C_JournalFull C_LedgerError C_Refused C_BadSchedule C_BadCommand) : ExMk P w K mg base 1 "BadSchedule" C_BadSchedule (spInit2 C_BadSchedule "line" "reason") := by
  refine exmk T.x_BadSchedule T.ei_BadSchedule sc_BadSchedule____init__ (fun vs H Q E h => ?_) (fun f cdv A' outer s H vs Q E hr h => ?_)
  · obtain ⟨a, r, t, rfl, _⟩ := h; rfl
  obtain ⟨a, r, t, rfl, ha, q⟩ := h
  refine ⟨_, (pss_cons (ps_ost (pv 0) (pv 1))
      (pss_one (ps_ost (pv 0) (pv 2)))), ?_⟩
  walk_at "rds"
  refine ⟨a, C_BadSchedule, rfl, T.x_BadSchedule.ox, T.xn_BadSchedule_line, .inl ⟨ha, fun d hd hne => ?_⟩⟩
  walk_at "rds"
  refine ⟨a, C_BadSchedule, rfl, T.x_BadSchedule.ox, T.xn_BadSchedule_reason, .inr ⟨d, _, upd_same, by rw [upd_ne hne]; exact upd_same, (by show 1 ≤ 900; decide), ?_⟩⟩
  exact q d hd hne
end

/-! ### isinstance(e, C), e an own exception with fields -/
section
open PySem.W PySem.Calls
variable {prog : Program} {w : World} {A : Around} {E : Value → Shared → Prop} {s : Shared} {K : PySem.W.Frag} {x D : Addr} {ox : Obj} {od : Option Obj}
theorem findObj_dataO {C : Addr} {name : Str} {a g : Value} (hc : (clsIn K C).isSome = true) (ha : findIn K (.ref C) name = some (some a)) (hg : specialIn K a "__get__" = some (some g)) (ht : takesIn K a = some true) : findObj K C od name = some (.bind g a) := by
  obtain ⟨cd, hc⟩ := Option.isSome_iff_exists.mp hc
  unfold findObj
  rw [hc, Option.bind_some, ha, Option.bind_some]
  simp [hg, ht]
theorem kin_classD {Q : Option Value → Shared → Prop} (hga : findIn K (.ref D) "__getattribute__" = some (some (.builtin "BaseException.__getattribute__"))) (hgt : findIn K (.ref D) "__getattr__" = some none) (hsub : subIn K (.ref D) (.type "BaseException") = some true)
    (hdct : hasDictIn K D = true) (ha : findIn K (.ref D) "__class__" = some (some (.builtin "object.__class__")))
    (hn : specialIn K (.builtin "object.__class__") "__get__" = some (some (.builtin "getset_descriptor.__get__"))) (htk : takesIn K (.builtin "object.__class__") = some true) (hm : mroIn K D (.type "object") = some true)
    (X : K.In s.heap) (I : InstAt s.heap x ox D od) (h : Q (some (.ref D)) { s with toks := s.toks + 1 }) : wpAny (model prog w) A (getAttr? (.ref x) "__class__") Q E s := by
  have hf : findObj K D od "__class__" = some (.bind (.builtin "getset_descriptor.__get__") (.builtin "object.__class__")) := findObj_dataO (by obtain ⟨cd, hc, _⟩ := any_some hdct; rw [hc]; rfl) ha hn htk
  obtain ⟨hp, g, d, t, os⟩ := s
  have L0 := I.type (M := model prog w)
  have L1 := looks_findIn (M := model prog w) X hga
  have L2 := looks_findIn (M := model prog w) X hgt
  have L3 := looks_find (M := model prog w) X I hf
  have sub : Looks (model prog w) hp (isInstance (.ref x) (.type "BaseException")) true := L0.andThen (looks_subIn X hsub)
  have hx0 : (false && onTheHeap (Value.builtin "BaseException.__getattribute__")) = false := rfl
  have hx2 : (Value.builtin "BaseException.__getattribute__" == Value.builtin "object.__getattribute__") = false := by decide +kernel
  have hx1 : (onTheHeap (Value.ref D) && Value.builtin "BaseException.__getattribute__" == Value.builtin "object.__getattribute__") = false := by rw [hx2]; rfl
  unfold getAttr? getAttrBy? getAttrBy
  refine wpAny_bind (wpAny_mkText (wpAny_bind (wpAny_attempt (wpAny_holding (wpAny_bind (L0.at (wpAny_bind (L1.at ?_))))))))
  show wpAny _ _ (if (onTheHeap (Value.ref D) && Value.builtin "BaseException.__getattribute__" == Value.builtin "object.__getattribute__") = true then _ else _) _ _ _
  rw [hx1, if_neg Bool.false_ne_true]
  unfold getAttrByItsOwn hookBefore
  refine wpAny_bind ?_
  rw [if_pos (show onTheHeap (Value.ref D) = true from rfl)]
  refine L2.at ?_
  refine wpAny_bind (wpAny_attempt (wpAny_holding ?_))
  unfold callGetattribute
  rw [hx0, if_neg Bool.false_ne_true]
  unfold boundAndCalled
  rw [PySem.F.excAttr_ValueError.ga.bind (.ref x)]
  refine wpAny_bind (wpAny_pure ?_)
  show wpAny _ _ (call (.builtin "BaseException.__getattribute__") [.ref x, .str "__class__" t]) _ _ _
  refine wpAny_call (codeAny_call_builtin PySem.F.excAttr_ValueError.ga.plain PySem.F.entry_bexc_ga ?_)
  refine @check_slot (model prog w) _ _ ⟨hp, g, d, t + 1, os⟩ "BaseException.__getattribute__" "BaseException" "__getattribute__" (.ref x) [.str "__class__" t] [] _ (by decide +kernel) (by decide +kernel) sub (PySem.F.args_bexc_ga (.ref x) (.str "__class__" t)) ?_
  unfold Builtin.«object.__getattribute__»
  refine wpAny_bind (wpAny_of_eq (a := ((Value.ref x : Value), [Value.str "__class__" t])) (by first | rfl | (simp only [slotArgs]; rfl)) ?_)
  refine wpAny_bind (wpAny_pure (wpAny_bind (L0.at (wpAny_bind (L3.at ?_)))))
  show wpAny _ _ (holding [Value.builtin "object.__class__"] (call (.builtin "getset_descriptor.__get__") [.builtin "object.__class__", .ref x, .ref D]) >>= ret) _ _ _
  refine wpAny_bind (wpAny_holding (wpAny_call (class_get (s := ⟨hp, g, d, t + 1, os⟩) (ox := ox) (od := od) X I hm ?_)))
  refine wpAny_pure ?_
  show wpAny _ _ (handedOut (.ref D)) _ _ _
  rw [handedOut_of (v := .ref D) rfl]
  first
    | exact wpAny_pure (wpAny_pure h)
    | exact wpAny_pure h
    | exact wpAny_pure (wpAny_bind (wpAny_pure (wpAny_pure h)))
theorem kitx_excD (hga : findIn K (.ref D) "__getattribute__" = some (some (.builtin "BaseException.__getattribute__"))) (hgt : findIn K (.ref D) "__getattr__" = some none) (hsub : subIn K (.ref D) (.type "BaseException") = some true) (hdct : hasDictIn K D = true) (ha : findIn K (.ref D) "__class__" = some (some (.builtin "object.__class__")))
    (hn : specialIn K (.builtin "object.__class__") "__get__" = some (some (.builtin "getset_descriptor.__get__"))) (htk : takesIn K (.builtin "object.__class__") = some true) (hm : mroIn K D (.type "object") = some true) :
    KitX K (.ref x) (.ref D) (fun h => ∃ od, InstAt h x ox D od) where
  ty := fun _ _ _ ⟨_, I⟩ => I.type
  it := fun _ _ X _ => by
    obtain ⟨cdD, hcD, _⟩ := any_some hdct
    unfold clsIn at hcD
    split at hcD
    · rename_i c' d' cd' sl' ho
      intro A' Q' E' s' k q
      unfold isType loadHead
      exact wpAny_bind (wpAny_loadPart (k _ _ (X _ _ ho)) (wpAny_pure q))
    · cases hcD
  ne := fun h tp dd its n sl X htp => by
    obtain ⟨cdD, hcD, _⟩ := any_some hdct
    refine Bool.eq_false_iff.mpr fun q => ?_
    have e : D = tp := Value.ref.inj (beq_iff_eq.mp q)
    subst e
    unfold clsIn at hcD
    split at hcD
    · rename_i c' d' cd' sl' ho
      have z := (X _ _ ho).symm.trans htp
      cases z
    · cases hcD
  ca := fun X ⟨_, I⟩ k => kin_classD hga hgt hsub hdct ha hn htk hm X I k
end
theorem call_isED {X : Cx} {a D : Addr} {cls : Value} {d : Option Addr} {oe : Obj} {pn : List (Addr × Obj)} (C : ExcC X.K D) (hz : Zc cls d oe) (hf : ∃ vs, oe.data = .fields vs) :
    CallR (X.suite a ((a, oe) :: pn)) (.builtin "isinstance") (fun xs H Q => (cls = .ref D ∧ ∃ dx fs, d = some dx ∧ H dx = some (.xd fs)) ∧ rIsE X.K D a xs H Q) := by
  intro pins s σ H xs us Q I r hh
  obtain ⟨⟨h1, dx, fs, h2, hdx⟩, c, cv, b, rfl, hcv, e, q⟩ := hh
  subst h1 h2
  cases r with
  | cons rx rr =>
    cases rr with
    | cons rt rr =>
      cases rr
      cases rx
      have ec := hcv _ rt
      subst ec
      obtain ⟨hget, _⟩ := I.pin (a, oe) (List.mem_append.mpr (.inl List.mem_cons_self))
      obtain ⟨vs, hv⟩ := hf
      obtain ⟨mA, ⟨o, es, ep, ho, hd, hk, hu, hn⟩, _⟩ := (I.hok dx _ hdx : ∃ mA, s.heap.Ns1 dx mA ∧ ∀ f, RelO (fs.lookup f) (mA f))
      have J : ∃ od, PySem.W.InstAt s.heap a oe D od := by
        obtain ⟨oc, od, oda, osl⟩ := oe
        obtain ⟨h1, h2⟩ := hz
        dsimp only at h1 h2 hv
        subst h1 h2 hv
        exact ⟨some o, hget, rfl, rfl, ho⟩
      exact PySem.W.kia_one (kitx_excD C.hg C.hk C.hs C.hd C.ha C.hn C.ht C.hm) I.kIn J e (fun z => nomatch z) fun tk => ⟨.bl b, H, I.kept (t' := tk) fun _ _ z => z, rfl, q⟩

/-! ### defs called within an except suite, the exception held as an argument -/
section
open L2H
/-- such a def's promise: sp is told where the exception stands, its class and its own dict -/
structure FnM (P : Program) (w : World) (K : PySem.W.Frag) (mg : Str → Option Value) (base : Heap) (k : Nat) (f : Addr) (fd : FuncData) (ps : List Str) (sp : Addr → Value → Option Addr → Sp) : Prop where
  ln : ∀ a c d vs H Q E, sp a c d vs H Q E → vs.length = ps.length
  go : ∀ (A : Around) (outer : List Env) (s : Shared) (H : Hp) (as : Args) (us : List Value) (vs : List V) (Q : VK) (E : XK) (pe : Addr × Obj) (c : Value) (d : Option Addr), RoomH k A → PinOk outer H s pe → Zc c d pe.2 → (∃ fs, pe.2.data = .fields fs) →
    Env0 P w K mg base A outer s H → BindsTo s fd as (ps.zip us) → Vals vs us → sp pe.1 c d vs H Q E → codeAny (model P w) A (.call (.ref f) as) (CR L2.CX0 outer P w H s Q E) s
theorem fnm_of {P : Program} {w : World} {K : PySem.W.Frag} {mg : Str → Option Value} {base : Heap} {k : Nat} {x qual : Str} {st : Stmt} {f : Addr} {fd : FuncData} {N ps : List Str} {sp : Addr → Value → Option Addr → Sp} (F : L2.Fun K x qual st f fd) (S : FnScope N ps (defScope st)) (ln : ∀ a c d vs H Q E, sp a c d vs H Q E → vs.length = ps.length)
    (hbody : ∀ (cdv : Value) (A : Around) (outer : List Env) (s : Shared) (H : Hp) (vs : List V) (Q : VK) (E : XK) (pe : Addr × Obj) (c : Value) (d : Option Addr), RoomH k (A.deeper (envOfC qual (defScope st) s.heap.objs.size f cdv)) → Zc c d pe.2 → (∃ fs, pe.2.data = .fields fs) → sp pe.1 c d vs H Q E →
      ∃ t, PSs (cxH L2.CX0 P w K mg base N qual (defScope st) f cdv A outer s H E pe) (defBody st) t ∧ t { nx := fun _ H' => Q .non H', rt := Q } (L2.start N vs) H) : FnM P w K mg base (k + 1) f fd ps sp := by
  obtain ⟨oc, od, kV, doc, pm, an, cdv, ct, osl, rfl, lk, hcd⟩ := F.ex
  refine ⟨ln, fun A outer s H as us vs Q E pe c d room pin zc fl ev hb rv hsp => ?_⟩
  have hlen := ln _ _ _ _ _ _ _ hsp
  have inK : K.In s.heap := ev.mod.kin.keeps fun b o e => (ev.bs b o e).1
  have noLim : s.heap.NoLimit := ev.mod.nolimit.keeps fun b o e => (ev.bs b o e).1
  have kinds : ∀ y ∈ ps.zip us, (defScope st).names.lookup y.1 = some .local ∨ ((defScope st).names.lookup y.1 = some .cell ∧ ((cellsFrom (s.heap.objs.size + 1) (defScope st).names []).lookup y.1).isSome = true) := fun ⟨n, v⟩ hy =>
    (S.par n (List.of_mem_zip hy).1).imp id (fun q => ⟨q, PySem.W.cellsFrom_some _ _ _ (.inl q)⟩)
  refine codeAny_call_function room.depth (inK _ _ lk) rfl S.co S.gen rfl (PySem.W.codeRec_of inK hcd) (hb _ _ _ _ ?_)
  refine wpAny_newFunctionEnv_cells S.kind kinds fun env he s1 call => ?_
  subst he
  refine ⟨noLim.keeps call.toInCall.keep, codeAny_func ?_⟩
  obtain ⟨t, ht, hq⟩ := hbody cdv A outer s H vs Q E pe c d (room.deeper _) zc fl hsp
  refine wpAny_mono (ht.run [] s1 (L2.start N vs) H _ (inv_startH S pin ev hlen rv call) hq) (fun flow s' hs => ?_) fun e s' hs => hs
  have ends : ∀ {σ' : L2.St} {H' : Hp} {v : V} {u : Value}, Inv (cxH L2.CX0 P w K mg base N qual (defScope st) f cdv A outer s H E pe) [] σ' H' s' → RelV v u → Q v H' → CE outer P w H s Q u s' := fun {σ' H' v u} J rv q => ⟨v, H', J.os, J.bare, J.base, J.hok, rv, q⟩
  cases flow with
  | ret u => obtain ⟨v, σ', H', J, rv, q⟩ := hs; exact ends J rv q
  | next => obtain ⟨σ', H', J, q⟩ := hs; exact ends (v := V.non) (u := Value.none) J rfl q
  | brk => obtain ⟨_, _, _, q⟩ := hs; exact False.elim q
  | cont => obtain ⟨_, _, _, q⟩ := hs; exact False.elim q
structure CalM (P : Program) (w : World) (K : PySem.W.Frag) (mg : Str → Option Value) (base : Heap) (k : Nat) (x : Str) (sp : Addr → Value → Option Addr → Sp) : Prop where
  ex : ∃ (f : Addr) (fd : FuncData) (ps : List Str), FnM P w K mg base k f fd ps sp ∧ mg x = some (.ref f) ∧ PySem.W.keepIn K (.ref f) = true ∧ Binds K fd ps []
theorem calM {P : Program} {w : World} {K : PySem.W.Frag} {mg : Str → Option Value} {base : Heap} {k : Nat} {x : Str} {st : Stmt} {N ps : List Str} {sp : Addr → Value → Option Addr → Sp} (D : DefOk K mg x st ps) (S : FnScope N ps (defScope st)) (ln : ∀ a c d vs H Q E, sp a c d vs H Q E → vs.length = ps.length)
    (hbody : ∀ (f : Addr) (cdv : Value) (A : Around) (outer : List Env) (s : Shared) (H : Hp) (vs : List V) (Q : VK) (E : XK) (pe : Addr × Obj) (c : Value) (d : Option Addr), RoomH k (A.deeper (envOfC x (defScope st) s.heap.objs.size f cdv)) → Zc c d pe.2 → (∃ fs, pe.2.data = .fields fs) → sp pe.1 c d vs H Q E →
      ∃ t, PSs (cxH L2.CX0 P w K mg base N x (defScope st) f cdv A outer s H E pe) (defBody st) t ∧ t { nx := fun _ H' => Q .non H', rt := Q } (L2.start N vs) H) : CalM P w K mg base (k + 1) x sp := by
  obtain ⟨f, fd, F, hm, b⟩ := D.ex
  exact ⟨f, fd, ps, fnm_of F S ln (fun cdv A outer s H vs Q E pe c d r z fl h => hbody f cdv A outer s H vs Q E pe c d r z fl h), hm, F.kp, b⟩
theorem roomM {k : Nat} {A : Around} {v : Option Value} (r : Room k A) : RoomH k (A.mark v) := ⟨r.dp, r.un⟩
theorem pe_cM {X : Cx} {k j : Nat} {x : Str} {sp : Addr → Value → Option Addr → Sp} {a : Addr} {oe : Obj} {c : Value} {d : Option Addr} {e : Expr} {es : List Expr} {t : TA} {q pos : Pos} (C : CalM X.prog X.w X.K X.mg X.base k x sp) (hr : RoomH j X.A) (hkj : k ≤ j) (hg : Gl X x) (hp : (a, oe) ∈ X.pn) (hz : Zc c d oe) (hf : ∃ vs, oe.data = .fields vs)
    (ha : PA X (e :: es) t) (hdb : (x == ("__debug__" : Str)) = false := by decide) (hse : starEach (e :: es) X.env = (false, eval e X.env) :: starEach es X.env := by rfl) (hpl : (backTo pos (starEach es X.env)).any (·.1) = false := by rfl) :
    PE X (.Call (.Name x q) (e :: es) [] pos) (tCallS (sp a c d) (fun _ => L2.E0) t) := by
  obtain ⟨f, fd, ps, F, hm, kp, hb⟩ := C.ex
  refine ⟨fun pins s σ H Q I h => ?_⟩
  refine wpAny_Call_Name_kw (ld_glob I hg hm ?_ hdb)
  refine PySem.W.callWith_K (h₀ := X.base) I.ok.mod.kin kp (thn (ha.run pos pins s σ H _ I h) fun us s1 ⟨vs, H1, I1, rv, hq⟩ => ⟨I1.kIn, ?_⟩) hse hpl
  have hl : (us ++ ([] : List Value)).length = ps.length := by rw [List.append_nil, ← rv.length]; exact F.ln _ _ _ _ _ _ _ hq
  have bd := hb s1 us I1.kIn hl
  rw [List.append_nil] at bd
  have P1 := I1.pin (a, oe) (List.mem_append_left _ hp)
  have pin : PinOk X.stack H1 s1 (a, oe) := ⟨P1.1, P1.2.1, fun hm => (List.mem_cons.mp (I1.stkSub a hm)).elim P1.2.2.1 P1.2.2.2.1, P1.2.2.2.2⟩
  refine wpAny_call (codeAny_mono (F.go X.A X.stack s1 H1 ⟨us, []⟩ us vs Q L2.E0 (a, oe) c d ⟨by have := hr.dp; omega, by have := hr.un; omega⟩ pin hz hf I1.env0 bd rv hq) fun r s' after => ?_)
  cases r with
  | error e => exact False.elim after
  | ok fl =>
    cases fl with
    | ret u => exact I1.after after
    | next => exact False.elim after
    | brk => exact False.elim after
    | cont => exact False.elim after
/-- isinstance(e, C), e the exception that is pinned -/
theorem call_isP {X : Cx} {a D : Addr} {cls : Value} {d : Option Addr} {oe : Obj} (C : ExcC X.K D) (hp : (a, oe) ∈ X.pn) (hz : Zc cls d oe) (hf : ∃ vs, oe.data = .fields vs) :
    CallR X (.builtin "isinstance") (fun xs H Q => (cls = .ref D ∧ (d = none ∨ ∃ dx fs, d = some dx ∧ H dx = some (.xd fs))) ∧ rIsE X.K D a xs H Q) := by
  intro pins s σ H xs us Q I r hh
  obtain ⟨⟨h1, h2⟩, c, cv, b, rfl, hcv, ek, q⟩ := hh
  subst h1
  cases r with
  | cons rx rr =>
    cases rr with
    | cons rt rr =>
      cases rr
      cases rx
      have ec := hcv _ rt
      subst ec
      obtain ⟨at_, _⟩ := I.pin (a, oe) (List.mem_append_left _ hp)
      obtain ⟨vs, fv⟩ := hf
      have J : ∃ od, PySem.W.InstAt s.heap a oe D od := by
        obtain ⟨oc, od, oda, osl⟩ := oe
        obtain ⟨z1, z2⟩ := hz
        dsimp only at z1 z2 fv
        subst z1 z2 fv
        rcases h2 with rfl | ⟨dx, fs, rfl, hdx⟩
        · exact ⟨none, at_, rfl, rfl, trivial⟩
        · obtain ⟨mA, ⟨o, es, ep, ho, _⟩, _⟩ := (I.hok dx _ hdx : ∃ mA, s.heap.Ns1 dx mA ∧ ∀ g, RelO (fs.lookup g) (mA g))
          exact ⟨some o, at_, rfl, rfl, ho⟩
      exact PySem.W.kia_one (kitx_excD C.hg C.hk C.hs C.hd C.ha C.hn C.ht C.hm) I.kIn J ek (fun z => nomatch z) fun tk => ⟨.bl b, H, I.kept (t' := tk) fun _ _ z => z, rfl, q⟩
theorem call_isS {X : Cx} {a D : Addr} {cls : Value} {d : Option Addr} {oe : Obj} {pn : List (Addr × Obj)} (C : ExcC X.K D) (hz : Zc cls d oe) (hf : ∃ vs, oe.data = .fields vs) :
    CallR (X.suite a ((a, oe) :: pn)) (.builtin "isinstance") (fun xs H Q => (cls = .ref D ∧ (d = none ∨ ∃ dx fs, d = some dx ∧ H dx = some (.xd fs))) ∧ rIsE X.K D a xs H Q) := call_isP (X := X.suite a ((a, oe) :: pn)) C List.mem_cons_self hz hf
end
theorem kit_bool {K : PySem.W.Frag} {B C : Addr} {b : Bool} (h1 : PySem.W.subIn K (.ref C) (.type "BaseException") = some true) (h2 : PySem.W.typeIn K (.ref C) = some (.type "type")) (h0 : PySem.W.subIn K (.ref B) (.ref B) = some true) (h3 : PySem.W.subIn K (.ref B) (.ref C) = some b) : PySem.W.kitOne K (.ref B) (.ref C) = some b := by
  by_cases e : B = C
  · subst e
    have hb : b = true := by rw [h0] at h3; exact (Option.some.inj h3).symm
    subst hb
    exact kit_own h1 h2 h3
  have hc : (PySem.W.clsIn K C).isSome = true := by
    have h1 : PySem.W.mroIn K C (.type "BaseException") = some true := h1
    unfold PySem.W.mroIn at h1
    cases e : PySem.W.clsIn K C with
    | some _ => rfl
    | none => rw [e] at h1; cases h1
  unfold PySem.W.kitOne
  split
  · rename_i z
    exact absurd (Value.ref.inj (beq_iff_eq.mp z)) e
  · show (if ((PySem.W.clsIn K C).isSome && PySem.W.typeIn K (.ref C) == some (.type "type")) = true then PySem.W.subIn K (.ref B) (.ref C) else none) = some b
    rw [hc, h2, h3]
    rfl
/-! an own error raised right within a try: the heap that it leaves -/
theorem one_heap {C a d : Addr} {f : Str} {r : V} {H : Hp} (ha : H a = none) (hd : upd H a (exo a C none) d = none) (hne : d ≠ a) :
    H d = none ∧ Same H (upd (del (upd (upd (upd H a (exo a C none)) d (exd d [(f, r)])) a (exo a C (some d))) a) d (.xd [(f, r)])) := by
  have hd' : H d = none := by rw [upd_ne hne] at hd; exact hd
  refine ⟨hd', fun b o e => ?_⟩
  have hb : b ≠ d := fun z => by rw [z, hd'] at e; cases e
  have hba : b ≠ a := fun z => by rw [z, ha] at e; cases e
  rw [upd_ne hb, del_ne hba, upd_ne hba, upd_ne hb, upd_ne hba]
  exact e
theorem two_heap {C a d : Addr} {f g : Str} {r s : V} {H : Hp} (ha : H a = none) (hd : upd H a (exo a C none) d = none) (hne : d ≠ a) :
    H d = none ∧ upd (upd (upd (upd H a (exo a C none)) d (exd d [(f, r)])) a (exo a C (some d))) d (exd d [(g, s), (f, r)]) a = some (exo a C (some d)) ∧
    Same H (upd (del (upd (upd (upd (upd H a (exo a C none)) d (exd d [(f, r)])) a (exo a C (some d))) d (exd d [(g, s), (f, r)])) a) d (.xd [(g, s), (f, r)])) := by
  have hd' : H d = none := by rw [upd_ne hne] at hd; exact hd
  refine ⟨hd', by rw [upd_ne hne.symm, upd_same], fun b o e => ?_⟩
  have hb : b ≠ d := fun z => by rw [z, hd'] at e; cases e
  have hba : b ≠ a := fun z => by rw [z, ha] at e; cases e
  rw [upd_ne hb, del_ne hba, upd_ne hb, upd_ne hba, upd_ne hb, upd_ne hba]
  exact e

--@SPLIT
/-! ### the twelve classes -/
structure ExD (K : PySem.W.Frag) (L : Addr) (Cs : List Addr) (i : Nat) (D : Addr) : Prop where
  ec : ExcC K D
  kt : ∀ j C, Cs[j]? = some C → PySem.W.kitOne K (.ref D) (.ref C) = some (decide (j = i))
  kv : PySem.W.kitOne K (.ref D) (.type "ValueError") = some true
  le : PySem.W.subIn K (.ref D) (.ref L) = some true
/-- an error's own dict, if it has one -/
def OwnD (H : Hp) (d : Option Addr) : Prop := d = none ∨ ∃ dx fs, d = some dx ∧ H dx = some (.xd fs)
theorem OwnD.on {H H' : Hp} {d : Option Addr} (h : OwnD H d) (s : Same H H') : OwnD H' d := h.imp id (fun ⟨dx, fs, e, h⟩ => ⟨dx, fs, e, s _ _ h⟩)
def twelve (a b c d e f g h i j k l : Addr) : List Addr := [a, b, c, d, e, f, g, h, i, j, k, l]
section
variable {P : Program} {w : World} {K : PySem.W.Frag} {mg : Str → Option Value} {base : Heap}
theorem exd_BadText {C_BadGroup : Addr} {C_BadLetter : Addr} {C_BadBlock : Addr} {C_BadText : Addr} {C_JournalError : Addr} {C_DiskCrashed : Addr} {C_DiskError : Addr} {C_BadRecord : Addr} {C_JournalFull : Addr} {C_LedgerError : Addr} {C_Refused : Addr} {C_BadSchedule : Addr} {C_BadCommand : Addr} (T : Txt K mg C_BadGroup C_BadLetter C_BadBlock C_BadText C_JournalError C_DiskCrashed C_DiskError C_BadRecord C_JournalFull C_LedgerError C_Refused C_BadSchedule C_BadCommand) : ExD K C_LedgerError (twelve C_BadText C_BadBlock C_BadLetter C_BadGroup C_DiskError C_DiskCrashed C_JournalError C_JournalFull C_BadRecord C_Refused C_BadCommand C_BadSchedule) 0 C_BadText := by
  refine ⟨T.ec_BadText, fun j C hj => ?_, T.kt_BadText_ValueError, T.u_BadText_LedgerError⟩
  match j, hj with
  | 0, e => cases e; exact kit_bool T.x_BadText.bp T.x_BadText.tp T.u_BadText_BadText T.u_BadText_BadText
  | 1, e => cases e; exact kit_bool T.x_BadBlock.bp T.x_BadBlock.tp T.u_BadText_BadText T.u_BadText_BadBlock
  | 2, e => cases e; exact kit_bool T.x_BadLetter.bp T.x_BadLetter.tp T.u_BadText_BadText T.u_BadText_BadLetter
  | 3, e => cases e; exact kit_bool T.x_BadGroup.bp T.x_BadGroup.tp T.u_BadText_BadText T.u_BadText_BadGroup
  | 4, e => cases e; exact kit_bool T.x_DiskError.bp T.x_DiskError.tp T.u_BadText_BadText T.u_BadText_DiskError
  | 5, e => cases e; exact kit_bool T.x_DiskCrashed.bp T.x_DiskCrashed.tp T.u_BadText_BadText T.u_BadText_DiskCrashed
  | 6, e => cases e; exact kit_bool T.x_JournalError.bp T.x_JournalError.tp T.u_BadText_BadText T.u_BadText_JournalError
  | 7, e => cases e; exact kit_bool T.x_JournalFull.bp T.x_JournalFull.tp T.u_BadText_BadText T.u_BadText_JournalFull
  | 8, e => cases e; exact kit_bool T.x_BadRecord.bp T.x_BadRecord.tp T.u_BadText_BadText T.u_BadText_BadRecord
  | 9, e => cases e; exact kit_bool T.x_Refused.ox.exC T.x_Refused.ox.tyC T.u_BadText_BadText T.u_BadText_Refused
  | 10, e => cases e; exact kit_bool T.x_BadCommand.ox.exC T.x_BadCommand.ox.tyC T.u_BadText_BadText T.u_BadText_BadCommand
  | 11, e => cases e; exact kit_bool T.x_BadSchedule.ox.exC T.x_BadSchedule.ox.tyC T.u_BadText_BadText T.u_BadText_BadSchedule
theorem exd_BadBlock {C_BadGroup : Addr} {C_BadLetter : Addr} {C_BadBlock : Addr} {C_BadText : Addr} {C_JournalError : Addr} {C_DiskCrashed : Addr} {C_DiskError : Addr} {C_BadRecord : Addr} {C_JournalFull : Addr} {C_LedgerError : Addr} {C_Refused : Addr} {C_BadSchedule : Addr} {C_BadCommand : Addr} (T : Txt K mg C_BadGroup C_BadLetter C_BadBlock C_BadText C_JournalError C_DiskCrashed C_DiskError C_BadRecord C_JournalFull C_LedgerError C_Refused C_BadSchedule C_BadCommand) : ExD K C_LedgerError (twelve C_BadText C_BadBlock C_BadLetter C_BadGroup C_DiskError C_DiskCrashed C_JournalError C_JournalFull C_BadRecord C_Refused C_BadCommand C_BadSchedule) 1 C_BadBlock := by
  refine ⟨T.ec_BadBlock, fun j C hj => ?_, T.kt_BadBlock_ValueError, T.u_BadBlock_LedgerError⟩
  match j, hj with
  | 0, e => cases e; exact kit_bool T.x_BadText.bp T.x_BadText.tp T.u_BadBlock_BadBlock T.u_BadBlock_BadText
  | 1, e => cases e; exact kit_bool T.x_BadBlock.bp T.x_BadBlock.tp T.u_BadBlock_BadBlock T.u_BadBlock_BadBlock
  | 2, e => cases e; exact kit_bool T.x_BadLetter.bp T.x_BadLetter.tp T.u_BadBlock_BadBlock T.u_BadBlock_BadLetter
  | 3, e => cases e; exact kit_bool T.x_BadGroup.bp T.x_BadGroup.tp T.u_BadBlock_BadBlock T.u_BadBlock_BadGroup
  | 4, e => cases e; exact kit_bool T.x_DiskError.bp T.x_DiskError.tp T.u_BadBlock_BadBlock T.u_BadBlock_DiskError
  | 5, e => cases e; exact kit_bool T.x_DiskCrashed.bp T.x_DiskCrashed.tp T.u_BadBlock_BadBlock T.u_BadBlock_DiskCrashed
  | 6, e => cases e; exact kit_bool T.x_JournalError.bp T.x_JournalError.tp T.u_BadBlock_BadBlock T.u_BadBlock_JournalError
  | 7, e => cases e; exact kit_bool T.x_JournalFull.bp T.x_JournalFull.tp T.u_BadBlock_BadBlock T.u_BadBlock_JournalFull
  | 8, e => cases e; exact kit_bool T.x_BadRecord.bp T.x_BadRecord.tp T.u_BadBlock_BadBlock T.u_BadBlock_BadRecord
  | 9, e => cases e; exact kit_bool T.x_Refused.ox.exC T.x_Refused.ox.tyC T.u_BadBlock_BadBlock T.u_BadBlock_Refused
  | 10, e => cases e; exact kit_bool T.x_BadCommand.ox.exC T.x_BadCommand.ox.tyC T.u_BadBlock_BadBlock T.u_BadBlock_BadCommand
  | 11, e => cases e; exact kit_bool T.x_BadSchedule.ox.exC T.x_BadSchedule.ox.tyC T.u_BadBlock_BadBlock T.u_BadBlock_BadSchedule
theorem exd_BadLetter {C_BadGroup : Addr} {C_BadLetter : Addr} {C_BadBlock : Addr} {C_BadText : Addr} {C_JournalError : Addr} {C_DiskCrashed : Addr} {C_DiskError : Addr} {C_BadRecord : Addr} {C_JournalFull : Addr} {C_LedgerError : Addr} {C_Refused : Addr} {C_BadSchedule : Addr} {C_BadCommand : Addr} (T : Txt K mg C_BadGroup C_BadLetter C_BadBlock C_BadText C_JournalError C_DiskCrashed C_DiskError C_BadRecord C_JournalFull C_LedgerError C_Refused C_BadSchedule C_BadCommand) : ExD K C_LedgerError (twelve C_BadText C_BadBlock C_BadLetter C_BadGroup C_DiskError C_DiskCrashed C_JournalError C_JournalFull C_BadRecord C_Refused C_BadCommand C_BadSchedule) 2 C_BadLetter := by
  refine ⟨T.ec_BadLetter, fun j C hj => ?_, T.kt_BadLetter_ValueError, T.u_BadLetter_LedgerError⟩
  match j, hj with
  | 0, e => cases e; exact kit_bool T.x_BadText.bp T.x_BadText.tp T.u_BadLetter_BadLetter T.u_BadLetter_BadText
  | 1, e => cases e; exact kit_bool T.x_BadBlock.bp T.x_BadBlock.tp T.u_BadLetter_BadLetter T.u_BadLetter_BadBlock
  | 2, e => cases e; exact kit_bool T.x_BadLetter.bp T.x_BadLetter.tp T.u_BadLetter_BadLetter T.u_BadLetter_BadLetter
  | 3, e => cases e; exact kit_bool T.x_BadGroup.bp T.x_BadGroup.tp T.u_BadLetter_BadLetter T.u_BadLetter_BadGroup
  | 4, e => cases e; exact kit_bool T.x_DiskError.bp T.x_DiskError.tp T.u_BadLetter_BadLetter T.u_BadLetter_DiskError
  | 5, e => cases e; exact kit_bool T.x_DiskCrashed.bp T.x_DiskCrashed.tp T.u_BadLetter_BadLetter T.u_BadLetter_DiskCrashed
  | 6, e => cases e; exact kit_bool T.x_JournalError.bp T.x_JournalError.tp T.u_BadLetter_BadLetter T.u_BadLetter_JournalError
  | 7, e => cases e; exact kit_bool T.x_JournalFull.bp T.x_JournalFull.tp T.u_BadLetter_BadLetter T.u_BadLetter_JournalFull
  | 8, e => cases e; exact kit_bool T.x_BadRecord.bp T.x_BadRecord.tp T.u_BadLetter_BadLetter T.u_BadLetter_BadRecord
  | 9, e => cases e; exact kit_bool T.x_Refused.ox.exC T.x_Refused.ox.tyC T.u_BadLetter_BadLetter T.u_BadLetter_Refused
  | 10, e => cases e; exact kit_bool T.x_BadCommand.ox.exC T.x_BadCommand.ox.tyC T.u_BadLetter_BadLetter T.u_BadLetter_BadCommand
  | 11, e => cases e; exact kit_bool T.x_BadSchedule.ox.exC T.x_BadSchedule.ox.tyC T.u_BadLetter_BadLetter T.u_BadLetter_BadSchedule
theorem exd_BadGroup {C_BadGroup : Addr} {C_BadLetter : Addr} {C_BadBlock : Addr} {C_BadText : Addr} {C_JournalError : Addr} {C_DiskCrashed : Addr} {C_DiskError : Addr} {C_BadRecord : Addr} {C_JournalFull : Addr} {C_LedgerError : Addr} {C_Refused : Addr} {C_BadSchedule : Addr} {C_BadCommand : Addr} (T : Txt K mg C_BadGroup C_BadLetter C_BadBlock C_BadText C_JournalError C_DiskCrashed C_DiskError C_BadRecord C_JournalFull C_LedgerError C_Refused C_BadSchedule C_BadCommand) : ExD K C_LedgerError (twelve C_BadText C_BadBlock C_BadLetter C_BadGroup C_DiskError C_DiskCrashed C_JournalError C_JournalFull C_BadRecord C_Refused C_BadCommand C_BadSchedule) 3 C_BadGroup := by
  refine ⟨T.ec_BadGroup, fun j C hj => ?_, T.kt_BadGroup_ValueError, T.u_BadGroup_LedgerError⟩
  match j, hj with
  | 0, e => cases e; exact kit_bool T.x_BadText.bp T.x_BadText.tp T.u_BadGroup_BadGroup T.u_BadGroup_BadText
  | 1, e => cases e; exact kit_bool T.x_BadBlock.bp T.x_BadBlock.tp T.u_BadGroup_BadGroup T.u_BadGroup_BadBlock
  | 2, e => cases e; exact kit_bool T.x_BadLetter.bp T.x_BadLetter.tp T.u_BadGroup_BadGroup T.u_BadGroup_BadLetter
  | 3, e => cases e; exact kit_bool T.x_BadGroup.bp T.x_BadGroup.tp T.u_BadGroup_BadGroup T.u_BadGroup_BadGroup
  | 4, e => cases e; exact kit_bool T.x_DiskError.bp T.x_DiskError.tp T.u_BadGroup_BadGroup T.u_BadGroup_DiskError
  | 5, e => cases e; exact kit_bool T.x_DiskCrashed.bp T.x_DiskCrashed.tp T.u_BadGroup_BadGroup T.u_BadGroup_DiskCrashed
  | 6, e => cases e; exact kit_bool T.x_JournalError.bp T.x_JournalError.tp T.u_BadGroup_BadGroup T.u_BadGroup_JournalError
  | 7, e => cases e; exact kit_bool T.x_JournalFull.bp T.x_JournalFull.tp T.u_BadGroup_BadGroup T.u_BadGroup_JournalFull
  | 8, e => cases e; exact kit_bool T.x_BadRecord.bp T.x_BadRecord.tp T.u_BadGroup_BadGroup T.u_BadGroup_BadRecord
  | 9, e => cases e; exact kit_bool T.x_Refused.ox.exC T.x_Refused.ox.tyC T.u_BadGroup_BadGroup T.u_BadGroup_Refused
  | 10, e => cases e; exact kit_bool T.x_BadCommand.ox.exC T.x_BadCommand.ox.tyC T.u_BadGroup_BadGroup T.u_BadGroup_BadCommand
  | 11, e => cases e; exact kit_bool T.x_BadSchedule.ox.exC T.x_BadSchedule.ox.tyC T.u_BadGroup_BadGroup T.u_BadGroup_BadSchedule
theorem exd_DiskError {C_BadGroup : Addr} {C_BadLetter : Addr} {C_BadBlock : Addr} {C_BadText : Addr} {C_JournalError : Addr} {C_DiskCrashed : Addr} {C_DiskError : Addr} {C_BadRecord : Addr} {C_JournalFull : Addr} {C_LedgerError : Addr} {C_Refused : Addr} {C_BadSchedule : Addr} {C_BadCommand : Addr} (T : Txt K mg C_BadGroup C_BadLetter C_BadBlock C_BadText C_JournalError C_DiskCrashed C_DiskError C_BadRecord C_JournalFull C_LedgerError C_Refused C_BadSchedule C_BadCommand) : ExD K C_LedgerError (twelve C_BadText C_BadBlock C_BadLetter C_BadGroup C_DiskError C_DiskCrashed C_JournalError C_JournalFull C_BadRecord C_Refused C_BadCommand C_BadSchedule) 4 C_DiskError := by
  refine ⟨T.ec_DiskError, fun j C hj => ?_, T.kt_DiskError_ValueError, T.u_DiskError_LedgerError⟩
  match j, hj with
  | 0, e => cases e; exact kit_bool T.x_BadText.bp T.x_BadText.tp T.u_DiskError_DiskError T.u_DiskError_BadText
  | 1, e => cases e; exact kit_bool T.x_BadBlock.bp T.x_BadBlock.tp T.u_DiskError_DiskError T.u_DiskError_BadBlock
  | 2, e => cases e; exact kit_bool T.x_BadLetter.bp T.x_BadLetter.tp T.u_DiskError_DiskError T.u_DiskError_BadLetter
  | 3, e => cases e; exact kit_bool T.x_BadGroup.bp T.x_BadGroup.tp T.u_DiskError_DiskError T.u_DiskError_BadGroup
  | 4, e => cases e; exact kit_bool T.x_DiskError.bp T.x_DiskError.tp T.u_DiskError_DiskError T.u_DiskError_DiskError
  | 5, e => cases e; exact kit_bool T.x_DiskCrashed.bp T.x_DiskCrashed.tp T.u_DiskError_DiskError T.u_DiskError_DiskCrashed
  | 6, e => cases e; exact kit_bool T.x_JournalError.bp T.x_JournalError.tp T.u_DiskError_DiskError T.u_DiskError_JournalError
  | 7, e => cases e; exact kit_bool T.x_JournalFull.bp T.x_JournalFull.tp T.u_DiskError_DiskError T.u_DiskError_JournalFull
  | 8, e => cases e; exact kit_bool T.x_BadRecord.bp T.x_BadRecord.tp T.u_DiskError_DiskError T.u_DiskError_BadRecord
  | 9, e => cases e; exact kit_bool T.x_Refused.ox.exC T.x_Refused.ox.tyC T.u_DiskError_DiskError T.u_DiskError_Refused
  | 10, e => cases e; exact kit_bool T.x_BadCommand.ox.exC T.x_BadCommand.ox.tyC T.u_DiskError_DiskError T.u_DiskError_BadCommand
  | 11, e => cases e; exact kit_bool T.x_BadSchedule.ox.exC T.x_BadSchedule.ox.tyC T.u_DiskError_DiskError T.u_DiskError_BadSchedule
theorem exd_DiskCrashed {C_BadGroup : Addr} {C_BadLetter : Addr} {C_BadBlock : Addr} {C_BadText : Addr} {C_JournalError : Addr} {C_DiskCrashed : Addr} {C_DiskError : Addr} {C_BadRecord : Addr} {C_JournalFull : Addr} {C_LedgerError : Addr} {C_Refused : Addr} {C_BadSchedule : Addr} {C_BadCommand : Addr} (T : Txt K mg C_BadGroup C_BadLetter C_BadBlock C_BadText C_JournalError C_DiskCrashed C_DiskError C_BadRecord C_JournalFull C_LedgerError C_Refused C_BadSchedule C_BadCommand) : ExD K C_LedgerError (twelve C_BadText C_BadBlock C_BadLetter C_BadGroup C_DiskError C_DiskCrashed C_JournalError C_JournalFull C_BadRecord C_Refused C_BadCommand C_BadSchedule) 5 C_DiskCrashed := by
  refine ⟨T.ec_DiskCrashed, fun j C hj => ?_, T.kt_DiskCrashed_ValueError, T.u_DiskCrashed_LedgerError⟩
  match j, hj with
  | 0, e => cases e; exact kit_bool T.x_BadText.bp T.x_BadText.tp T.u_DiskCrashed_DiskCrashed T.u_DiskCrashed_BadText
  | 1, e => cases e; exact kit_bool T.x_BadBlock.bp T.x_BadBlock.tp T.u_DiskCrashed_DiskCrashed T.u_DiskCrashed_BadBlock
  | 2, e => cases e; exact kit_bool T.x_BadLetter.bp T.x_BadLetter.tp T.u_DiskCrashed_DiskCrashed T.u_DiskCrashed_BadLetter
  | 3, e => cases e; exact kit_bool T.x_BadGroup.bp T.x_BadGroup.tp T.u_DiskCrashed_DiskCrashed T.u_DiskCrashed_BadGroup
  | 4, e => cases e; exact kit_bool T.x_DiskError.bp T.x_DiskError.tp T.u_DiskCrashed_DiskCrashed T.u_DiskCrashed_DiskError
  | 5, e => cases e; exact kit_bool T.x_DiskCrashed.bp T.x_DiskCrashed.tp T.u_DiskCrashed_DiskCrashed T.u_DiskCrashed_DiskCrashed
  | 6, e => cases e; exact kit_bool T.x_JournalError.bp T.x_JournalError.tp T.u_DiskCrashed_DiskCrashed T.u_DiskCrashed_JournalError
  | 7, e => cases e; exact kit_bool T.x_JournalFull.bp T.x_JournalFull.tp T.u_DiskCrashed_DiskCrashed T.u_DiskCrashed_JournalFull
  | 8, e => cases e; exact kit_bool T.x_BadRecord.bp T.x_BadRecord.tp T.u_DiskCrashed_DiskCrashed T.u_DiskCrashed_BadRecord
  | 9, e => cases e; exact kit_bool T.x_Refused.ox.exC T.x_Refused.ox.tyC T.u_DiskCrashed_DiskCrashed T.u_DiskCrashed_Refused
  | 10, e => cases e; exact kit_bool T.x_BadCommand.ox.exC T.x_BadCommand.ox.tyC T.u_DiskCrashed_DiskCrashed T.u_DiskCrashed_BadCommand
  | 11, e => cases e; exact kit_bool T.x_BadSchedule.ox.exC T.x_BadSchedule.ox.tyC T.u_DiskCrashed_DiskCrashed T.u_DiskCrashed_BadSchedule
theorem exd_JournalError {C_BadGroup : Addr} {C_BadLetter : Addr} {C_BadBlock : Addr} {C_BadText : Addr} {C_JournalError : Addr} {C_DiskCrashed : Addr} {C_DiskError : Addr} {C_BadRecord : Addr} {C_JournalFull : Addr} {C_LedgerError : Addr} {C_Refused : Addr} {C_BadSchedule : Addr} {C_BadCommand : Addr} (T : Txt K mg C_BadGroup C_BadLetter C_BadBlock C_BadText C_JournalError C_DiskCrashed C_DiskError C_BadRecord C_JournalFull C_LedgerError C_Refused C_BadSchedule C_BadCommand) : ExD K C_LedgerError (twelve C_BadText C_BadBlock C_BadLetter C_BadGroup C_DiskError C_DiskCrashed C_JournalError C_JournalFull C_BadRecord C_Refused C_BadCommand C_BadSchedule) 6 C_JournalError := by
  refine ⟨T.ec_JournalError, fun j C hj => ?_, T.kt_JournalError_ValueError, T.u_JournalError_LedgerError⟩
  match j, hj with
  | 0, e => cases e; exact kit_bool T.x_BadText.bp T.x_BadText.tp T.u_JournalError_JournalError T.u_JournalError_BadText
  | 1, e => cases e; exact kit_bool T.x_BadBlock.bp T.x_BadBlock.tp T.u_JournalError_JournalError T.u_JournalError_BadBlock
  | 2, e => cases e; exact kit_bool T.x_BadLetter.bp T.x_BadLetter.tp T.u_JournalError_JournalError T.u_JournalError_BadLetter
  | 3, e => cases e; exact kit_bool T.x_BadGroup.bp T.x_BadGroup.tp T.u_JournalError_JournalError T.u_JournalError_BadGroup
  | 4, e => cases e; exact kit_bool T.x_DiskError.bp T.x_DiskError.tp T.u_JournalError_JournalError T.u_JournalError_DiskError
  | 5, e => cases e; exact kit_bool T.x_DiskCrashed.bp T.x_DiskCrashed.tp T.u_JournalError_JournalError T.u_JournalError_DiskCrashed
  | 6, e => cases e; exact kit_bool T.x_JournalError.bp T.x_JournalError.tp T.u_JournalError_JournalError T.u_JournalError_JournalError
  | 7, e => cases e; exact kit_bool T.x_JournalFull.bp T.x_JournalFull.tp T.u_JournalError_JournalError T.u_JournalError_JournalFull
  | 8, e => cases e; exact kit_bool T.x_BadRecord.bp T.x_BadRecord.tp T.u_JournalError_JournalError T.u_JournalError_BadRecord
  | 9, e => cases e; exact kit_bool T.x_Refused.ox.exC T.x_Refused.ox.tyC T.u_JournalError_JournalError T.u_JournalError_Refused
  | 10, e => cases e; exact kit_bool T.x_BadCommand.ox.exC T.x_BadCommand.ox.tyC T.u_JournalError_JournalError T.u_JournalError_BadCommand
  | 11, e => cases e; exact kit_bool T.x_BadSchedule.ox.exC T.x_BadSchedule.ox.tyC T.u_JournalError_JournalError T.u_JournalError_BadSchedule
theorem exd_JournalFull {C_BadGroup : Addr} {C_BadLetter : Addr} {C_BadBlock : Addr} {C_BadText : Addr} {C_JournalError : Addr} {C_DiskCrashed : Addr} {C_DiskError : Addr} {C_BadRecord : Addr} {C_JournalFull : Addr} {C_LedgerError : Addr} {C_Refused : Addr} {C_BadSchedule : Addr} {C_BadCommand : Addr} (T : Txt K mg C_BadGroup C_BadLetter C_BadBlock C_BadText C_JournalError C_DiskCrashed C_DiskError C_BadRecord C_JournalFull C_LedgerError C_Refused C_BadSchedule C_BadCommand) : ExD K C_LedgerError (twelve C_BadText C_BadBlock C_BadLetter C_BadGroup C_DiskError C_DiskCrashed C_JournalError C_JournalFull C_BadRecord C_Refused C_BadCommand C_BadSchedule) 7 C_JournalFull := by
  refine ⟨T.ec_JournalFull, fun j C hj => ?_, T.kt_JournalFull_ValueError, T.u_JournalFull_LedgerError⟩
  match j, hj with
  | 0, e => cases e; exact kit_bool T.x_BadText.bp T.x_BadText.tp T.u_JournalFull_JournalFull T.u_JournalFull_BadText
  | 1, e => cases e; exact kit_bool T.x_BadBlock.bp T.x_BadBlock.tp T.u_JournalFull_JournalFull T.u_JournalFull_BadBlock
  | 2, e => cases e; exact kit_bool T.x_BadLetter.bp T.x_BadLetter.tp T.u_JournalFull_JournalFull T.u_JournalFull_BadLetter
  | 3, e => cases e; exact kit_bool T.x_BadGroup.bp T.x_BadGroup.tp T.u_JournalFull_JournalFull T.u_JournalFull_BadGroup
  | 4, e => cases e; exact kit_bool T.x_DiskError.bp T.x_DiskError.tp T.u_JournalFull_JournalFull T.u_JournalFull_DiskError
  | 5, e => cases e; exact kit_bool T.x_DiskCrashed.bp T.x_DiskCrashed.tp T.u_JournalFull_JournalFull T.u_JournalFull_DiskCrashed
  | 6, e => cases e; exact kit_bool T.x_JournalError.bp T.x_JournalError.tp T.u_JournalFull_JournalFull T.u_JournalFull_JournalError
  | 7, e => cases e; exact kit_bool T.x_JournalFull.bp T.x_JournalFull.tp T.u_JournalFull_JournalFull T.u_JournalFull_JournalFull
  | 8, e => cases e; exact kit_bool T.x_BadRecord.bp T.x_BadRecord.tp T.u_JournalFull_JournalFull T.u_JournalFull_BadRecord
  | 9, e => cases e; exact kit_bool T.x_Refused.ox.exC T.x_Refused.ox.tyC T.u_JournalFull_JournalFull T.u_JournalFull_Refused
  | 10, e => cases e; exact kit_bool T.x_BadCommand.ox.exC T.x_BadCommand.ox.tyC T.u_JournalFull_JournalFull T.u_JournalFull_BadCommand
  | 11, e => cases e; exact kit_bool T.x_BadSchedule.ox.exC T.x_BadSchedule.ox.tyC T.u_JournalFull_JournalFull T.u_JournalFull_BadSchedule
theorem exd_BadRecord {C_BadGroup : Addr} {C_BadLetter : Addr} {C_BadBlock : Addr} {C_BadText : Addr} {C_JournalError : Addr} {C_DiskCrashed : Addr} {C_DiskError : Addr} {C_BadRecord : Addr} {C_JournalFull : Addr} {C_LedgerError : Addr} {C_Refused : Addr} {C_BadSchedule : Addr} {C_BadCommand : Addr} (T : Txt K mg C_BadGroup C_BadLetter C_BadBlock C_BadText C_JournalError C_DiskCrashed C_DiskError C_BadRecord C_JournalFull C_LedgerError C_Refused C_BadSchedule C_BadCommand) : ExD K C_LedgerError (twelve C_BadText C_BadBlock C_BadLetter C_BadGroup C_DiskError C_DiskCrashed C_JournalError C_JournalFull C_BadRecord C_Refused C_BadCommand C_BadSchedule) 8 C_BadRecord := by
  refine ⟨T.ec_BadRecord, fun j C hj => ?_, T.kt_BadRecord_ValueError, T.u_BadRecord_LedgerError⟩
  match j, hj with
  | 0, e => cases e; exact kit_bool T.x_BadText.bp T.x_BadText.tp T.u_BadRecord_BadRecord T.u_BadRecord_BadText
  | 1, e => cases e; exact kit_bool T.x_BadBlock.bp T.x_BadBlock.tp T.u_BadRecord_BadRecord T.u_BadRecord_BadBlock
  | 2, e => cases e; exact kit_bool T.x_BadLetter.bp T.x_BadLetter.tp T.u_BadRecord_BadRecord T.u_BadRecord_BadLetter
  | 3, e => cases e; exact kit_bool T.x_BadGroup.bp T.x_BadGroup.tp T.u_BadRecord_BadRecord T.u_BadRecord_BadGroup
  | 4, e => cases e; exact kit_bool T.x_DiskError.bp T.x_DiskError.tp T.u_BadRecord_BadRecord T.u_BadRecord_DiskError
  | 5, e => cases e; exact kit_bool T.x_DiskCrashed.bp T.x_DiskCrashed.tp T.u_BadRecord_BadRecord T.u_BadRecord_DiskCrashed
  | 6, e => cases e; exact kit_bool T.x_JournalError.bp T.x_JournalError.tp T.u_BadRecord_BadRecord T.u_BadRecord_JournalError
  | 7, e => cases e; exact kit_bool T.x_JournalFull.bp T.x_JournalFull.tp T.u_BadRecord_BadRecord T.u_BadRecord_JournalFull
  | 8, e => cases e; exact kit_bool T.x_BadRecord.bp T.x_BadRecord.tp T.u_BadRecord_BadRecord T.u_BadRecord_BadRecord
  | 9, e => cases e; exact kit_bool T.x_Refused.ox.exC T.x_Refused.ox.tyC T.u_BadRecord_BadRecord T.u_BadRecord_Refused
  | 10, e => cases e; exact kit_bool T.x_BadCommand.ox.exC T.x_BadCommand.ox.tyC T.u_BadRecord_BadRecord T.u_BadRecord_BadCommand
  | 11, e => cases e; exact kit_bool T.x_BadSchedule.ox.exC T.x_BadSchedule.ox.tyC T.u_BadRecord_BadRecord T.u_BadRecord_BadSchedule
theorem exd_Refused {C_BadGroup : Addr} {C_BadLetter : Addr} {C_BadBlock : Addr} {C_BadText : Addr} {C_JournalError : Addr} {C_DiskCrashed : Addr} {C_DiskError : Addr} {C_BadRecord : Addr} {C_JournalFull : Addr} {C_LedgerError : Addr} {C_Refused : Addr} {C_BadSchedule : Addr} {C_BadCommand : Addr} (T : Txt K mg C_BadGroup C_BadLetter C_BadBlock C_BadText C_JournalError C_DiskCrashed C_DiskError C_BadRecord C_JournalFull C_LedgerError C_Refused C_BadSchedule C_BadCommand) : ExD K C_LedgerError (twelve C_BadText C_BadBlock C_BadLetter C_BadGroup C_DiskError C_DiskCrashed C_JournalError C_JournalFull C_BadRecord C_Refused C_BadCommand C_BadSchedule) 9 C_Refused := by
  refine ⟨T.ec_Refused, fun j C hj => ?_, T.kt_Refused_ValueError, T.u_Refused_LedgerError⟩
  match j, hj with
  | 0, e => cases e; exact kit_bool T.x_BadText.bp T.x_BadText.tp T.u_Refused_Refused T.u_Refused_BadText
  | 1, e => cases e; exact kit_bool T.x_BadBlock.bp T.x_BadBlock.tp T.u_Refused_Refused T.u_Refused_BadBlock
  | 2, e => cases e; exact kit_bool T.x_BadLetter.bp T.x_BadLetter.tp T.u_Refused_Refused T.u_Refused_BadLetter
  | 3, e => cases e; exact kit_bool T.x_BadGroup.bp T.x_BadGroup.tp T.u_Refused_Refused T.u_Refused_BadGroup
  | 4, e => cases e; exact kit_bool T.x_DiskError.bp T.x_DiskError.tp T.u_Refused_Refused T.u_Refused_DiskError
  | 5, e => cases e; exact kit_bool T.x_DiskCrashed.bp T.x_DiskCrashed.tp T.u_Refused_Refused T.u_Refused_DiskCrashed
  | 6, e => cases e; exact kit_bool T.x_JournalError.bp T.x_JournalError.tp T.u_Refused_Refused T.u_Refused_JournalError
  | 7, e => cases e; exact kit_bool T.x_JournalFull.bp T.x_JournalFull.tp T.u_Refused_Refused T.u_Refused_JournalFull
  | 8, e => cases e; exact kit_bool T.x_BadRecord.bp T.x_BadRecord.tp T.u_Refused_Refused T.u_Refused_BadRecord
  | 9, e => cases e; exact kit_bool T.x_Refused.ox.exC T.x_Refused.ox.tyC T.u_Refused_Refused T.u_Refused_Refused
  | 10, e => cases e; exact kit_bool T.x_BadCommand.ox.exC T.x_BadCommand.ox.tyC T.u_Refused_Refused T.u_Refused_BadCommand
  | 11, e => cases e; exact kit_bool T.x_BadSchedule.ox.exC T.x_BadSchedule.ox.tyC T.u_Refused_Refused T.u_Refused_BadSchedule
theorem exd_BadCommand {C_BadGroup : Addr} {C_BadLetter : Addr} {C_BadBlock : Addr} {C_BadText : Addr} {C_JournalError : Addr} {C_DiskCrashed : Addr} {C_DiskError : Addr} {C_BadRecord : Addr} {C_JournalFull : Addr} {C_LedgerError : Addr} {C_Refused : Addr} {C_BadSchedule : Addr} {C_BadCommand : Addr} (T : Txt K mg C_BadGroup C_BadLetter C_BadBlock C_BadText C_JournalError C_DiskCrashed C_DiskError C_BadRecord C_JournalFull C_LedgerError C_Refused C_BadSchedule C_BadCommand) : ExD K C_LedgerError (twelve C_BadText C_BadBlock C_BadLetter C_BadGroup C_DiskError C_DiskCrashed C_JournalError C_JournalFull C_BadRecord C_Refused C_BadCommand C_BadSchedule) 10 C_BadCommand := by
  refine ⟨T.ec_BadCommand, fun j C hj => ?_, T.kt_BadCommand_ValueError, T.u_BadCommand_LedgerError⟩
  match j, hj with
  | 0, e => cases e; exact kit_bool T.x_BadText.bp T.x_BadText.tp T.u_BadCommand_BadCommand T.u_BadCommand_BadText
  | 1, e => cases e; exact kit_bool T.x_BadBlock.bp T.x_BadBlock.tp T.u_BadCommand_BadCommand T.u_BadCommand_BadBlock
  | 2, e => cases e; exact kit_bool T.x_BadLetter.bp T.x_BadLetter.tp T.u_BadCommand_BadCommand T.u_BadCommand_BadLetter
  | 3, e => cases e; exact kit_bool T.x_BadGroup.bp T.x_BadGroup.tp T.u_BadCommand_BadCommand T.u_BadCommand_BadGroup
  | 4, e => cases e; exact kit_bool T.x_DiskError.bp T.x_DiskError.tp T.u_BadCommand_BadCommand T.u_BadCommand_DiskError
  | 5, e => cases e; exact kit_bool T.x_DiskCrashed.bp T.x_DiskCrashed.tp T.u_BadCommand_BadCommand T.u_BadCommand_DiskCrashed
  | 6, e => cases e; exact kit_bool T.x_JournalError.bp T.x_JournalError.tp T.u_BadCommand_BadCommand T.u_BadCommand_JournalError
  | 7, e => cases e; exact kit_bool T.x_JournalFull.bp T.x_JournalFull.tp T.u_BadCommand_BadCommand T.u_BadCommand_JournalFull
  | 8, e => cases e; exact kit_bool T.x_BadRecord.bp T.x_BadRecord.tp T.u_BadCommand_BadCommand T.u_BadCommand_BadRecord
  | 9, e => cases e; exact kit_bool T.x_Refused.ox.exC T.x_Refused.ox.tyC T.u_BadCommand_BadCommand T.u_BadCommand_Refused
  | 10, e => cases e; exact kit_bool T.x_BadCommand.ox.exC T.x_BadCommand.ox.tyC T.u_BadCommand_BadCommand T.u_BadCommand_BadCommand
  | 11, e => cases e; exact kit_bool T.x_BadSchedule.ox.exC T.x_BadSchedule.ox.tyC T.u_BadCommand_BadCommand T.u_BadCommand_BadSchedule
theorem exd_BadSchedule {C_BadGroup : Addr} {C_BadLetter : Addr} {C_BadBlock : Addr} {C_BadText : Addr} {C_JournalError : Addr} {C_DiskCrashed : Addr} {C_DiskError : Addr} {C_BadRecord : Addr} {C_JournalFull : Addr} {C_LedgerError : Addr} {C_Refused : Addr} {C_BadSchedule : Addr} {C_BadCommand : Addr} (T : Txt K mg C_BadGroup C_BadLetter C_BadBlock C_BadText C_JournalError C_DiskCrashed C_DiskError C_BadRecord C_JournalFull C_LedgerError C_Refused C_BadSchedule C_BadCommand) : ExD K C_LedgerError (twelve C_BadText C_BadBlock C_BadLetter C_BadGroup C_DiskError C_DiskCrashed C_JournalError C_JournalFull C_BadRecord C_Refused C_BadCommand C_BadSchedule) 11 C_BadSchedule := by
  refine ⟨T.ec_BadSchedule, fun j C hj => ?_, T.kt_BadSchedule_ValueError, T.u_BadSchedule_LedgerError⟩
  match j, hj with
  | 0, e => cases e; exact kit_bool T.x_BadText.bp T.x_BadText.tp T.u_BadSchedule_BadSchedule T.u_BadSchedule_BadText
  | 1, e => cases e; exact kit_bool T.x_BadBlock.bp T.x_BadBlock.tp T.u_BadSchedule_BadSchedule T.u_BadSchedule_BadBlock
  | 2, e => cases e; exact kit_bool T.x_BadLetter.bp T.x_BadLetter.tp T.u_BadSchedule_BadSchedule T.u_BadSchedule_BadLetter
  | 3, e => cases e; exact kit_bool T.x_BadGroup.bp T.x_BadGroup.tp T.u_BadSchedule_BadSchedule T.u_BadSchedule_BadGroup
  | 4, e => cases e; exact kit_bool T.x_DiskError.bp T.x_DiskError.tp T.u_BadSchedule_BadSchedule T.u_BadSchedule_DiskError
  | 5, e => cases e; exact kit_bool T.x_DiskCrashed.bp T.x_DiskCrashed.tp T.u_BadSchedule_BadSchedule T.u_BadSchedule_DiskCrashed
  | 6, e => cases e; exact kit_bool T.x_JournalError.bp T.x_JournalError.tp T.u_BadSchedule_BadSchedule T.u_BadSchedule_JournalError
  | 7, e => cases e; exact kit_bool T.x_JournalFull.bp T.x_JournalFull.tp T.u_BadSchedule_BadSchedule T.u_BadSchedule_JournalFull
  | 8, e => cases e; exact kit_bool T.x_BadRecord.bp T.x_BadRecord.tp T.u_BadSchedule_BadSchedule T.u_BadSchedule_BadRecord
  | 9, e => cases e; exact kit_bool T.x_Refused.ox.exC T.x_Refused.ox.tyC T.u_BadSchedule_BadSchedule T.u_BadSchedule_Refused
  | 10, e => cases e; exact kit_bool T.x_BadCommand.ox.exC T.x_BadCommand.ox.tyC T.u_BadSchedule_BadSchedule T.u_BadSchedule_BadCommand
  | 11, e => cases e; exact kit_bool T.x_BadSchedule.ox.exC T.x_BadSchedule.ox.tyC T.u_BadSchedule_BadSchedule T.u_BadSchedule_BadSchedule
theorem exDof {C_BadGroup : Addr} {C_BadLetter : Addr} {C_BadBlock : Addr} {C_BadText : Addr} {C_JournalError : Addr} {C_DiskCrashed : Addr} {C_DiskError : Addr} {C_BadRecord : Addr} {C_JournalFull : Addr} {C_LedgerError : Addr} {C_Refused : Addr} {C_BadSchedule : Addr} {C_BadCommand : Addr} (T : Txt K mg C_BadGroup C_BadLetter C_BadBlock C_BadText C_JournalError C_DiskCrashed C_DiskError C_BadRecord C_JournalFull C_LedgerError C_Refused C_BadSchedule C_BadCommand) {i : Nat} {D : Addr} (h : (twelve C_BadText C_BadBlock C_BadLetter C_BadGroup C_DiskError C_DiskCrashed C_JournalError C_JournalFull C_BadRecord C_Refused C_BadCommand C_BadSchedule)[i]? = some D) : ExD K C_LedgerError (twelve C_BadText C_BadBlock C_BadLetter C_BadGroup C_DiskError C_DiskCrashed C_JournalError C_JournalFull C_BadRecord C_Refused C_BadCommand C_BadSchedule) i D := by
  match i, h with
  | 0, h => cases h; exact exd_BadText T
  | 1, h => cases h; exact exd_BadBlock T
  | 2, h => cases h; exact exd_BadLetter T
  | 3, h => cases h; exact exd_BadGroup T
  | 4, h => cases h; exact exd_DiskError T
  | 5, h => cases h; exact exd_DiskCrashed T
  | 6, h => cases h; exact exd_JournalError T
  | 7, h => cases h; exact exd_JournalFull T
  | 8, h => cases h; exact exd_BadRecord T
  | 9, h => cases h; exact exd_Refused T
  | 10, h => cases h; exact exd_BadCommand T
  | 11, h => cases h; exact exd_BadSchedule T
/-- the promise of a raising def: the error of number i -/
def spRaise (Cs : List Addr) : Sp := fun vs H Q E => ∃ (i : Nat) (r : Str) (n : Int) (D : Addr), vs = [.int i, .str r, .int n] ∧ Cs[i]? = some D ∧ ∀ H' d, Same H H' → OwnD H' d → E (.ref D) d H'
def spMarks (K : PySem.W.Frag) (L : Addr) (Cs : List Addr) : Addr → Value → Option Addr → Sp := fun a c d vs H Q _ => ∃ (i : Nat) (D : Addr), vs = [.ref a] ∧ c = .ref D ∧ ExD K L Cs i D ∧ i < 12 ∧ OwnD H d ∧
  ∀ H' l, Same H H' → H' l = some (.lst ((List.range 12).map fun j => V.bl (decide (j = i)))) → Q (.ref l) H'
def spNum : Sp := fun vs H Q _ => ∃ n : Int, vs = [.int n, .int n] ∧ Q (.bl true) H
def spNumM : Addr → Value → Option Addr → Sp := fun _ _ _ vs H Q _ => ∃ n : Int, vs = [.int n, .int n] ∧ Q (.bl true) H
def spYes : Sp := fun vs H Q _ => ∃ (r : Str) (n : Int), vs = [.str r, .int n] ∧ ∀ H', Same H H' → Q (.bl true) H'
def spYes3 : Sp := fun vs H Q _ => ∃ (i : Nat) (r : Str) (n : Int), vs = [.int i, .str r, .int n] ∧ i < 12 ∧ ∀ H', Same H H' → Q (.bl true) H'
def spYes0 : Sp := fun vs H Q _ => vs = [] ∧ ∀ H', Same H H' → Q (.bl true) H'
theorem c__law_number {C_BadGroup : Addr} {C_BadLetter : Addr} {C_BadBlock : Addr} {C_BadText : Addr} {C_JournalError : Addr} {C_DiskCrashed : Addr} {C_DiskError : Addr} {C_BadRecord : Addr} {C_JournalFull : Addr} {C_LedgerError : Addr} {C_Refused : Addr} {C_BadSchedule : Addr} {C_BadCommand : Addr} (T : Txt K mg C_BadGroup C_BadLetter C_BadBlock C_BadText C_JournalError C_DiskCrashed C_DiskError C_BadRecord C_JournalFull C_LedgerError C_Refused C_BadSchedule C_BadCommand) : Cal P w K mg base 1 "_law_number" spNum [] := by
  refine cal T.d__law_number sc__law_number (fun vs H Q E h => ?_) (fun f cdv A' outer s H vs Q E hr h => ?_)
  · obtain ⟨n, rfl, _⟩ := h; rfl
  obtain ⟨n, rfl, q⟩ := h
  refine ⟨_, (pss_one (ps_ret (pe_and (pe_callB (kisi (K := K)) (by rfl) T.z_isinstance (by decide +kernel) (pa_cons (pv 0) (pa_cons (pe_bltn (v := .ty "int") (by rfl) T.z_int (by decide +kernel) rfl) pa_nil))) (pe_and (pe_not (pe_callB (kisi (K := K)) (by rfl) T.z_isinstance (by decide +kernel) (pa_cons (pv 0) (pa_cons (pe_bltn (v := .ty "bool") (by rfl) T.z_bool (by decide +kernel) rfl) pa_nil)))) (pe_one (pe_cmpR op_eq (pv 0) (pv 1) (nomark _))))))), ?_⟩
  walk_at "rds"
  walk_at "isi"
  walk_at "rds"
  walk_at "isi"
  walk_at "rds"
  rw [decide_eq_true rfl]
  exact q
theorem h__law_number {C_BadGroup : Addr} {C_BadLetter : Addr} {C_BadBlock : Addr} {C_BadText : Addr} {C_JournalError : Addr} {C_DiskCrashed : Addr} {C_DiskError : Addr} {C_BadRecord : Addr} {C_JournalFull : Addr} {C_LedgerError : Addr} {C_Refused : Addr} {C_BadSchedule : Addr} {C_BadCommand : Addr} (T : Txt K mg C_BadGroup C_BadLetter C_BadBlock C_BadText C_JournalError C_DiskCrashed C_DiskError C_BadRecord C_JournalFull C_LedgerError C_Refused C_BadSchedule C_BadCommand) : CalM P w K mg base 1 "_law_number" spNumM := by
  refine calM T.d__law_number sc__law_number (fun a c d vs H Q E h => ?_) (fun f cdv A' outer s H vs Q E pe c d hr zc fl h => ?_)
  · obtain ⟨n, rfl, _⟩ := h; rfl
  obtain ⟨n, rfl, q⟩ := h
  refine ⟨_, (pss_one (ps_ret (pe_and (pe_callB (kisi (K := K)) (by rfl) T.z_isinstance (by decide +kernel) (pa_cons (pv 0) (pa_cons (pe_bltn (v := .ty "int") (by rfl) T.z_int (by decide +kernel) rfl) pa_nil))) (pe_and (pe_not (pe_callB (kisi (K := K)) (by rfl) T.z_isinstance (by decide +kernel) (pa_cons (pv 0) (pa_cons (pe_bltn (v := .ty "bool") (by rfl) T.z_bool (by decide +kernel) rfl) pa_nil)))) (pe_one (pe_cmpR op_eq (pv 0) (pv 1) (nomark _))))))), ?_⟩
  walk_at "rds"
  walk_at "isi"
  walk_at "rds"
  walk_at "isi"
  walk_at "rds"
  rw [decide_eq_true rfl]
  exact q
theorem h__law_marks {C_BadGroup : Addr} {C_BadLetter : Addr} {C_BadBlock : Addr} {C_BadText : Addr} {C_JournalError : Addr} {C_DiskCrashed : Addr} {C_DiskError : Addr} {C_BadRecord : Addr} {C_JournalFull : Addr} {C_LedgerError : Addr} {C_Refused : Addr} {C_BadSchedule : Addr} {C_BadCommand : Addr} (T : Txt K mg C_BadGroup C_BadLetter C_BadBlock C_BadText C_JournalError C_DiskCrashed C_DiskError C_BadRecord C_JournalFull C_LedgerError C_Refused C_BadSchedule C_BadCommand) : CalM P w K mg base 1 "_law_marks" (spMarks K C_LedgerError (twelve C_BadText C_BadBlock C_BadLetter C_BadGroup C_DiskError C_DiskCrashed C_JournalError C_JournalFull C_BadRecord C_Refused C_BadCommand C_BadSchedule)) := by
  refine calM T.d__law_marks sc__law_marks (fun a c d vs H Q E h => ?_) (fun f cdv A' outer s H vs Q E pe c d hr zc fl h => ?_)
  · obtain ⟨i, D, rfl, _⟩ := h; rfl
  obtain ⟨i, D, rfl, hc, ed, hi, od, q⟩ := h
  have hC := ed.ec
  refine ⟨_, (pss_cons (ps_set (i := 1) sc__law_marks.nd rfl (Or.inl rfl) (pe_lst (pa_cons (pe_callB (by exact call_isP hC List.mem_cons_self zc fl) (by rfl) T.z_isinstance (by decide +kernel) (pa_cons (pv 0) (pa_cons (pe_gc (v := .ref C_BadText) (by rfl) ⟨_, T.x_BadText.g, rfl⟩) pa_nil))) (pa_cons (pe_callB (by exact call_isP hC List.mem_cons_self zc fl) (by rfl) T.z_isinstance (by decide +kernel) (pa_cons (pv 0) (pa_cons (pe_gc (v := .ref C_BadBlock) (by rfl) ⟨_, T.x_BadBlock.g, rfl⟩) pa_nil))) (pa_cons (pe_callB (by exact call_isP hC List.mem_cons_self zc fl) (by rfl) T.z_isinstance (by decide +kernel) (pa_cons (pv 0) (pa_cons (pe_gc (v := .ref C_BadLetter) (by rfl) ⟨_, T.x_BadLetter.g, rfl⟩) pa_nil))) (pa_cons (pe_callB (by exact call_isP hC List.mem_cons_self zc fl) (by rfl) T.z_isinstance (by decide +kernel) (pa_cons (pv 0) (pa_cons (pe_gc (v := .ref C_BadGroup) (by rfl) ⟨_, T.x_BadGroup.g, rfl⟩) pa_nil))) pa_nil))))))
      (pss_cons (ps_set (i := 1) sc__law_marks.nd rfl (Or.inl rfl) (pe_op op_cat (pv 1) (pe_lst (pa_cons (pe_callB (by exact call_isP hC List.mem_cons_self zc fl) (by rfl) T.z_isinstance (by decide +kernel) (pa_cons (pv 0) (pa_cons (pe_gc (v := .ref C_DiskError) (by rfl) ⟨_, T.x_DiskError.g, rfl⟩) pa_nil))) (pa_cons (pe_callB (by exact call_isP hC List.mem_cons_self zc fl) (by rfl) T.z_isinstance (by decide +kernel) (pa_cons (pv 0) (pa_cons (pe_gc (v := .ref C_DiskCrashed) (by rfl) ⟨_, T.x_DiskCrashed.g, rfl⟩) pa_nil))) (pa_cons (pe_callB (by exact call_isP hC List.mem_cons_self zc fl) (by rfl) T.z_isinstance (by decide +kernel) (pa_cons (pv 0) (pa_cons (pe_gc (v := .ref C_JournalError) (by rfl) ⟨_, T.x_JournalError.g, rfl⟩) pa_nil))) pa_nil))))))
      (pss_cons (ps_set (i := 1) sc__law_marks.nd rfl (Or.inl rfl) (pe_op op_cat (pv 1) (pe_lst (pa_cons (pe_callB (by exact call_isP hC List.mem_cons_self zc fl) (by rfl) T.z_isinstance (by decide +kernel) (pa_cons (pv 0) (pa_cons (pe_gc (v := .ref C_JournalFull) (by rfl) ⟨_, T.x_JournalFull.g, rfl⟩) pa_nil))) (pa_cons (pe_callB (by exact call_isP hC List.mem_cons_self zc fl) (by rfl) T.z_isinstance (by decide +kernel) (pa_cons (pv 0) (pa_cons (pe_gc (v := .ref C_BadRecord) (by rfl) ⟨_, T.x_BadRecord.g, rfl⟩) pa_nil))) (pa_cons (pe_callB (by exact call_isP hC List.mem_cons_self zc fl) (by rfl) T.z_isinstance (by decide +kernel) (pa_cons (pv 0) (pa_cons (pe_gc (v := .ref C_Refused) (by rfl) ⟨_, T.x_Refused.g, rfl⟩) pa_nil))) pa_nil))))))
      (pss_one (ps_ret (pe_op op_cat (pv 1) (pe_lst (pa_cons (pe_callB (by exact call_isP hC List.mem_cons_self zc fl) (by rfl) T.z_isinstance (by decide +kernel) (pa_cons (pv 0) (pa_cons (pe_gc (v := .ref C_BadCommand) (by rfl) ⟨_, T.x_BadCommand.g, rfl⟩) pa_nil))) (pa_cons (pe_callB (by exact call_isP hC List.mem_cons_self zc fl) (by rfl) T.z_isinstance (by decide +kernel) (pa_cons (pv 0) (pa_cons (pe_gc (v := .ref C_BadSchedule) (by rfl) ⟨_, T.x_BadSchedule.g, rfl⟩) pa_nil))) pa_nil))))))))), ?_⟩
  walk_at "rds"
  refine ⟨⟨hc, od⟩, _, _, _, rfl, fun u hu => hu, ed.kt 0 C_BadText rfl, ?_⟩
  walk_at "rds"
  refine ⟨⟨hc, od⟩, _, _, _, rfl, fun u hu => hu, ed.kt 1 C_BadBlock rfl, ?_⟩
  walk_at "rds"
  refine ⟨⟨hc, od⟩, _, _, _, rfl, fun u hu => hu, ed.kt 2 C_BadLetter rfl, ?_⟩
  walk_at "rds"
  refine ⟨⟨hc, od⟩, _, _, _, rfl, fun u hu => hu, ed.kt 3 C_BadGroup rfl, ?_⟩
  walk_at "rds"
  intro l1 hl1
  have a1 : upd H l1 (.lst [.bl (decide (0 = i)), .bl (decide (1 = i)), .bl (decide (2 = i)), .bl (decide (3 = i))]) l1 = some (.lst [.bl (decide (0 = i)), .bl (decide (1 = i)), .bl (decide (2 = i)), .bl (decide (3 = i))]) := upd_same
  have s1 := same_upd (o := .lst [.bl (decide (0 = i)), .bl (decide (1 = i)), .bl (decide (2 = i)), .bl (decide (3 = i))]) hl1
  generalize upd H l1 (.lst [.bl (decide (0 = i)), .bl (decide (1 = i)), .bl (decide (2 = i)), .bl (decide (3 = i))]) = H1 at a1 s1
  have od1 := od.on s1
  walk_at "rds"
  refine ⟨⟨hc, od1⟩, _, _, _, rfl, fun u hu => hu, ed.kt 4 C_DiskError rfl, ?_⟩
  walk_at "rds"
  refine ⟨⟨hc, od1⟩, _, _, _, rfl, fun u hu => hu, ed.kt 5 C_DiskCrashed rfl, ?_⟩
  walk_at "rds"
  refine ⟨⟨hc, od1⟩, _, _, _, rfl, fun u hu => hu, ed.kt 6 C_JournalError rfl, ?_⟩
  walk_at "rds"
  intro m2 hm2
  have b2 : upd H1 m2 (.lst [.bl (decide (4 = i)), .bl (decide (5 = i)), .bl (decide (6 = i))]) m2 = some (.lst [.bl (decide (4 = i)), .bl (decide (5 = i)), .bl (decide (6 = i))]) := upd_same
  have t2 := same_upd (o := .lst [.bl (decide (4 = i)), .bl (decide (5 = i)), .bl (decide (6 = i))]) hm2
  have c2 := t2 _ _ a1
  generalize upd H1 m2 (.lst [.bl (decide (4 = i)), .bl (decide (5 = i)), .bl (decide (6 = i))]) = G2 at b2 t2 c2
  refine ⟨l1, m2, _, _, rfl, rfl, c2, b2, (sz1000 (Nat.le_of_ble_eq_true rfl) : 7 ≤ sizeLine), ?_⟩
  intro l2 hl2
  have a2 : upd G2 l2 (.lst ([.bl (decide (0 = i)), .bl (decide (1 = i)), .bl (decide (2 = i)), .bl (decide (3 = i))] ++ [.bl (decide (4 = i)), .bl (decide (5 = i)), .bl (decide (6 = i))])) l2 = some (.lst [.bl (decide (0 = i)), .bl (decide (1 = i)), .bl (decide (2 = i)), .bl (decide (3 = i)), .bl (decide (4 = i)), .bl (decide (5 = i)), .bl (decide (6 = i))]) := upd_same
  have s2 := s1.trans (t2.trans (same_upd (o := .lst ([.bl (decide (0 = i)), .bl (decide (1 = i)), .bl (decide (2 = i)), .bl (decide (3 = i))] ++ [.bl (decide (4 = i)), .bl (decide (5 = i)), .bl (decide (6 = i))])) hl2))
  generalize upd G2 l2 (.lst ([.bl (decide (0 = i)), .bl (decide (1 = i)), .bl (decide (2 = i)), .bl (decide (3 = i))] ++ [.bl (decide (4 = i)), .bl (decide (5 = i)), .bl (decide (6 = i))])) = H2 at a2 s2
  have od2 := od.on s2
  walk_at "rds"
  refine ⟨⟨hc, od2⟩, _, _, _, rfl, fun u hu => hu, ed.kt 7 C_JournalFull rfl, ?_⟩
  walk_at "rds"
  refine ⟨⟨hc, od2⟩, _, _, _, rfl, fun u hu => hu, ed.kt 8 C_BadRecord rfl, ?_⟩
  walk_at "rds"
  refine ⟨⟨hc, od2⟩, _, _, _, rfl, fun u hu => hu, ed.kt 9 C_Refused rfl, ?_⟩
  walk_at "rds"
  intro m3 hm3
  have b3 : upd H2 m3 (.lst [.bl (decide (7 = i)), .bl (decide (8 = i)), .bl (decide (9 = i))]) m3 = some (.lst [.bl (decide (7 = i)), .bl (decide (8 = i)), .bl (decide (9 = i))]) := upd_same
  have t3 := same_upd (o := .lst [.bl (decide (7 = i)), .bl (decide (8 = i)), .bl (decide (9 = i))]) hm3
  have c3 := t3 _ _ a2
  generalize upd H2 m3 (.lst [.bl (decide (7 = i)), .bl (decide (8 = i)), .bl (decide (9 = i))]) = G3 at b3 t3 c3
  refine ⟨l2, m3, _, _, rfl, rfl, c3, b3, (sz1000 (Nat.le_of_ble_eq_true rfl) : 10 ≤ sizeLine), ?_⟩
  intro l3 hl3
  have a3 : upd G3 l3 (.lst ([.bl (decide (0 = i)), .bl (decide (1 = i)), .bl (decide (2 = i)), .bl (decide (3 = i)), .bl (decide (4 = i)), .bl (decide (5 = i)), .bl (decide (6 = i))] ++ [.bl (decide (7 = i)), .bl (decide (8 = i)), .bl (decide (9 = i))])) l3 = some (.lst [.bl (decide (0 = i)), .bl (decide (1 = i)), .bl (decide (2 = i)), .bl (decide (3 = i)), .bl (decide (4 = i)), .bl (decide (5 = i)), .bl (decide (6 = i)), .bl (decide (7 = i)), .bl (decide (8 = i)), .bl (decide (9 = i))]) := upd_same
  have s3 := s2.trans (t3.trans (same_upd (o := .lst ([.bl (decide (0 = i)), .bl (decide (1 = i)), .bl (decide (2 = i)), .bl (decide (3 = i)), .bl (decide (4 = i)), .bl (decide (5 = i)), .bl (decide (6 = i))] ++ [.bl (decide (7 = i)), .bl (decide (8 = i)), .bl (decide (9 = i))])) hl3))
  generalize upd G3 l3 (.lst ([.bl (decide (0 = i)), .bl (decide (1 = i)), .bl (decide (2 = i)), .bl (decide (3 = i)), .bl (decide (4 = i)), .bl (decide (5 = i)), .bl (decide (6 = i))] ++ [.bl (decide (7 = i)), .bl (decide (8 = i)), .bl (decide (9 = i))])) = H3 at a3 s3
  have od3 := od.on s3
  walk_at "rds"
  refine ⟨⟨hc, od3⟩, _, _, _, rfl, fun u hu => hu, ed.kt 10 C_BadCommand rfl, ?_⟩
  walk_at "rds"
  refine ⟨⟨hc, od3⟩, _, _, _, rfl, fun u hu => hu, ed.kt 11 C_BadSchedule rfl, ?_⟩
  walk_at "rds"
  intro m4 hm4
  have b4 : upd H3 m4 (.lst [.bl (decide (10 = i)), .bl (decide (11 = i))]) m4 = some (.lst [.bl (decide (10 = i)), .bl (decide (11 = i))]) := upd_same
  have t4 := same_upd (o := .lst [.bl (decide (10 = i)), .bl (decide (11 = i))]) hm4
  have c4 := t4 _ _ a3
  generalize upd H3 m4 (.lst [.bl (decide (10 = i)), .bl (decide (11 = i))]) = G4 at b4 t4 c4
  refine ⟨l3, m4, _, _, rfl, rfl, c4, b4, (sz1000 (Nat.le_of_ble_eq_true rfl) : 12 ≤ sizeLine), ?_⟩
  intro l4 hl4
  have a4 : upd G4 l4 (.lst ([.bl (decide (0 = i)), .bl (decide (1 = i)), .bl (decide (2 = i)), .bl (decide (3 = i)), .bl (decide (4 = i)), .bl (decide (5 = i)), .bl (decide (6 = i)), .bl (decide (7 = i)), .bl (decide (8 = i)), .bl (decide (9 = i))] ++ [.bl (decide (10 = i)), .bl (decide (11 = i))])) l4 = some (.lst [.bl (decide (0 = i)), .bl (decide (1 = i)), .bl (decide (2 = i)), .bl (decide (3 = i)), .bl (decide (4 = i)), .bl (decide (5 = i)), .bl (decide (6 = i)), .bl (decide (7 = i)), .bl (decide (8 = i)), .bl (decide (9 = i)), .bl (decide (10 = i)), .bl (decide (11 = i))]) := upd_same
  have s4 := s3.trans (t4.trans (same_upd (o := .lst ([.bl (decide (0 = i)), .bl (decide (1 = i)), .bl (decide (2 = i)), .bl (decide (3 = i)), .bl (decide (4 = i)), .bl (decide (5 = i)), .bl (decide (6 = i)), .bl (decide (7 = i)), .bl (decide (8 = i)), .bl (decide (9 = i))] ++ [.bl (decide (10 = i)), .bl (decide (11 = i))])) hl4))
  generalize upd G4 l4 (.lst ([.bl (decide (0 = i)), .bl (decide (1 = i)), .bl (decide (2 = i)), .bl (decide (3 = i)), .bl (decide (4 = i)), .bl (decide (5 = i)), .bl (decide (6 = i)), .bl (decide (7 = i)), .bl (decide (8 = i)), .bl (decide (9 = i))] ++ [.bl (decide (10 = i)), .bl (decide (11 = i))])) = H4 at a4 s4
  have od4 := od.on s4
  exact q _ _ s4 a4
theorem c__law_raise {C_BadGroup : Addr} {C_BadLetter : Addr} {C_BadBlock : Addr} {C_BadText : Addr} {C_JournalError : Addr} {C_DiskCrashed : Addr} {C_DiskError : Addr} {C_BadRecord : Addr} {C_JournalFull : Addr} {C_LedgerError : Addr} {C_Refused : Addr} {C_BadSchedule : Addr} {C_BadCommand : Addr} (T : Txt K mg C_BadGroup C_BadLetter C_BadBlock C_BadText C_JournalError C_DiskCrashed C_DiskError C_BadRecord C_JournalFull C_LedgerError C_Refused C_BadSchedule C_BadCommand) : CalX P w K mg base 3 "_law_raise" (spRaise (twelve C_BadText C_BadBlock C_BadLetter C_BadGroup C_DiskError C_DiskCrashed C_JournalError C_JournalFull C_BadRecord C_Refused C_BadCommand C_BadSchedule)) := by
  have i_Refused := i_Refused (P := P) (w := w) (base := base) T
  have i_BadCommand := i_BadCommand (P := P) (w := w) (base := base) T
  have i_BadSchedule := i_BadSchedule (P := P) (w := w) (base := base) T
  refine calX T.d__law_raise sc__law_raise (fun vs H Q E h => ?_) (fun f cdv A' outer s H vs Q E hr h => ?_)
  · obtain ⟨i, r, n, D, rfl, _⟩ := h; rfl
  obtain ⟨i, r, n, D, rfl, hD, q⟩ := h
  refine ⟨_, (pss_cons (ps_if (pt_cmpR op_eq (pv 0) pe_int (nomark _)) (pss_one (ps_raise rfl (takes_of rfl rfl rfl rfl) (pmk_ok T.x_BadText (by rfl)))) pss_nil)
      (pss_cons (ps_if (pt_cmpR op_eq (pv 0) pe_int (nomark _)) (pss_one (ps_raise rfl (takes_of rfl rfl rfl rfl) (pmk_ok T.x_BadBlock (by rfl)))) pss_nil)
      (pss_cons (ps_if (pt_cmpR op_eq (pv 0) pe_int (nomark _)) (pss_one (ps_raise rfl (takes_of rfl rfl rfl rfl) (pmk_ok T.x_BadLetter (by rfl)))) pss_nil)
      (pss_cons (ps_if (pt_cmpR op_eq (pv 0) pe_int (nomark _)) (pss_one (ps_raise rfl (takes_of rfl rfl rfl rfl) (pmk_ok T.x_BadGroup (by rfl)))) pss_nil)
      (pss_cons (ps_if (pt_cmpR op_eq (pv 0) pe_int (nomark _)) (pss_one (ps_raise rfl (takes_of rfl rfl rfl rfl) (pmk_ok T.x_DiskError (by rfl)))) pss_nil)
      (pss_cons (ps_if (pt_cmpR op_eq (pv 0) pe_int (nomark _)) (pss_one (ps_raise rfl (takes_of rfl rfl rfl rfl) (pmk_ok T.x_DiskCrashed (by rfl)))) pss_nil)
      (pss_cons (ps_if (pt_cmpR op_eq (pv 0) pe_int (nomark _)) (pss_one (ps_raise rfl (takes_of rfl rfl rfl rfl) (pmk_ok T.x_JournalError (by rfl)))) pss_nil)
      (pss_cons (ps_if (pt_cmpR op_eq (pv 0) pe_int (nomark _)) (pss_one (ps_raise rfl (takes_of rfl rfl rfl rfl) (pmk_ok T.x_JournalFull (by rfl)))) pss_nil)
      (pss_cons (ps_if (pt_cmpR op_eq (pv 0) pe_int (nomark _)) (pss_one (ps_raise rfl (takes_of rfl rfl rfl rfl) (pmk_ok T.x_BadRecord (by rfl)))) pss_nil)
      (pss_cons (ps_if (pt_cmpR op_eq (pv 0) pe_int (nomark _)) (pss_one (ps_raise rfl (takes_of rfl rfl rfl rfl) (pmk_ei i_Refused hr (by decide) (by rfl) (pa_cons (pv 1) pa_nil)))) pss_nil)
      (pss_cons (ps_if (pt_cmpR op_eq (pv 0) pe_int (nomark _)) (pss_one (ps_raise rfl (takes_of rfl rfl rfl rfl) (pmk_ei i_BadCommand hr (by decide) (by rfl) (pa_cons (pv 1) (pa_cons (pv 2) pa_nil))))) pss_nil)
      (pss_one (ps_raise rfl (takes_of rfl rfl rfl rfl) (pmk_ei i_BadSchedule hr (by decide) (by rfl) (pa_cons (pv 2) (pa_cons (pv 1) pa_nil)))))))))))))))), ?_⟩
  walk_at "rds"
  refine ite2 (fun e => ?_) (fun e0 => ?_)
  · have e : i = 0 := Int.ofNat_inj.mp (V.int.inj (of_decide_eq_true e))
    subst e
    obtain rfl := Option.some.inj hD
    exact q _ _ (Same.refl _) (.inl rfl)
  walk_at "rds"
  refine ite2 (fun e => ?_) (fun e1 => ?_)
  · have e : i = 1 := Int.ofNat_inj.mp (V.int.inj (of_decide_eq_true e))
    subst e
    obtain rfl := Option.some.inj hD
    exact q _ _ (Same.refl _) (.inl rfl)
  walk_at "rds"
  refine ite2 (fun e => ?_) (fun e2 => ?_)
  · have e : i = 2 := Int.ofNat_inj.mp (V.int.inj (of_decide_eq_true e))
    subst e
    obtain rfl := Option.some.inj hD
    exact q _ _ (Same.refl _) (.inl rfl)
  walk_at "rds"
  refine ite2 (fun e => ?_) (fun e3 => ?_)
  · have e : i = 3 := Int.ofNat_inj.mp (V.int.inj (of_decide_eq_true e))
    subst e
    obtain rfl := Option.some.inj hD
    exact q _ _ (Same.refl _) (.inl rfl)
  walk_at "rds"
  refine ite2 (fun e => ?_) (fun e4 => ?_)
  · have e : i = 4 := Int.ofNat_inj.mp (V.int.inj (of_decide_eq_true e))
    subst e
    obtain rfl := Option.some.inj hD
    exact q _ _ (Same.refl _) (.inl rfl)
  walk_at "rds"
  refine ite2 (fun e => ?_) (fun e5 => ?_)
  · have e : i = 5 := Int.ofNat_inj.mp (V.int.inj (of_decide_eq_true e))
    subst e
    obtain rfl := Option.some.inj hD
    exact q _ _ (Same.refl _) (.inl rfl)
  walk_at "rds"
  refine ite2 (fun e => ?_) (fun e6 => ?_)
  · have e : i = 6 := Int.ofNat_inj.mp (V.int.inj (of_decide_eq_true e))
    subst e
    obtain rfl := Option.some.inj hD
    exact q _ _ (Same.refl _) (.inl rfl)
  walk_at "rds"
  refine ite2 (fun e => ?_) (fun e7 => ?_)
  · have e : i = 7 := Int.ofNat_inj.mp (V.int.inj (of_decide_eq_true e))
    subst e
    obtain rfl := Option.some.inj hD
    exact q _ _ (Same.refl _) (.inl rfl)
  walk_at "rds"
  refine ite2 (fun e => ?_) (fun e8 => ?_)
  · have e : i = 8 := Int.ofNat_inj.mp (V.int.inj (of_decide_eq_true e))
    subst e
    obtain rfl := Option.some.inj hD
    exact q _ _ (Same.refl _) (.inl rfl)
  walk_at "rds"
  refine ite2 (fun e => ?_) (fun e9 => ?_)
  · have e : i = 9 := Int.ofNat_inj.mp (V.int.inj (of_decide_eq_true e))
    subst e
    obtain rfl := Option.some.inj hD
    walk_at "rds"
    exact mk_one fun H' d s1 _ hd => q _ _ s1 (.inr ⟨d, _, rfl, hd⟩)
  walk_at "rds"
  refine ite2 (fun e => ?_) (fun e10 => ?_)
  · have e : i = 10 := Int.ofNat_inj.mp (V.int.inj (of_decide_eq_true e))
    subst e
    obtain rfl := Option.some.inj hD
    walk_at "rds"
    exact mk_two fun H' d s1 _ hd => q _ _ s1 (.inr ⟨d, _, rfl, hd⟩)
  have e : i = 11 := by
    have h1 : i < 12 := by
      have := (List.getElem?_eq_some_iff.mp hD).1
      exact this
    have f0 : i ≠ 0 := fun z => e0 (decide_eq_true (by rw [z]; rfl))
    have f1 : i ≠ 1 := fun z => e1 (decide_eq_true (by rw [z]; rfl))
    have f2 : i ≠ 2 := fun z => e2 (decide_eq_true (by rw [z]; rfl))
    have f3 : i ≠ 3 := fun z => e3 (decide_eq_true (by rw [z]; rfl))
    have f4 : i ≠ 4 := fun z => e4 (decide_eq_true (by rw [z]; rfl))
    have f5 : i ≠ 5 := fun z => e5 (decide_eq_true (by rw [z]; rfl))
    have f6 : i ≠ 6 := fun z => e6 (decide_eq_true (by rw [z]; rfl))
    have f7 : i ≠ 7 := fun z => e7 (decide_eq_true (by rw [z]; rfl))
    have f8 : i ≠ 8 := fun z => e8 (decide_eq_true (by rw [z]; rfl))
    have f9 : i ≠ 9 := fun z => e9 (decide_eq_true (by rw [z]; rfl))
    have f10 : i ≠ 10 := fun z => e10 (decide_eq_true (by rw [z]; rfl))
    omega
  subst e
  obtain rfl := Option.some.inj hD
  walk_at "rds"
  exact mk_two fun H' d s1 _ hd => q _ _ s1 (.inr ⟨d, _, rfl, hd⟩)
theorem dpb {K : PySem.W.Frag} {H : Hp} (f : Nat → Bool) : ∀ js : List Nat, DpAll K H (js.map fun j => V.bl (f j)) (js.map fun j => PyData.bool (f j))
  | [] => .nil
  | j :: r => .cons (.bl (f j)) (dpb f r)
theorem c__law_caught {C_BadGroup : Addr} {C_BadLetter : Addr} {C_BadBlock : Addr} {C_BadText : Addr} {C_JournalError : Addr} {C_DiskCrashed : Addr} {C_DiskError : Addr} {C_BadRecord : Addr} {C_JournalFull : Addr} {C_LedgerError : Addr} {C_Refused : Addr} {C_BadSchedule : Addr} {C_BadCommand : Addr} (T : Txt K mg C_BadGroup C_BadLetter C_BadBlock C_BadText C_JournalError C_DiskCrashed C_DiskError C_BadRecord C_JournalFull C_LedgerError C_Refused C_BadSchedule C_BadCommand) : Cal P w K mg base 4 "_law_caught" spYes3 [] := by
  have c__law_raise := c__law_raise (P := P) (w := w) (base := base) T
  have h_marks := h__law_marks (P := P) (w := w) (base := base) T
  refine cal T.d__law_caught sc__law_caught (fun vs H Q E h => ?_) (fun f cdv A' outer s H vs Q E hr h => ?_)
  · obtain ⟨i, r, n, rfl, _⟩ := h; rfl
  obtain ⟨i, r, n, rfl, hi, q⟩ := h
  obtain ⟨D, hD⟩ : ∃ D, (twelve C_BadText C_BadBlock C_BadLetter C_BadGroup C_DiskError C_DiskCrashed C_JournalError C_JournalFull C_BadRecord C_Refused C_BadCommand C_BadSchedule)[i]? = some D := ⟨_, List.getElem?_eq_getElem hi⟩
  have ed := exDof T hD
  have hC := ed.ec
  refine ⟨_, (pss_cons (ps_set (i := 3) sc__law_caught.nd rfl (Or.inl rfl) (pe_lst pa_nil))
      (pss_cons (ps_try_as (i := 4) (Wout := fun _ _ _ _ => False) rfl rfl sc__law_caught.nd rfl rfl ⟨by rfl, by decide, .inl T.x_LedgerError.g⟩ takes0 (fun W pn xe tk po => (pss_one (ps_expr (pe_cX c__law_raise hr (by decide) (by rfl) (fun σ => passAt tk σ) (pa_cons (pv 0) (pa_cons (pv 1) (pa_cons (pv 2) pa_nil))))))) (fun a oe cls d pn hz hf => (pss_cons (ps_set (i := 3) sc__law_caught.nd rfl (Or.inl rfl) (pe_cM h_marks (roomM hr) (by decide) (by rfl) List.mem_cons_self hz hf (pa_cons (pv 4) pa_nil)))
      (pss_one (ps_if (pt_not (pt_val (pe_callB (by exact call_isS hC hz hf) (by rfl) T.z_isinstance (by decide +kernel) (pa_cons (pv 4) (pa_cons (pe_bltn (v := .ty "ValueError") (by rfl) T.z_ValueError (by decide +kernel) rfl) pa_nil))))) (pss_one (ps_ret pe_bl)) pss_nil)))))
      (pss_one (ps_ret (pe_cmpR (op_eqD hr.units) (pv 3) (pe_lc (own := [("k", 5)]) (g := gName 5) (by rfl) sc__law_caught.nd (pi_range1 (by rfl) T.z_range (pa_cons pe_int pa_nil)) (blkOk_by (own := [("k", 5)]) (N := ["which", "reason", "number", "marks", "e", "k"]) (sc := defScope s__law_caught) (by decide +kernel)) (fun _ _ _ _ _ => pg_name (i := 5) sc__law_caught.nd rfl (Or.inl rfl)) (fun _ _ _ _ _ => pts_nil) (fun _ _ _ _ _ => (pe_cmpR op_eq (pv 5) (pv 0) (nomark _)))) (nomark _)))))), ?_⟩
  walk_at "rds"
  intro l0 hl0
  have s0 := same_upd (o := .lst []) hl0
  generalize upd H l0 (.lst []) = H0 at s0
  walk_at "rds"
  refine ⟨i, r, n, D, rfl, hD, fun H1 d s1 od => ?_⟩
  refine ⟨true, T.x_LedgerError.exm ed.le, fun _ b hb => ?_, fun z => nomatch z⟩
  walk_at "rds"
  refine ⟨i, D, rfl, rfl, ed, hi, od, fun H2 l s2 hl => ?_⟩
  walk_at "rds"
  have od2 := od.on s2
  refine ⟨⟨rfl, od2⟩, _, _, _, rfl, (by intro u r; cases r; rfl), ed.kv, ?_⟩
  walk_at "rds"
  intro B hB
  refine lc_range_dt (K := K) hB (by decide : 12 ≤ 100000) (fun j => some (.bool (decide (j = i)))) (fun j e _ he => by cases he; rfl) (fun j H7 hj s7 R R0 r1 r2 => ?_) (fun H6 xs' s6 hB6 hx => ?_)
  · refine ⟨rfl, ?_⟩
    walk_at "rds"
    rw [show decide (V.int (0 + (j : Int)) = V.int (i : Int)) = decide (j = i) from decide_eq_decide.mpr ⟨fun z => by have := V.int.inj z; omega, fun z => by rw [z, Int.zero_add]⟩]
    exact r1 _ rfl _ H7 (Same.refl _) (.bl _)
  · walk_at "rds"
    rw [show (List.range (Int.toNat 12)).filterMap (fun j => some (PyData.bool (decide (j = i)))) = (List.range 12).map fun j => PyData.bool (decide (j = i)) from congrFun List.filterMap_eq_map (List.range 12)] at hx
    have lay : Ly 20 (.list ((List.range 12).map fun j => PyData.bool (decide (j = i)))) := (ly_lst (k := 3) fun d hd => by
      obtain ⟨x, mx, rfl⟩ := List.mem_map.mp hd
      exact ly_bl _).mono (by decide)
    refine ⟨_, _, .lst (sq (s6 _ _ hl)) (dpb _ (List.range 12)), .lst (sq hB6) (DtAll.dp _ _ hx), (shpL lay).1, (shpL lay).1, ?_⟩
    rw [(shpL lay).2]
    exact q _ (s0.trans (s1.trans (s2.trans s6)))
def lims : List Int := [5, 5, 10, 100, 1000000000000, 240, 200, 60000, 60, 12, 100000]
theorem c__law_limits {C_BadGroup : Addr} {C_BadLetter : Addr} {C_BadBlock : Addr} {C_BadText : Addr} {C_JournalError : Addr} {C_DiskCrashed : Addr} {C_DiskError : Addr} {C_BadRecord : Addr} {C_JournalFull : Addr} {C_LedgerError : Addr} {C_Refused : Addr} {C_BadSchedule : Addr} {C_BadCommand : Addr} (T : Txt K mg C_BadGroup C_BadLetter C_BadBlock C_BadText C_JournalError C_DiskCrashed C_DiskError C_BadRecord C_JournalFull C_LedgerError C_Refused C_BadSchedule C_BadCommand) : Cal P w K mg base 2 "_law_limits" spYes0 [] := by
  have c__law_number := c__law_number (P := P) (w := w) (base := base) T
  refine cal T.d__law_limits sc__law_limits (fun vs H Q E h => ?_) (fun f cdv A' outer s H vs Q E hr h => ?_)
  · obtain ⟨rfl, _⟩ := h; rfl
  obtain ⟨rfl, q⟩ := h
  refine ⟨_, (pss_cons (ps_set (i := 0) sc__law_limits.nd rfl (Or.inl rfl) (pe_lst (pa_cons (pe_gc (by rfl) T.c_SPAN) (pa_cons (pe_gc (by rfl) T.c_STINT) (pa_cons (pe_gc (by rfl) T.c_MOST_FAULTS) (pa_cons (pe_gc (by rfl) T.c_MOST_CLIENTS) (pa_cons (pe_gc (by rfl) T.c_MOST_NUMBER) (pa_cons (pe_gc (by rfl) T.c_MOST_TEXT) (pa_cons (pe_gc (by rfl) T.c_MOST_ANSWER) (pa_cons (pe_gc (by rfl) T.c_MOST_STATE) pa_nil))))))))))
      (pss_cons (ps_set (i := 0) sc__law_limits.nd rfl (Or.inl rfl) (pe_op op_cat (pv 0) (pe_lst (pa_cons (pe_gc (by rfl) T.c_MOST_DIGITS) (pa_cons (pe_gc (by rfl) T.c_MOST_DEPTH) (pa_cons (pe_gc (by rfl) T.c_MOST_LENGTH) pa_nil))))))
      (pss_cons (ps_set (i := 1) sc__law_limits.nd rfl (Or.inl rfl) (pe_lst (pa_cons pe_int (pa_cons pe_int (pa_cons pe_int (pa_cons pe_int (pa_cons (pe_op op_pow pe_int pe_int) (pa_cons pe_int (pa_cons pe_int (pa_cons pe_int (pa_cons pe_int (pa_cons pe_int (pa_cons pe_int pa_nil)))))))))))))
      (pss_cons (ps_for PassesOwn.never rfl (pi_range1 (by rfl) T.z_range (pa_cons (pe_callB (klen (K := K)) (by rfl) T.z_len (by decide +kernel) (pa_cons (pv 1) pa_nil)) pa_nil)) (pg_name (i := 2) sc__law_limits.nd rfl (Or.inl rfl)) (pss_one (ps_if (pt_not (pt_val (pe_c c__law_number hr (by decide) (by rfl) (pa_cons (pe_ix (kixl (K := K)) (pv 0) (pv 2) (fun _ _ => rfl)) (pa_cons (pe_ix (kixl (K := K)) (pv 1) (pv 2) (fun _ _ => rfl)) pa_nil))))) (pss_one (ps_ret pe_bl)) pss_nil)))
      (pss_one (ps_ret pe_bl)))))), ?_⟩
  walk_at "rds"
  intro l1 h1
  have a1 : upd H l1 (.lst [.int 5, .int 5, .int 10, .int 100, .int 1000000000000, .int 240, .int 200, .int 60000]) l1 = some (.lst [.int 5, .int 5, .int 10, .int 100, .int 1000000000000, .int 240, .int 200, .int 60000]) := upd_same
  have s1 := same_upd (o := .lst [.int 5, .int 5, .int 10, .int 100, .int 1000000000000, .int 240, .int 200, .int 60000]) h1
  generalize upd H l1 (.lst [.int 5, .int 5, .int 10, .int 100, .int 1000000000000, .int 240, .int 200, .int 60000]) = H1 at a1 s1
  walk_at "rds"
  intro l2 h2
  have a2 : upd H1 l2 (.lst [.int 60, .int 12, .int 100000]) l2 = some (.lst [.int 60, .int 12, .int 100000]) := upd_same
  have s2 := same_upd (o := .lst [.int 60, .int 12, .int 100000]) h2
  have b1 := s2 _ _ a1
  have s2 := s1.trans s2
  generalize upd H1 l2 (.lst [.int 60, .int 12, .int 100000]) = H2 at a2 s2 b1
  refine ⟨l1, l2, _, _, rfl, rfl, b1, a2, (sz1000 (Nat.le_of_ble_eq_true rfl) : 11 ≤ sizeLine), ?_⟩
  intro l3 h3
  have a3 : upd H2 l3 (.lst ([.int 5, .int 5, .int 10, .int 100, .int 1000000000000, .int 240, .int 200, .int 60000] ++ [.int 60, .int 12, .int 100000])) l3 = some (.lst (lims.map V.int)) := upd_same
  have s3 := s2.trans (same_upd (o := .lst ([.int 5, .int 5, .int 10, .int 100, .int 1000000000000, .int 240, .int 200, .int 60000] ++ [.int 60, .int 12, .int 100000])) h3)
  generalize upd H2 l3 (.lst ([.int 5, .int 5, .int 10, .int 100, .int 1000000000000, .int 240, .int 200, .int 60000] ++ [.int 60, .int 12, .int 100000])) = H3 at a3 s3
  walk_at "rds"
  intro l4 h4
  have a4 : upd H3 l4 (.lst [.int 5, .int 5, .int 10, .int 100, .int ((10 : Int) ^ (12 : Int).toNat), .int 240, .int 200, .int 60000, .int 60, .int 12, .int 100000]) l4 = some (.lst (lims.map V.int)) := upd_same
  have b4 := same_upd (o := .lst [.int 5, .int 5, .int 10, .int 100, .int ((10 : Int) ^ (12 : Int).toNat), .int 240, .int 200, .int 60000, .int 60, .int 12, .int 100000]) h4
  have b3 := b4 _ _ a3
  have s4 := s3.trans b4
  generalize upd H3 l4 (.lst [.int 5, .int 5, .int 10, .int 100, .int ((10 : Int) ^ (12 : Int).toNat), .int 240, .int 200, .int 60000, .int 60, .int 12, .int 100000]) = H4 at a4 s4 b3
  clear a1 s1 b1 a2 s2 a3 s3 b4
  walk_at "rds"
  refine ⟨l4, _, rfl, .inl (sq a4), ?_⟩
  walk_at "rds"
  refine for_it walk_range (Pv := fun i σ H' => ∃ y, σ = [some (.ref l3), some (.ref l4), y] ∧ H' = H4) ⟨none, rfl, rfl⟩ (fun _ _ _ _ _ => trivial) (fun i x σ H1 H2 hi hp hy => ?_) (fun σ H1 hp => ?_)
  · obtain ⟨y, rfl, rfl⟩ := hp
    obtain ⟨rfl, rfl⟩ := hy
    have hi' : i < lims.length := hi
    have g : (lims.map V.int)[i]? = some (.int lims[i]) := by
      rw [List.getElem?_map, List.getElem?_eq_getElem hi']; rfl
    walk_at "rds"
    refine ⟨l3, _, (i : Int), _, rfl, (by show V.int (0 + (i : Int)) = V.int i; rw [Int.zero_add]), sq b3, atI_nat g, ?_⟩
    walk_at "rds"
    refine ⟨l4, _, (i : Int), _, rfl, (by show V.int (0 + (i : Int)) = V.int i; rw [Int.zero_add]), sq a4, atI_nat g, ?_⟩
    walk_at "rds"
    refine ⟨_, rfl, ?_⟩
    walk_at "rds"
    rfl
  · obtain ⟨y, rfl, rfl⟩ := hp
    walk_at "rds"
    exact q _ s4
theorem c__law_kept {C_BadGroup : Addr} {C_BadLetter : Addr} {C_BadBlock : Addr} {C_BadText : Addr} {C_JournalError : Addr} {C_DiskCrashed : Addr} {C_DiskError : Addr} {C_BadRecord : Addr} {C_JournalFull : Addr} {C_LedgerError : Addr} {C_Refused : Addr} {C_BadSchedule : Addr} {C_BadCommand : Addr} (T : Txt K mg C_BadGroup C_BadLetter C_BadBlock C_BadText C_JournalError C_DiskCrashed C_DiskError C_BadRecord C_JournalFull C_LedgerError C_Refused C_BadSchedule C_BadCommand) : Cal P w K mg base 3 "_law_kept" spYes [] := by
  have i_Refused := i_Refused (P := P) (w := w) (base := base) T
  have i_BadCommand := i_BadCommand (P := P) (w := w) (base := base) T
  have i_BadSchedule := i_BadSchedule (P := P) (w := w) (base := base) T
  have h_number := h__law_number (P := P) (w := w) (base := base) T
  refine cal T.d__law_kept sc__law_kept (fun vs H Q E h => ?_) (fun f cdv A' outer s H vs Q E hr h => ?_)
  · obtain ⟨r, n, rfl, _⟩ := h; rfl
  obtain ⟨r, n, rfl, q⟩ := h
  refine ⟨_, (pss_cons (ps_try_as (i := 2) (Wout := fun _ _ _ _ => False) rfl rfl sc__law_kept.nd rfl rfl ⟨by rfl, by decide, .inl T.x_Refused.g⟩ takes0 (fun W pn xe tk po => (pss_one (ps_raise rfl tk (pmk_ei i_Refused hr (by decide) (by rfl) (pa_cons (pv 0) pa_nil))))) (fun a oe cls d pn hz hf => (pss_one (ps_if (pt_cmpR op_ne (pe_xf T.x_Refused.xf T.xn_Refused_reason hz hf (pv 2)) (pv 0) (nomark _)) (pss_one (ps_ret pe_bl)) pss_nil))))
      (pss_cons (ps_try_as (i := 2) (Wout := fun _ _ _ _ => False) rfl rfl sc__law_kept.nd rfl rfl ⟨by rfl, by decide, .inl T.x_BadCommand.g⟩ takes0 (fun W pn xe tk po => (pss_one (ps_raise rfl tk (pmk_ei i_BadCommand hr (by decide) (by rfl) (pa_cons (pv 0) (pa_cons (pv 1) pa_nil)))))) (fun a oe cls d pn hz hf => (pss_one (ps_if (PW.pt (pw_or (pt_cmpR op_ne (pe_xf T.x_BadCommand.xf T.xn_BadCommand_reason hz hf (pv 2)) (pv 0) (nomark _)) (pw_or1 (pt_not (pt_val (pe_cM h_number (roomM hr) (by decide) (by rfl) List.mem_cons_self hz hf (pa_cons (pe_xf T.x_BadCommand.xf T.xn_BadCommand_statement hz hf (pv 2)) (pa_cons (pv 1) pa_nil)))))))) (pss_one (ps_ret pe_bl)) pss_nil))))
      (pss_cons (ps_try_as (i := 2) (Wout := fun _ _ _ _ => False) rfl rfl sc__law_kept.nd rfl rfl ⟨by rfl, by decide, .inl T.x_BadSchedule.g⟩ takes0 (fun W pn xe tk po => (pss_one (ps_raise rfl tk (pmk_ei i_BadSchedule hr (by decide) (by rfl) (pa_cons (pv 1) (pa_cons (pv 0) pa_nil)))))) (fun a oe cls d pn hz hf => (pss_one (ps_if (PW.pt (pw_or (pt_cmpR op_ne (pe_xf T.x_BadSchedule.xf T.xn_BadSchedule_reason hz hf (pv 2)) (pv 0) (nomark _)) (pw_or1 (pt_not (pt_val (pe_cM h_number (roomM hr) (by decide) (by rfl) List.mem_cons_self hz hf (pa_cons (pe_xf T.x_BadSchedule.xf T.xn_BadSchedule_line hz hf (pv 2)) (pa_cons (pv 1) pa_nil)))))))) (pss_one (ps_ret pe_bl)) pss_nil))))
      (pss_one (ps_ret pe_bl))))), ?_⟩
  walk_at "rds"
  refine ⟨by show 1 ≤ 1000; decide, fun x1 hx => ⟨x1, .str r, rfl, upd_same, fun y1 hy hne => ?_⟩⟩
  obtain ⟨hy1, sm1⟩ := one_heap (C := C_Refused) (f := "reason") (r := .str r) hx hy hne
  refine ⟨rfl, y1, [("reason", .str r)], upd_same, by rw [upd_ne hne]; exact upd_same, hy1, ?_⟩
  have hd1 : (upd (del (upd (upd (upd H x1 (exo x1 C_Refused none)) y1 (L2.exd y1 [("reason", .str r)])) x1 (exo x1 C_Refused (some y1))) x1) y1 (.xd [("reason", .str r)])) y1 = some (.xd [("reason", .str r)]) := upd_same
  generalize (upd (del (upd (upd (upd H x1 (exo x1 C_Refused none)) y1 (L2.exd y1 [("reason", .str r)])) x1 (exo x1 C_Refused (some y1))) x1) y1 (.xd [("reason", .str r)])) = H1 at hd1 sm1 ⊢
  refine ⟨true, T.x_Refused.exm T.u_Refused_Refused, fun _ b1 hb1 => ?_, fun z => nomatch z⟩
  walk_at "rds"
  refine ⟨rfl, rfl, y1, _, _, rfl, hd1, rfl, ?_⟩
  walk_at "rds"
  rw [decide_eq_true rfl]
  refine ifF rfl ?_
  walk_at "rds"
  refine ⟨by show 2 ≤ 1000; decide, fun x2 hx => ⟨x2, .str r, .int n, rfl, upd_same, fun y2 hy hne => ?_⟩⟩
  obtain ⟨hy1, hx2, sm2⟩ := two_heap (C := C_BadCommand) (f := "reason") (g := "statement") (r := .str r) (s := .int n) hx hy hne
  refine ⟨rfl, y2, [("statement", .int n), ("reason", .str r)], hx2, upd_same, hy1, ?_⟩
  have hd2 : (upd (del (upd (upd (upd (upd H1 x2 (exo x2 C_BadCommand none)) y2 (L2.exd y2 [("reason", .str r)])) x2 (exo x2 C_BadCommand (some y2))) y2 (L2.exd y2 [("statement", .int n), ("reason", .str r)])) x2) y2 (.xd [("statement", .int n), ("reason", .str r)])) y2 = some (.xd [("statement", .int n), ("reason", .str r)]) := upd_same
  generalize (upd (del (upd (upd (upd (upd H1 x2 (exo x2 C_BadCommand none)) y2 (L2.exd y2 [("reason", .str r)])) x2 (exo x2 C_BadCommand (some y2))) y2 (L2.exd y2 [("statement", .int n), ("reason", .str r)])) x2) y2 (.xd [("statement", .int n), ("reason", .str r)])) = H2 at hd2 sm2 ⊢
  refine ⟨true, T.x_BadCommand.exm T.u_BadCommand_BadCommand, fun _ b2 hb2 => ?_, fun z => nomatch z⟩
  walk_at "rds"
  refine ⟨rfl, rfl, y2, _, _, rfl, hd2, rfl, ?_⟩
  walk_at "rds"
  rw [decide_eq_true rfl]
  refine ifF rfl ?_
  walk_at "rds"
  refine ⟨rfl, rfl, y2, _, _, rfl, hd2, rfl, ?_⟩
  walk_at "rds"
  refine ⟨by show 2 ≤ 1000; decide, fun x3 hx => ⟨x3, .int n, .str r, rfl, upd_same, fun y3 hy hne => ?_⟩⟩
  obtain ⟨hy1, hx2, sm3⟩ := two_heap (C := C_BadSchedule) (f := "line") (g := "reason") (r := .int n) (s := .str r) hx hy hne
  refine ⟨rfl, y3, [("reason", .str r), ("line", .int n)], hx2, upd_same, hy1, ?_⟩
  have hd3 : (upd (del (upd (upd (upd (upd H2 x3 (exo x3 C_BadSchedule none)) y3 (L2.exd y3 [("line", .int n)])) x3 (exo x3 C_BadSchedule (some y3))) y3 (L2.exd y3 [("reason", .str r), ("line", .int n)])) x3) y3 (.xd [("reason", .str r), ("line", .int n)])) y3 = some (.xd [("reason", .str r), ("line", .int n)]) := upd_same
  generalize (upd (del (upd (upd (upd (upd H2 x3 (exo x3 C_BadSchedule none)) y3 (L2.exd y3 [("line", .int n)])) x3 (exo x3 C_BadSchedule (some y3))) y3 (L2.exd y3 [("reason", .str r), ("line", .int n)])) x3) y3 (.xd [("reason", .str r), ("line", .int n)])) = H3 at hd3 sm3 ⊢
  refine ⟨true, T.x_BadSchedule.exm T.u_BadSchedule_BadSchedule, fun _ b3 hb3 => ?_, fun z => nomatch z⟩
  walk_at "rds"
  refine ⟨rfl, rfl, y3, _, _, rfl, hd3, rfl, ?_⟩
  walk_at "rds"
  rw [decide_eq_true rfl]
  refine ifF rfl ?_
  walk_at "rds"
  refine ⟨rfl, rfl, y3, _, _, rfl, hd3, rfl, ?_⟩
  walk_at "rds"
  exact q _ (sm1.trans (sm2.trans sm3))
theorem ok_law {C_BadGroup : Addr} {C_BadLetter : Addr} {C_BadBlock : Addr} {C_BadText : Addr} {C_JournalError : Addr} {C_DiskCrashed : Addr} {C_DiskError : Addr} {C_BadRecord : Addr} {C_JournalFull : Addr} {C_LedgerError : Addr} {C_Refused : Addr} {C_BadSchedule : Addr} {C_BadCommand : Addr} {f : Addr} {fd : FuncData} (F : L2.Fun K "law" "law" s_law f fd) (T : Txt K mg C_BadGroup C_BadLetter C_BadBlock C_BadText C_JournalError C_DiskCrashed C_DiskError C_BadRecord C_JournalFull C_LedgerError C_Refused C_BadSchedule C_BadCommand) : FnOk P w K mg base L2.CX0 6 f fd ["script"] (spLaw K) := by
  have c__law_draws := c__law_draws (P := P) (w := w) (base := base) T
  have c__law_next := c__law_next (P := P) (w := w) (base := base) T
  have c__law_big := c__law_big (P := P) (w := w) (base := base) T
  have c__law_string := c__law_string (P := P) (w := w) (base := base) T
  have c__law_limits := c__law_limits (P := P) (w := w) (base := base) T
  have c__law_kept := c__law_kept (P := P) (w := w) (base := base) T
  have c__law_caught := c__law_caught (P := P) (w := w) (base := base) T
  refine F.ok sc_law (fun vs H Q E h => ?_) (fun cdv A' outer s H vs Q E hr h => ?_)
  · obtain ⟨a, ns, rfl, _⟩ := h; rfl
  obtain ⟨a, ns, rfl, hS, hlen, q⟩ := h
  refine ⟨_, (pss_cons (ps_set (i := 1) sc_law.nd rfl (Or.inl rfl) (pe_c c__law_draws hr (by decide) (by rfl) (pa_cons (pv 0) pa_nil)))
      (pss_cons (ps_set (i := 2) sc_law.nd rfl (Or.inl rfl) (pe_lst (pa_cons pe_int pa_nil)))
      (pss_cons (ps_if (pt_not (pt_val (pe_c0 c__law_limits hr (by decide) (by rfl)))) (pss_one (ps_ret pe_bl)) pss_nil)
      (pss_cons (ps_for PassesOwn.never rfl (pi_range1 (by rfl) T.z_range (pa_cons pe_int pa_nil)) (pg_name (i := 3) sc_law.nd rfl (Or.inl rfl)) (pss_cons (ps_set (i := 4) sc_law.nd rfl (Or.inl rfl) (pe_c c__law_string hr (by decide) (by rfl) (pa_cons (pv 1) (pa_cons (pv 2) (pa_cons pe_int pa_nil)))))
      (pss_cons (ps_set (i := 5) sc_law.nd rfl (Or.inl rfl) (pe_c c__law_next hr (by decide) (by rfl) (pa_cons (pv 1) (pa_cons (pv 2) (pa_cons pe_int pa_nil)))))
      (pss_cut (ps_if (pt_cmpR op_eq (pe_c c__law_next hr (by decide) (by rfl) (pa_cons (pv 1) (pa_cons (pv 2) (pa_cons pe_int pa_nil)))) pe_int (nomark _)) (pss_one (ps_set (i := 5) sc_law.nd rfl (Or.inl rfl) (pe_c c__law_big hr (by decide) (by rfl) (pa_cons (pv 1) (pa_cons (pv 2) (pa_cons (pe_op op_pow pe_int pe_int) pa_nil)))))) pss_nil)
      (pss_cons (ps_if (pt_not (pt_val (pe_c c__law_kept hr (by decide) (by rfl) (pa_cons (pv 4) (pa_cons (pv 5) pa_nil))))) (pss_one (ps_ret pe_bl)) pss_nil)
      (pss_one (ps_for PassesOwn.never rfl (pi_range1 (by rfl) T.z_range (pa_cons pe_int pa_nil)) (pg_name (i := 6) sc_law.nd rfl (Or.inl rfl)) (pss_one (ps_if (pt_not (pt_val (pe_c c__law_caught hr (by decide) (by rfl) (pa_cons (pv 6) (pa_cons (pv 4) (pa_cons (pv 5) pa_nil)))))) (pss_one (ps_ret pe_bl)) pss_nil)))))))))
      (pss_one (ps_ret pe_bl)))))), ?_⟩
  walk_at "rds"
  refine ⟨a, ns, rfl, hS, hlen, fun H1 D ds s1 hD0 hD hrg hle => ?_⟩
  walk_at "rds"
  intro A hA
  have dr : Dr (upd H1 A (.lst [.int 0])) D A := ⟨ne_of_none hD hA, ds, 0, by rw [upd_ne (ne_of_none hD hA)]; exact hD, upd_same, hrg, hle⟩
  generalize upd H1 A (.lst [.int 0]) = H2 at dr
  walk_at "rds"
  refine ⟨rfl, fun H3 s3 => ?_⟩
  have dr := dr.same s3
  walk_at "rds"
  refine for_it walk_range (Pv := fun i σ H' => ∃ y3 y4 y5 y6, σ = [some (.ref a), some (.ref D), some (.ref A), y3, y4, y5, y6] ∧ Dr H' D A) ⟨none, none, none, none, rfl, dr⟩ (fun _ _ _ _ _ => trivial) (fun i x σ H4 H5 hi hp hy => ?_) (fun σ H4 hp => ?_)
  · obtain ⟨y3, y4, y5, y6, rfl, dr⟩ := hp
    obtain ⟨rfl, rfl⟩ := hy
    walk_at "rds"
    refine ⟨D, A, 90, rfl, dr, by decide, by decide, fun H6 z hz pz md dr => ?_⟩
    walk_at "rds"
    refine ⟨D, A, 1000, rfl, dr, by decide, fun H7 n n0 n1 md dr => ?_⟩
    refine ⟨fun σ' H' => ∃ n : Int, σ' = [some (.ref a), some (.ref D), some (.ref A), some (.int (0 + (i : Int))), some (.str z), some (.int n), y6] ∧ Dr H' D A, ?_, ?_⟩
    · walk_at "rds"
      refine ⟨D, A, 3, rfl, dr, by decide, fun H8 m m0 m1 md dr => ?_⟩
      walk_at "rds"
      refine ite2 (fun _ => ?_) (fun _ => ?_)
      · walk_at "rds"
        refine ⟨D, A, _, rfl, dr, by decide, fun H9 b b0 b1 md dr => ?_⟩
        exact ⟨_, rfl, dr⟩
      · exact ⟨_, rfl, dr⟩
    rintro σ' H8 ⟨n, rfl, dr⟩
    walk_at "rds"
    refine ⟨z, n, rfl, fun H9 s9 => ?_⟩
    have dr := dr.same s9
    walk_at "rds"
    refine for_it walk_range (Pv := fun i2 σ H' => ∃ y6, σ = [some (.ref a), some (.ref D), some (.ref A), some (.int (0 + (i : Int))), some (.str z), some (.int n), y6] ∧ Dr H' D A) ⟨y6, rfl, dr⟩ (fun _ _ _ _ _ => trivial) (fun j x σ H4 H5 hj hp hy => ?_) (fun σ H4 hp => ?_)
    · obtain ⟨y6, rfl, dr⟩ := hp
      obtain ⟨rfl, rfl⟩ := hy
      walk_at "rds"
      refine ⟨j, z, n, by show [V.int (0 + (j : Int)), V.str z, V.int n] = _; rw [Int.zero_add], hj, fun H9 s9 => ?_⟩
      walk_at "rds"
      exact ⟨_, rfl, dr.same s9⟩
    · obtain ⟨y6, rfl, dr⟩ := hp
      exact ⟨_, _, _, _, rfl, dr⟩
  · obtain ⟨y3, y4, y5, y6, rfl, dr⟩ := hp
    walk_at "rds"
    exact q _
end

theorem fin {C_BadGroup : Addr} {C_BadLetter : Addr} {C_BadBlock : Addr} {C_BadText : Addr} {C_JournalError : Addr} {C_DiskCrashed : Addr} {C_DiskError : Addr} {C_BadRecord : Addr} {C_JournalFull : Addr} {C_LedgerError : Addr} {C_Refused : Addr} {C_BadSchedule : Addr} {C_BadCommand : Addr} {P : Program} {w : World} {K : PySem.W.Frag} {mg : Str → Option Value} {fa : Addr} (hfa : mg "law" = some (.ref fa)) (T : Txt K mg C_BadGroup C_BadLetter C_BadBlock C_BadText C_JournalError C_DiskCrashed C_DiskError C_BadRecord C_JournalFull C_LedgerError C_Refused C_BadSchedule C_BadCommand) :
    ∃ fd : FuncData, (∀ (s : Shared) (u : Value), BindsTo s fd ⟨[u], []⟩ [("script", u)]) ∧ ∀ base : Heap, K.In base → base.Ns mainGlobals mg → FnOk P w K mg base L2.CX0 6 fa fd ["script"] (spLaw K) := by
  obtain ⟨f, fd, F, hm, b⟩ := T.d_law.ex
  cases hfa.symm.trans hm
  refine ⟨fd, fun s u => ?_, fun base _ _ => ok_law F T⟩
  obtain ⟨oc, od, kV, doc, pm, an, cdv, ct, osl, rfl, l, _⟩ := F.ex
  exact .of_eq rfl

theorem all_mk {K : PySem.W.Frag} {h : Heap} {mg : Str → Option Value} (X : K.In h) (G : h.Ns mainGlobals mg)
    {f__law_draws : Addr} {od__law_draws an__law_draws : Option Addr} {sl__law_draws : Array (Option Value)} {oc__law_draws kV__law_draws dc__law_draws pm__law_draws cd__law_draws ct__law_draws : Value}
    {f__law_next : Addr} {od__law_next an__law_next : Option Addr} {sl__law_next : Array (Option Value)} {oc__law_next kV__law_next dc__law_next pm__law_next cd__law_next ct__law_next : Value}
    {f__law_big : Addr} {od__law_big an__law_big : Option Addr} {sl__law_big : Array (Option Value)} {oc__law_big kV__law_big dc__law_big pm__law_big cd__law_big ct__law_big : Value}
    {f__law_char : Addr} {od__law_char an__law_char : Option Addr} {sl__law_char : Array (Option Value)} {oc__law_char kV__law_char dc__law_char pm__law_char cd__law_char ct__law_char : Value}
    {f__law_string : Addr} {od__law_string an__law_string : Option Addr} {sl__law_string : Array (Option Value)} {oc__law_string kV__law_string dc__law_string pm__law_string cd__law_string ct__law_string : Value}
    {f__law_raise : Addr} {od__law_raise an__law_raise : Option Addr} {sl__law_raise : Array (Option Value)} {oc__law_raise kV__law_raise dc__law_raise pm__law_raise cd__law_raise ct__law_raise : Value}
    {f__law_marks : Addr} {od__law_marks an__law_marks : Option Addr} {sl__law_marks : Array (Option Value)} {oc__law_marks kV__law_marks dc__law_marks pm__law_marks cd__law_marks ct__law_marks : Value}
    {f__law_caught : Addr} {od__law_caught an__law_caught : Option Addr} {sl__law_caught : Array (Option Value)} {oc__law_caught kV__law_caught dc__law_caught pm__law_caught cd__law_caught ct__law_caught : Value}
    {f__law_number : Addr} {od__law_number an__law_number : Option Addr} {sl__law_number : Array (Option Value)} {oc__law_number kV__law_number dc__law_number pm__law_number cd__law_number ct__law_number : Value}
    {f__law_limits : Addr} {od__law_limits an__law_limits : Option Addr} {sl__law_limits : Array (Option Value)} {oc__law_limits kV__law_limits dc__law_limits pm__law_limits cd__law_limits ct__law_limits : Value}
    {f__law_kept : Addr} {od__law_kept an__law_kept : Option Addr} {sl__law_kept : Array (Option Value)} {oc__law_kept kV__law_kept dc__law_kept pm__law_kept cd__law_kept ct__law_kept : Value}
    {f_law : Addr} {od_law an_law : Option Addr} {sl_law : Array (Option Value)} {oc_law kV_law dc_law pm_law cd_law ct_law : Value}
    {C_BadGroup : Addr}
    {C_BadLetter : Addr}
    {C_BadBlock : Addr}
    {C_BadText : Addr}
    {C_JournalError : Addr}
    {C_DiskCrashed : Addr}
    {C_DiskError : Addr}
    {C_BadRecord : Addr}
    {C_JournalFull : Addr}
    {C_LedgerError : Addr}
    {C_Refused : Addr} {nm_Refused qn_Refused : Str} {NN_Refused : Addr} {bs_Refused bm_Refused sub_Refused : List Value} {sn_Refused : List Str} {ab_Refused : Bool} {col_Refused : Option Bool} {dd_Refused : Option Addr} {m0_Refused m1_Refused m2_Refused m3_Refused m5_Refused : Option Value}
    {f_Refused____init__ : Addr} {od_Refused____init__ an_Refused____init__ : Option Addr} {sl_Refused____init__ : Array (Option Value)} {oc_Refused____init__ kV_Refused____init__ dc_Refused____init__ pm_Refused____init__ cd_Refused____init__ ct_Refused____init__ : Value}
    {C_BadSchedule : Addr} {nm_BadSchedule qn_BadSchedule : Str} {NN_BadSchedule : Addr} {bs_BadSchedule bm_BadSchedule sub_BadSchedule : List Value} {sn_BadSchedule : List Str} {ab_BadSchedule : Bool} {col_BadSchedule : Option Bool} {dd_BadSchedule : Option Addr} {m0_BadSchedule m1_BadSchedule m2_BadSchedule m3_BadSchedule m5_BadSchedule : Option Value}
    {f_BadSchedule____init__ : Addr} {od_BadSchedule____init__ an_BadSchedule____init__ : Option Addr} {sl_BadSchedule____init__ : Array (Option Value)} {oc_BadSchedule____init__ kV_BadSchedule____init__ dc_BadSchedule____init__ pm_BadSchedule____init__ cd_BadSchedule____init__ ct_BadSchedule____init__ : Value}
    {C_BadCommand : Addr} {nm_BadCommand qn_BadCommand : Str} {NN_BadCommand : Addr} {bs_BadCommand bm_BadCommand sub_BadCommand : List Value} {sn_BadCommand : List Str} {ab_BadCommand : Bool} {col_BadCommand : Option Bool} {dd_BadCommand : Option Addr} {m0_BadCommand m1_BadCommand m2_BadCommand m3_BadCommand m5_BadCommand : Option Value}
    {f_BadCommand____init__ : Addr} {od_BadCommand____init__ an_BadCommand____init__ : Option Addr} {sl_BadCommand____init__ : Array (Option Value)} {oc_BadCommand____init__ kV_BadCommand____init__ dc_BadCommand____init__ pm_BadCommand____init__ cd_BadCommand____init__ ct_BadCommand____init__ : Value}
    {t_MOST_ANSWER : Tok}
    {t_MOST_CLIENTS : Tok}
    {t_MOST_DEPTH : Tok}
    {t_MOST_DIGITS : Tok}
    {t_MOST_FAULTS : Tok}
    {t_MOST_LENGTH : Tok}
    {t_MOST_NUMBER : Tok}
    {t_MOST_STATE : Tok}
    {t_MOST_TEXT : Tok}
    {t_SPAN : Tok}
    {t_STINT : Tok}
    (a__law_draws : PySem.W.nsIn K mainGlobals "_law_draws" = some (some (.ref f__law_draws)))
    (l__law_draws : K.lookup f__law_draws = some ⟨oc__law_draws, od__law_draws, .func (PySem.W.fnOf "_law_draws" "_law_draws" (defArgs s__law_draws) (defBody s__law_draws) (defScope s__law_draws) .none kV__law_draws dc__law_draws pm__law_draws an__law_draws cd__law_draws ct__law_draws), sl__law_draws⟩)
    (e__law_draws : PySem.W.codeIn K cd__law_draws "_law_draws" = true)
    (k__law_draws : PySem.W.keepIn K (.ref f__law_draws) = true)
    (a__law_next : PySem.W.nsIn K mainGlobals "_law_next" = some (some (.ref f__law_next)))
    (l__law_next : K.lookup f__law_next = some ⟨oc__law_next, od__law_next, .func (PySem.W.fnOf "_law_next" "_law_next" (defArgs s__law_next) (defBody s__law_next) (defScope s__law_next) .none kV__law_next dc__law_next pm__law_next an__law_next cd__law_next ct__law_next), sl__law_next⟩)
    (e__law_next : PySem.W.codeIn K cd__law_next "_law_next" = true)
    (k__law_next : PySem.W.keepIn K (.ref f__law_next) = true)
    (a__law_big : PySem.W.nsIn K mainGlobals "_law_big" = some (some (.ref f__law_big)))
    (l__law_big : K.lookup f__law_big = some ⟨oc__law_big, od__law_big, .func (PySem.W.fnOf "_law_big" "_law_big" (defArgs s__law_big) (defBody s__law_big) (defScope s__law_big) .none kV__law_big dc__law_big pm__law_big an__law_big cd__law_big ct__law_big), sl__law_big⟩)
    (e__law_big : PySem.W.codeIn K cd__law_big "_law_big" = true)
    (k__law_big : PySem.W.keepIn K (.ref f__law_big) = true)
    (a__law_char : PySem.W.nsIn K mainGlobals "_law_char" = some (some (.ref f__law_char)))
    (l__law_char : K.lookup f__law_char = some ⟨oc__law_char, od__law_char, .func (PySem.W.fnOf "_law_char" "_law_char" (defArgs s__law_char) (defBody s__law_char) (defScope s__law_char) .none kV__law_char dc__law_char pm__law_char an__law_char cd__law_char ct__law_char), sl__law_char⟩)
    (e__law_char : PySem.W.codeIn K cd__law_char "_law_char" = true)
    (k__law_char : PySem.W.keepIn K (.ref f__law_char) = true)
    (a__law_string : PySem.W.nsIn K mainGlobals "_law_string" = some (some (.ref f__law_string)))
    (l__law_string : K.lookup f__law_string = some ⟨oc__law_string, od__law_string, .func (PySem.W.fnOf "_law_string" "_law_string" (defArgs s__law_string) (defBody s__law_string) (defScope s__law_string) .none kV__law_string dc__law_string pm__law_string an__law_string cd__law_string ct__law_string), sl__law_string⟩)
    (e__law_string : PySem.W.codeIn K cd__law_string "_law_string" = true)
    (k__law_string : PySem.W.keepIn K (.ref f__law_string) = true)
    (a__law_raise : PySem.W.nsIn K mainGlobals "_law_raise" = some (some (.ref f__law_raise)))
    (l__law_raise : K.lookup f__law_raise = some ⟨oc__law_raise, od__law_raise, .func (PySem.W.fnOf "_law_raise" "_law_raise" (defArgs s__law_raise) (defBody s__law_raise) (defScope s__law_raise) .none kV__law_raise dc__law_raise pm__law_raise an__law_raise cd__law_raise ct__law_raise), sl__law_raise⟩)
    (e__law_raise : PySem.W.codeIn K cd__law_raise "_law_raise" = true)
    (k__law_raise : PySem.W.keepIn K (.ref f__law_raise) = true)
    (a__law_marks : PySem.W.nsIn K mainGlobals "_law_marks" = some (some (.ref f__law_marks)))
    (l__law_marks : K.lookup f__law_marks = some ⟨oc__law_marks, od__law_marks, .func (PySem.W.fnOf "_law_marks" "_law_marks" (defArgs s__law_marks) (defBody s__law_marks) (defScope s__law_marks) .none kV__law_marks dc__law_marks pm__law_marks an__law_marks cd__law_marks ct__law_marks), sl__law_marks⟩)
    (e__law_marks : PySem.W.codeIn K cd__law_marks "_law_marks" = true)
    (k__law_marks : PySem.W.keepIn K (.ref f__law_marks) = true)
    (a__law_caught : PySem.W.nsIn K mainGlobals "_law_caught" = some (some (.ref f__law_caught)))
    (l__law_caught : K.lookup f__law_caught = some ⟨oc__law_caught, od__law_caught, .func (PySem.W.fnOf "_law_caught" "_law_caught" (defArgs s__law_caught) (defBody s__law_caught) (defScope s__law_caught) .none kV__law_caught dc__law_caught pm__law_caught an__law_caught cd__law_caught ct__law_caught), sl__law_caught⟩)
    (e__law_caught : PySem.W.codeIn K cd__law_caught "_law_caught" = true)
    (k__law_caught : PySem.W.keepIn K (.ref f__law_caught) = true)
    (a__law_number : PySem.W.nsIn K mainGlobals "_law_number" = some (some (.ref f__law_number)))
    (l__law_number : K.lookup f__law_number = some ⟨oc__law_number, od__law_number, .func (PySem.W.fnOf "_law_number" "_law_number" (defArgs s__law_number) (defBody s__law_number) (defScope s__law_number) .none kV__law_number dc__law_number pm__law_number an__law_number cd__law_number ct__law_number), sl__law_number⟩)
    (e__law_number : PySem.W.codeIn K cd__law_number "_law_number" = true)
    (k__law_number : PySem.W.keepIn K (.ref f__law_number) = true)
    (a__law_limits : PySem.W.nsIn K mainGlobals "_law_limits" = some (some (.ref f__law_limits)))
    (l__law_limits : K.lookup f__law_limits = some ⟨oc__law_limits, od__law_limits, .func (PySem.W.fnOf "_law_limits" "_law_limits" (defArgs s__law_limits) (defBody s__law_limits) (defScope s__law_limits) .none kV__law_limits dc__law_limits pm__law_limits an__law_limits cd__law_limits ct__law_limits), sl__law_limits⟩)
    (e__law_limits : PySem.W.codeIn K cd__law_limits "_law_limits" = true)
    (k__law_limits : PySem.W.keepIn K (.ref f__law_limits) = true)
    (a__law_kept : PySem.W.nsIn K mainGlobals "_law_kept" = some (some (.ref f__law_kept)))
    (l__law_kept : K.lookup f__law_kept = some ⟨oc__law_kept, od__law_kept, .func (PySem.W.fnOf "_law_kept" "_law_kept" (defArgs s__law_kept) (defBody s__law_kept) (defScope s__law_kept) .none kV__law_kept dc__law_kept pm__law_kept an__law_kept cd__law_kept ct__law_kept), sl__law_kept⟩)
    (e__law_kept : PySem.W.codeIn K cd__law_kept "_law_kept" = true)
    (k__law_kept : PySem.W.keepIn K (.ref f__law_kept) = true)
    (a_law : PySem.W.nsIn K mainGlobals "law" = some (some (.ref f_law)))
    (l_law : K.lookup f_law = some ⟨oc_law, od_law, .func (PySem.W.fnOf "law" "law" (defArgs s_law) (defBody s_law) (defScope s_law) .none kV_law dc_law pm_law an_law cd_law ct_law), sl_law⟩)
    (e_law : PySem.W.codeIn K cd_law "law" = true)
    (k_law : PySem.W.keepIn K (.ref f_law) = true)
    (xa_BadGroup : PySem.W.nsIn K mainGlobals "BadGroup" = some (some (.ref C_BadGroup)))
    (xe_BadGroup : PySem.W.excIn K C_BadGroup [.type "ValueError", .type "Exception", .type "BaseException", .type "object"] "ValueError.__new__" = true)
    (xk_BadGroup : PySem.W.keepIn K (.ref C_BadGroup) = true)
    (xb_BadGroup : PySem.W.subIn K (.ref C_BadGroup) (.type "BaseException") = some true)
    (xt_BadGroup : PySem.W.typeIn K (.ref C_BadGroup) = some (.type "type"))
    (xh_BadGroup : PySem.W.hasDictIn K C_BadGroup = true)
    (xa_BadLetter : PySem.W.nsIn K mainGlobals "BadLetter" = some (some (.ref C_BadLetter)))
    (xe_BadLetter : PySem.W.excIn K C_BadLetter [.type "ValueError", .type "Exception", .type "BaseException", .type "object"] "ValueError.__new__" = true)
    (xk_BadLetter : PySem.W.keepIn K (.ref C_BadLetter) = true)
    (xb_BadLetter : PySem.W.subIn K (.ref C_BadLetter) (.type "BaseException") = some true)
    (xt_BadLetter : PySem.W.typeIn K (.ref C_BadLetter) = some (.type "type"))
    (xh_BadLetter : PySem.W.hasDictIn K C_BadLetter = true)
    (xa_BadBlock : PySem.W.nsIn K mainGlobals "BadBlock" = some (some (.ref C_BadBlock)))
    (xe_BadBlock : PySem.W.excIn K C_BadBlock [.type "ValueError", .type "Exception", .type "BaseException", .type "object"] "ValueError.__new__" = true)
    (xk_BadBlock : PySem.W.keepIn K (.ref C_BadBlock) = true)
    (xb_BadBlock : PySem.W.subIn K (.ref C_BadBlock) (.type "BaseException") = some true)
    (xt_BadBlock : PySem.W.typeIn K (.ref C_BadBlock) = some (.type "type"))
    (xh_BadBlock : PySem.W.hasDictIn K C_BadBlock = true)
    (xa_BadText : PySem.W.nsIn K mainGlobals "BadText" = some (some (.ref C_BadText)))
    (xe_BadText : PySem.W.excIn K C_BadText [.type "ValueError", .type "Exception", .type "BaseException", .type "object"] "ValueError.__new__" = true)
    (xk_BadText : PySem.W.keepIn K (.ref C_BadText) = true)
    (xb_BadText : PySem.W.subIn K (.ref C_BadText) (.type "BaseException") = some true)
    (xt_BadText : PySem.W.typeIn K (.ref C_BadText) = some (.type "type"))
    (xh_BadText : PySem.W.hasDictIn K C_BadText = true)
    (xa_JournalError : PySem.W.nsIn K mainGlobals "JournalError" = some (some (.ref C_JournalError)))
    (xe_JournalError : PySem.W.excIn K C_JournalError [.type "ValueError", .type "Exception", .type "BaseException", .type "object"] "ValueError.__new__" = true)
    (xk_JournalError : PySem.W.keepIn K (.ref C_JournalError) = true)
    (xb_JournalError : PySem.W.subIn K (.ref C_JournalError) (.type "BaseException") = some true)
    (xt_JournalError : PySem.W.typeIn K (.ref C_JournalError) = some (.type "type"))
    (xh_JournalError : PySem.W.hasDictIn K C_JournalError = true)
    (xa_DiskCrashed : PySem.W.nsIn K mainGlobals "DiskCrashed" = some (some (.ref C_DiskCrashed)))
    (xe_DiskCrashed : PySem.W.excIn K C_DiskCrashed [.type "ValueError", .type "Exception", .type "BaseException", .type "object"] "ValueError.__new__" = true)
    (xk_DiskCrashed : PySem.W.keepIn K (.ref C_DiskCrashed) = true)
    (xb_DiskCrashed : PySem.W.subIn K (.ref C_DiskCrashed) (.type "BaseException") = some true)
    (xt_DiskCrashed : PySem.W.typeIn K (.ref C_DiskCrashed) = some (.type "type"))
    (xh_DiskCrashed : PySem.W.hasDictIn K C_DiskCrashed = true)
    (xa_DiskError : PySem.W.nsIn K mainGlobals "DiskError" = some (some (.ref C_DiskError)))
    (xe_DiskError : PySem.W.excIn K C_DiskError [.type "ValueError", .type "Exception", .type "BaseException", .type "object"] "ValueError.__new__" = true)
    (xk_DiskError : PySem.W.keepIn K (.ref C_DiskError) = true)
    (xb_DiskError : PySem.W.subIn K (.ref C_DiskError) (.type "BaseException") = some true)
    (xt_DiskError : PySem.W.typeIn K (.ref C_DiskError) = some (.type "type"))
    (xh_DiskError : PySem.W.hasDictIn K C_DiskError = true)
    (xa_BadRecord : PySem.W.nsIn K mainGlobals "BadRecord" = some (some (.ref C_BadRecord)))
    (xe_BadRecord : PySem.W.excIn K C_BadRecord [.type "ValueError", .type "Exception", .type "BaseException", .type "object"] "ValueError.__new__" = true)
    (xk_BadRecord : PySem.W.keepIn K (.ref C_BadRecord) = true)
    (xb_BadRecord : PySem.W.subIn K (.ref C_BadRecord) (.type "BaseException") = some true)
    (xt_BadRecord : PySem.W.typeIn K (.ref C_BadRecord) = some (.type "type"))
    (xh_BadRecord : PySem.W.hasDictIn K C_BadRecord = true)
    (xa_JournalFull : PySem.W.nsIn K mainGlobals "JournalFull" = some (some (.ref C_JournalFull)))
    (xe_JournalFull : PySem.W.excIn K C_JournalFull [.type "ValueError", .type "Exception", .type "BaseException", .type "object"] "ValueError.__new__" = true)
    (xk_JournalFull : PySem.W.keepIn K (.ref C_JournalFull) = true)
    (xb_JournalFull : PySem.W.subIn K (.ref C_JournalFull) (.type "BaseException") = some true)
    (xt_JournalFull : PySem.W.typeIn K (.ref C_JournalFull) = some (.type "type"))
    (xh_JournalFull : PySem.W.hasDictIn K C_JournalFull = true)
    (xa_LedgerError : PySem.W.nsIn K mainGlobals "LedgerError" = some (some (.ref C_LedgerError)))
    (xe_LedgerError : PySem.W.excIn K C_LedgerError [.type "ValueError", .type "Exception", .type "BaseException", .type "object"] "ValueError.__new__" = true)
    (xk_LedgerError : PySem.W.keepIn K (.ref C_LedgerError) = true)
    (xb_LedgerError : PySem.W.subIn K (.ref C_LedgerError) (.type "BaseException") = some true)
    (xt_LedgerError : PySem.W.typeIn K (.ref C_LedgerError) = some (.type "type"))
    (xh_LedgerError : PySem.W.hasDictIn K C_LedgerError = true)
    (xa_Refused : PySem.W.nsIn K mainGlobals "Refused" = some (some (.ref C_Refused)))
    (xl_Refused : K.lookup C_Refused = some (excClassObj nm_Refused qn_Refused C_Refused NN_Refused bs_Refused bm_Refused true sn_Refused sub_Refused ab_Refused col_Refused dd_Refused m0_Refused m1_Refused m2_Refused m3_Refused m5_Refused "ValueError.__new__"))
    (xr_Refused : PySem.HandSPX.refsVE bm_Refused = true)
    (xs_Refused : PySem.W.findIn K (.ref C_Refused) "__setattr__" = some (some (.builtin "object.__setattr__")))
    (xk_Refused : PySem.W.keepIn K (.ref C_Refused) = true)
    (xb_Refused : PySem.W.subIn K (.ref C_Refused) (.type "BaseException") = some true)
    (xt_Refused : PySem.W.typeIn K (.ref C_Refused) = some (.type "type"))
    (xh_Refused : PySem.W.hasDictIn K C_Refused = true)
    (xg_Refused : PySem.W.findIn K (.ref C_Refused) "__getattribute__" = some (some (.builtin "BaseException.__getattribute__")))
    (xq_Refused : PySem.W.findIn K (.ref C_Refused) "__getattr__" = some none)
    (xn_Refused_reason : PySem.W.findIn K (.ref C_Refused) "reason" = some none)
    (a_Refused____init__ : PySem.W.findIn K (.ref C_Refused) "__init__" = some (some (.ref f_Refused____init__)))
    (ty_Refused____init__ : PySem.W.typeIn K (.ref f_Refused____init__) = some (.type "function"))
    (l_Refused____init__ : K.lookup f_Refused____init__ = some ⟨oc_Refused____init__, od_Refused____init__, .func (PySem.W.fnOf "__init__" "Refused.__init__" (defArgs s_Refused____init__) (defBody s_Refused____init__) (defScope s_Refused____init__) .none kV_Refused____init__ dc_Refused____init__ pm_Refused____init__ an_Refused____init__ cd_Refused____init__ ct_Refused____init__), sl_Refused____init__⟩)
    (e_Refused____init__ : PySem.W.codeIn K cd_Refused____init__ "Refused.__init__" = true)
    (k_Refused____init__ : PySem.W.keepIn K (.ref f_Refused____init__) = true)
    (xa_BadSchedule : PySem.W.nsIn K mainGlobals "BadSchedule" = some (some (.ref C_BadSchedule)))
    (xl_BadSchedule : K.lookup C_BadSchedule = some (excClassObj nm_BadSchedule qn_BadSchedule C_BadSchedule NN_BadSchedule bs_BadSchedule bm_BadSchedule true sn_BadSchedule sub_BadSchedule ab_BadSchedule col_BadSchedule dd_BadSchedule m0_BadSchedule m1_BadSchedule m2_BadSchedule m3_BadSchedule m5_BadSchedule "ValueError.__new__"))
    (xr_BadSchedule : PySem.HandSPX.refsVE bm_BadSchedule = true)
    (xs_BadSchedule : PySem.W.findIn K (.ref C_BadSchedule) "__setattr__" = some (some (.builtin "object.__setattr__")))
    (xk_BadSchedule : PySem.W.keepIn K (.ref C_BadSchedule) = true)
    (xb_BadSchedule : PySem.W.subIn K (.ref C_BadSchedule) (.type "BaseException") = some true)
    (xt_BadSchedule : PySem.W.typeIn K (.ref C_BadSchedule) = some (.type "type"))
    (xh_BadSchedule : PySem.W.hasDictIn K C_BadSchedule = true)
    (xg_BadSchedule : PySem.W.findIn K (.ref C_BadSchedule) "__getattribute__" = some (some (.builtin "BaseException.__getattribute__")))
    (xq_BadSchedule : PySem.W.findIn K (.ref C_BadSchedule) "__getattr__" = some none)
    (xn_BadSchedule_line : PySem.W.findIn K (.ref C_BadSchedule) "line" = some none)
    (xn_BadSchedule_reason : PySem.W.findIn K (.ref C_BadSchedule) "reason" = some none)
    (a_BadSchedule____init__ : PySem.W.findIn K (.ref C_BadSchedule) "__init__" = some (some (.ref f_BadSchedule____init__)))
    (ty_BadSchedule____init__ : PySem.W.typeIn K (.ref f_BadSchedule____init__) = some (.type "function"))
    (l_BadSchedule____init__ : K.lookup f_BadSchedule____init__ = some ⟨oc_BadSchedule____init__, od_BadSchedule____init__, .func (PySem.W.fnOf "__init__" "BadSchedule.__init__" (defArgs s_BadSchedule____init__) (defBody s_BadSchedule____init__) (defScope s_BadSchedule____init__) .none kV_BadSchedule____init__ dc_BadSchedule____init__ pm_BadSchedule____init__ an_BadSchedule____init__ cd_BadSchedule____init__ ct_BadSchedule____init__), sl_BadSchedule____init__⟩)
    (e_BadSchedule____init__ : PySem.W.codeIn K cd_BadSchedule____init__ "BadSchedule.__init__" = true)
    (k_BadSchedule____init__ : PySem.W.keepIn K (.ref f_BadSchedule____init__) = true)
    (xa_BadCommand : PySem.W.nsIn K mainGlobals "BadCommand" = some (some (.ref C_BadCommand)))
    (xl_BadCommand : K.lookup C_BadCommand = some (excClassObj nm_BadCommand qn_BadCommand C_BadCommand NN_BadCommand bs_BadCommand bm_BadCommand true sn_BadCommand sub_BadCommand ab_BadCommand col_BadCommand dd_BadCommand m0_BadCommand m1_BadCommand m2_BadCommand m3_BadCommand m5_BadCommand "ValueError.__new__"))
    (xr_BadCommand : PySem.HandSPX.refsVE bm_BadCommand = true)
    (xs_BadCommand : PySem.W.findIn K (.ref C_BadCommand) "__setattr__" = some (some (.builtin "object.__setattr__")))
    (xk_BadCommand : PySem.W.keepIn K (.ref C_BadCommand) = true)
    (xb_BadCommand : PySem.W.subIn K (.ref C_BadCommand) (.type "BaseException") = some true)
    (xt_BadCommand : PySem.W.typeIn K (.ref C_BadCommand) = some (.type "type"))
    (xh_BadCommand : PySem.W.hasDictIn K C_BadCommand = true)
    (xg_BadCommand : PySem.W.findIn K (.ref C_BadCommand) "__getattribute__" = some (some (.builtin "BaseException.__getattribute__")))
    (xq_BadCommand : PySem.W.findIn K (.ref C_BadCommand) "__getattr__" = some none)
    (xn_BadCommand_reason : PySem.W.findIn K (.ref C_BadCommand) "reason" = some none)
    (xn_BadCommand_statement : PySem.W.findIn K (.ref C_BadCommand) "statement" = some none)
    (a_BadCommand____init__ : PySem.W.findIn K (.ref C_BadCommand) "__init__" = some (some (.ref f_BadCommand____init__)))
    (ty_BadCommand____init__ : PySem.W.typeIn K (.ref f_BadCommand____init__) = some (.type "function"))
    (l_BadCommand____init__ : K.lookup f_BadCommand____init__ = some ⟨oc_BadCommand____init__, od_BadCommand____init__, .func (PySem.W.fnOf "__init__" "BadCommand.__init__" (defArgs s_BadCommand____init__) (defBody s_BadCommand____init__) (defScope s_BadCommand____init__) .none kV_BadCommand____init__ dc_BadCommand____init__ pm_BadCommand____init__ an_BadCommand____init__ cd_BadCommand____init__ ct_BadCommand____init__), sl_BadCommand____init__⟩)
    (e_BadCommand____init__ : PySem.W.codeIn K cd_BadCommand____init__ "BadCommand.__init__" = true)
    (k_BadCommand____init__ : PySem.W.keepIn K (.ref f_BadCommand____init__) = true)
    (ehg_BadText : PySem.W.findIn K (.ref C_BadText) "__getattribute__" = some (some (.builtin "BaseException.__getattribute__")))
    (ehk_BadText : PySem.W.findIn K (.ref C_BadText) "__getattr__" = some none)
    (eha_BadText : PySem.W.findIn K (.ref C_BadText) "__class__" = some (some (.builtin "object.__class__")))
    (ehm_BadText : PySem.W.mroIn K C_BadText (.type "object") = some true)
    (ehn_BadText : PySem.W.specialIn K (.builtin "object.__class__") "__get__" = some (some (.builtin "getset_descriptor.__get__")))
    (eht_BadText : PySem.W.takesIn K (.builtin "object.__class__") = some true)
    (ehg_BadBlock : PySem.W.findIn K (.ref C_BadBlock) "__getattribute__" = some (some (.builtin "BaseException.__getattribute__")))
    (ehk_BadBlock : PySem.W.findIn K (.ref C_BadBlock) "__getattr__" = some none)
    (eha_BadBlock : PySem.W.findIn K (.ref C_BadBlock) "__class__" = some (some (.builtin "object.__class__")))
    (ehm_BadBlock : PySem.W.mroIn K C_BadBlock (.type "object") = some true)
    (ehn_BadBlock : PySem.W.specialIn K (.builtin "object.__class__") "__get__" = some (some (.builtin "getset_descriptor.__get__")))
    (eht_BadBlock : PySem.W.takesIn K (.builtin "object.__class__") = some true)
    (ehg_BadLetter : PySem.W.findIn K (.ref C_BadLetter) "__getattribute__" = some (some (.builtin "BaseException.__getattribute__")))
    (ehk_BadLetter : PySem.W.findIn K (.ref C_BadLetter) "__getattr__" = some none)
    (eha_BadLetter : PySem.W.findIn K (.ref C_BadLetter) "__class__" = some (some (.builtin "object.__class__")))
    (ehm_BadLetter : PySem.W.mroIn K C_BadLetter (.type "object") = some true)
    (ehn_BadLetter : PySem.W.specialIn K (.builtin "object.__class__") "__get__" = some (some (.builtin "getset_descriptor.__get__")))
    (eht_BadLetter : PySem.W.takesIn K (.builtin "object.__class__") = some true)
    (ehg_BadGroup : PySem.W.findIn K (.ref C_BadGroup) "__getattribute__" = some (some (.builtin "BaseException.__getattribute__")))
    (ehk_BadGroup : PySem.W.findIn K (.ref C_BadGroup) "__getattr__" = some none)
    (eha_BadGroup : PySem.W.findIn K (.ref C_BadGroup) "__class__" = some (some (.builtin "object.__class__")))
    (ehm_BadGroup : PySem.W.mroIn K C_BadGroup (.type "object") = some true)
    (ehn_BadGroup : PySem.W.specialIn K (.builtin "object.__class__") "__get__" = some (some (.builtin "getset_descriptor.__get__")))
    (eht_BadGroup : PySem.W.takesIn K (.builtin "object.__class__") = some true)
    (ehg_DiskError : PySem.W.findIn K (.ref C_DiskError) "__getattribute__" = some (some (.builtin "BaseException.__getattribute__")))
    (ehk_DiskError : PySem.W.findIn K (.ref C_DiskError) "__getattr__" = some none)
    (eha_DiskError : PySem.W.findIn K (.ref C_DiskError) "__class__" = some (some (.builtin "object.__class__")))
    (ehm_DiskError : PySem.W.mroIn K C_DiskError (.type "object") = some true)
    (ehn_DiskError : PySem.W.specialIn K (.builtin "object.__class__") "__get__" = some (some (.builtin "getset_descriptor.__get__")))
    (eht_DiskError : PySem.W.takesIn K (.builtin "object.__class__") = some true)
    (ehg_DiskCrashed : PySem.W.findIn K (.ref C_DiskCrashed) "__getattribute__" = some (some (.builtin "BaseException.__getattribute__")))
    (ehk_DiskCrashed : PySem.W.findIn K (.ref C_DiskCrashed) "__getattr__" = some none)
    (eha_DiskCrashed : PySem.W.findIn K (.ref C_DiskCrashed) "__class__" = some (some (.builtin "object.__class__")))
    (ehm_DiskCrashed : PySem.W.mroIn K C_DiskCrashed (.type "object") = some true)
    (ehn_DiskCrashed : PySem.W.specialIn K (.builtin "object.__class__") "__get__" = some (some (.builtin "getset_descriptor.__get__")))
    (eht_DiskCrashed : PySem.W.takesIn K (.builtin "object.__class__") = some true)
    (ehg_JournalError : PySem.W.findIn K (.ref C_JournalError) "__getattribute__" = some (some (.builtin "BaseException.__getattribute__")))
    (ehk_JournalError : PySem.W.findIn K (.ref C_JournalError) "__getattr__" = some none)
    (eha_JournalError : PySem.W.findIn K (.ref C_JournalError) "__class__" = some (some (.builtin "object.__class__")))
    (ehm_JournalError : PySem.W.mroIn K C_JournalError (.type "object") = some true)
    (ehn_JournalError : PySem.W.specialIn K (.builtin "object.__class__") "__get__" = some (some (.builtin "getset_descriptor.__get__")))
    (eht_JournalError : PySem.W.takesIn K (.builtin "object.__class__") = some true)
    (ehg_JournalFull : PySem.W.findIn K (.ref C_JournalFull) "__getattribute__" = some (some (.builtin "BaseException.__getattribute__")))
    (ehk_JournalFull : PySem.W.findIn K (.ref C_JournalFull) "__getattr__" = some none)
    (eha_JournalFull : PySem.W.findIn K (.ref C_JournalFull) "__class__" = some (some (.builtin "object.__class__")))
    (ehm_JournalFull : PySem.W.mroIn K C_JournalFull (.type "object") = some true)
    (ehn_JournalFull : PySem.W.specialIn K (.builtin "object.__class__") "__get__" = some (some (.builtin "getset_descriptor.__get__")))
    (eht_JournalFull : PySem.W.takesIn K (.builtin "object.__class__") = some true)
    (ehg_BadRecord : PySem.W.findIn K (.ref C_BadRecord) "__getattribute__" = some (some (.builtin "BaseException.__getattribute__")))
    (ehk_BadRecord : PySem.W.findIn K (.ref C_BadRecord) "__getattr__" = some none)
    (eha_BadRecord : PySem.W.findIn K (.ref C_BadRecord) "__class__" = some (some (.builtin "object.__class__")))
    (ehm_BadRecord : PySem.W.mroIn K C_BadRecord (.type "object") = some true)
    (ehn_BadRecord : PySem.W.specialIn K (.builtin "object.__class__") "__get__" = some (some (.builtin "getset_descriptor.__get__")))
    (eht_BadRecord : PySem.W.takesIn K (.builtin "object.__class__") = some true)
    (ehg_Refused : PySem.W.findIn K (.ref C_Refused) "__getattribute__" = some (some (.builtin "BaseException.__getattribute__")))
    (ehk_Refused : PySem.W.findIn K (.ref C_Refused) "__getattr__" = some none)
    (eha_Refused : PySem.W.findIn K (.ref C_Refused) "__class__" = some (some (.builtin "object.__class__")))
    (ehm_Refused : PySem.W.mroIn K C_Refused (.type "object") = some true)
    (ehn_Refused : PySem.W.specialIn K (.builtin "object.__class__") "__get__" = some (some (.builtin "getset_descriptor.__get__")))
    (eht_Refused : PySem.W.takesIn K (.builtin "object.__class__") = some true)
    (ehg_BadCommand : PySem.W.findIn K (.ref C_BadCommand) "__getattribute__" = some (some (.builtin "BaseException.__getattribute__")))
    (ehk_BadCommand : PySem.W.findIn K (.ref C_BadCommand) "__getattr__" = some none)
    (eha_BadCommand : PySem.W.findIn K (.ref C_BadCommand) "__class__" = some (some (.builtin "object.__class__")))
    (ehm_BadCommand : PySem.W.mroIn K C_BadCommand (.type "object") = some true)
    (ehn_BadCommand : PySem.W.specialIn K (.builtin "object.__class__") "__get__" = some (some (.builtin "getset_descriptor.__get__")))
    (eht_BadCommand : PySem.W.takesIn K (.builtin "object.__class__") = some true)
    (ehg_BadSchedule : PySem.W.findIn K (.ref C_BadSchedule) "__getattribute__" = some (some (.builtin "BaseException.__getattribute__")))
    (ehk_BadSchedule : PySem.W.findIn K (.ref C_BadSchedule) "__getattr__" = some none)
    (eha_BadSchedule : PySem.W.findIn K (.ref C_BadSchedule) "__class__" = some (some (.builtin "object.__class__")))
    (ehm_BadSchedule : PySem.W.mroIn K C_BadSchedule (.type "object") = some true)
    (ehn_BadSchedule : PySem.W.specialIn K (.builtin "object.__class__") "__get__" = some (some (.builtin "getset_descriptor.__get__")))
    (eht_BadSchedule : PySem.W.takesIn K (.builtin "object.__class__") = some true)
    (skt_BadText_ValueError : PySem.W.subIn K (.ref C_BadText) (.type "ValueError") = some true)
    (skt_BadBlock_ValueError : PySem.W.subIn K (.ref C_BadBlock) (.type "ValueError") = some true)
    (skt_BadLetter_ValueError : PySem.W.subIn K (.ref C_BadLetter) (.type "ValueError") = some true)
    (skt_BadGroup_ValueError : PySem.W.subIn K (.ref C_BadGroup) (.type "ValueError") = some true)
    (skt_DiskError_ValueError : PySem.W.subIn K (.ref C_DiskError) (.type "ValueError") = some true)
    (skt_DiskCrashed_ValueError : PySem.W.subIn K (.ref C_DiskCrashed) (.type "ValueError") = some true)
    (skt_JournalError_ValueError : PySem.W.subIn K (.ref C_JournalError) (.type "ValueError") = some true)
    (skt_JournalFull_ValueError : PySem.W.subIn K (.ref C_JournalFull) (.type "ValueError") = some true)
    (skt_BadRecord_ValueError : PySem.W.subIn K (.ref C_BadRecord) (.type "ValueError") = some true)
    (skt_Refused_ValueError : PySem.W.subIn K (.ref C_Refused) (.type "ValueError") = some true)
    (skt_BadCommand_ValueError : PySem.W.subIn K (.ref C_BadCommand) (.type "ValueError") = some true)
    (skt_BadSchedule_ValueError : PySem.W.subIn K (.ref C_BadSchedule) (.type "ValueError") = some true)
    (u_BadText_BadText : PySem.W.subIn K (.ref C_BadText) (.ref C_BadText) = some true)
    (u_BadText_BadBlock : PySem.W.subIn K (.ref C_BadText) (.ref C_BadBlock) = some false)
    (u_BadText_BadLetter : PySem.W.subIn K (.ref C_BadText) (.ref C_BadLetter) = some false)
    (u_BadText_BadGroup : PySem.W.subIn K (.ref C_BadText) (.ref C_BadGroup) = some false)
    (u_BadText_DiskError : PySem.W.subIn K (.ref C_BadText) (.ref C_DiskError) = some false)
    (u_BadText_DiskCrashed : PySem.W.subIn K (.ref C_BadText) (.ref C_DiskCrashed) = some false)
    (u_BadText_JournalError : PySem.W.subIn K (.ref C_BadText) (.ref C_JournalError) = some false)
    (u_BadText_JournalFull : PySem.W.subIn K (.ref C_BadText) (.ref C_JournalFull) = some false)
    (u_BadText_BadRecord : PySem.W.subIn K (.ref C_BadText) (.ref C_BadRecord) = some false)
    (u_BadText_Refused : PySem.W.subIn K (.ref C_BadText) (.ref C_Refused) = some false)
    (u_BadText_BadCommand : PySem.W.subIn K (.ref C_BadText) (.ref C_BadCommand) = some false)
    (u_BadText_BadSchedule : PySem.W.subIn K (.ref C_BadText) (.ref C_BadSchedule) = some false)
    (u_BadText_LedgerError : PySem.W.subIn K (.ref C_BadText) (.ref C_LedgerError) = some true)
    (u_BadBlock_BadText : PySem.W.subIn K (.ref C_BadBlock) (.ref C_BadText) = some false)
    (u_BadBlock_BadBlock : PySem.W.subIn K (.ref C_BadBlock) (.ref C_BadBlock) = some true)
    (u_BadBlock_BadLetter : PySem.W.subIn K (.ref C_BadBlock) (.ref C_BadLetter) = some false)
    (u_BadBlock_BadGroup : PySem.W.subIn K (.ref C_BadBlock) (.ref C_BadGroup) = some false)
    (u_BadBlock_DiskError : PySem.W.subIn K (.ref C_BadBlock) (.ref C_DiskError) = some false)
    (u_BadBlock_DiskCrashed : PySem.W.subIn K (.ref C_BadBlock) (.ref C_DiskCrashed) = some false)
    (u_BadBlock_JournalError : PySem.W.subIn K (.ref C_BadBlock) (.ref C_JournalError) = some false)
    (u_BadBlock_JournalFull : PySem.W.subIn K (.ref C_BadBlock) (.ref C_JournalFull) = some false)
    (u_BadBlock_BadRecord : PySem.W.subIn K (.ref C_BadBlock) (.ref C_BadRecord) = some false)
    (u_BadBlock_Refused : PySem.W.subIn K (.ref C_BadBlock) (.ref C_Refused) = some false)
    (u_BadBlock_BadCommand : PySem.W.subIn K (.ref C_BadBlock) (.ref C_BadCommand) = some false)
    (u_BadBlock_BadSchedule : PySem.W.subIn K (.ref C_BadBlock) (.ref C_BadSchedule) = some false)
    (u_BadBlock_LedgerError : PySem.W.subIn K (.ref C_BadBlock) (.ref C_LedgerError) = some true)
    (u_BadLetter_BadText : PySem.W.subIn K (.ref C_BadLetter) (.ref C_BadText) = some false)
    (u_BadLetter_BadBlock : PySem.W.subIn K (.ref C_BadLetter) (.ref C_BadBlock) = some false)
    (u_BadLetter_BadLetter : PySem.W.subIn K (.ref C_BadLetter) (.ref C_BadLetter) = some true)
    (u_BadLetter_BadGroup : PySem.W.subIn K (.ref C_BadLetter) (.ref C_BadGroup) = some false)
    (u_BadLetter_DiskError : PySem.W.subIn K (.ref C_BadLetter) (.ref C_DiskError) = some false)
    (u_BadLetter_DiskCrashed : PySem.W.subIn K (.ref C_BadLetter) (.ref C_DiskCrashed) = some false)
    (u_BadLetter_JournalError : PySem.W.subIn K (.ref C_BadLetter) (.ref C_JournalError) = some false)
    (u_BadLetter_JournalFull : PySem.W.subIn K (.ref C_BadLetter) (.ref C_JournalFull) = some false)
    (u_BadLetter_BadRecord : PySem.W.subIn K (.ref C_BadLetter) (.ref C_BadRecord) = some false)
    (u_BadLetter_Refused : PySem.W.subIn K (.ref C_BadLetter) (.ref C_Refused) = some false)
    (u_BadLetter_BadCommand : PySem.W.subIn K (.ref C_BadLetter) (.ref C_BadCommand) = some false)
    (u_BadLetter_BadSchedule : PySem.W.subIn K (.ref C_BadLetter) (.ref C_BadSchedule) = some false)
    (u_BadLetter_LedgerError : PySem.W.subIn K (.ref C_BadLetter) (.ref C_LedgerError) = some true)
    (u_BadGroup_BadText : PySem.W.subIn K (.ref C_BadGroup) (.ref C_BadText) = some false)
    (u_BadGroup_BadBlock : PySem.W.subIn K (.ref C_BadGroup) (.ref C_BadBlock) = some false)
    (u_BadGroup_BadLetter : PySem.W.subIn K (.ref C_BadGroup) (.ref C_BadLetter) = some false)
    (u_BadGroup_BadGroup : PySem.W.subIn K (.ref C_BadGroup) (.ref C_BadGroup) = some true)
    (u_BadGroup_DiskError : PySem.W.subIn K (.ref C_BadGroup) (.ref C_DiskError) = some false)
    (u_BadGroup_DiskCrashed : PySem.W.subIn K (.ref C_BadGroup) (.ref C_DiskCrashed) = some false)
    (u_BadGroup_JournalError : PySem.W.subIn K (.ref C_BadGroup) (.ref C_JournalError) = some false)
    (u_BadGroup_JournalFull : PySem.W.subIn K (.ref C_BadGroup) (.ref C_JournalFull) = some false)
    (u_BadGroup_BadRecord : PySem.W.subIn K (.ref C_BadGroup) (.ref C_BadRecord) = some false)
    (u_BadGroup_Refused : PySem.W.subIn K (.ref C_BadGroup) (.ref C_Refused) = some false)
    (u_BadGroup_BadCommand : PySem.W.subIn K (.ref C_BadGroup) (.ref C_BadCommand) = some false)
    (u_BadGroup_BadSchedule : PySem.W.subIn K (.ref C_BadGroup) (.ref C_BadSchedule) = some false)
    (u_BadGroup_LedgerError : PySem.W.subIn K (.ref C_BadGroup) (.ref C_LedgerError) = some true)
    (u_DiskError_BadText : PySem.W.subIn K (.ref C_DiskError) (.ref C_BadText) = some false)
    (u_DiskError_BadBlock : PySem.W.subIn K (.ref C_DiskError) (.ref C_BadBlock) = some false)
    (u_DiskError_BadLetter : PySem.W.subIn K (.ref C_DiskError) (.ref C_BadLetter) = some false)
    (u_DiskError_BadGroup : PySem.W.subIn K (.ref C_DiskError) (.ref C_BadGroup) = some false)
    (u_DiskError_DiskError : PySem.W.subIn K (.ref C_DiskError) (.ref C_DiskError) = some true)
    (u_DiskError_DiskCrashed : PySem.W.subIn K (.ref C_DiskError) (.ref C_DiskCrashed) = some false)
    (u_DiskError_JournalError : PySem.W.subIn K (.ref C_DiskError) (.ref C_JournalError) = some false)
    (u_DiskError_JournalFull : PySem.W.subIn K (.ref C_DiskError) (.ref C_JournalFull) = some false)
    (u_DiskError_BadRecord : PySem.W.subIn K (.ref C_DiskError) (.ref C_BadRecord) = some false)
    (u_DiskError_Refused : PySem.W.subIn K (.ref C_DiskError) (.ref C_Refused) = some false)
    (u_DiskError_BadCommand : PySem.W.subIn K (.ref C_DiskError) (.ref C_BadCommand) = some false)
    (u_DiskError_BadSchedule : PySem.W.subIn K (.ref C_DiskError) (.ref C_BadSchedule) = some false)
    (u_DiskError_LedgerError : PySem.W.subIn K (.ref C_DiskError) (.ref C_LedgerError) = some true)
    (u_DiskCrashed_BadText : PySem.W.subIn K (.ref C_DiskCrashed) (.ref C_BadText) = some false)
    (u_DiskCrashed_BadBlock : PySem.W.subIn K (.ref C_DiskCrashed) (.ref C_BadBlock) = some false)
    (u_DiskCrashed_BadLetter : PySem.W.subIn K (.ref C_DiskCrashed) (.ref C_BadLetter) = some false)
    (u_DiskCrashed_BadGroup : PySem.W.subIn K (.ref C_DiskCrashed) (.ref C_BadGroup) = some false)
    (u_DiskCrashed_DiskError : PySem.W.subIn K (.ref C_DiskCrashed) (.ref C_DiskError) = some false)
    (u_DiskCrashed_DiskCrashed : PySem.W.subIn K (.ref C_DiskCrashed) (.ref C_DiskCrashed) = some true)
    (u_DiskCrashed_JournalError : PySem.W.subIn K (.ref C_DiskCrashed) (.ref C_JournalError) = some false)
    (u_DiskCrashed_JournalFull : PySem.W.subIn K (.ref C_DiskCrashed) (.ref C_JournalFull) = some false)
    (u_DiskCrashed_BadRecord : PySem.W.subIn K (.ref C_DiskCrashed) (.ref C_BadRecord) = some false)
    (u_DiskCrashed_Refused : PySem.W.subIn K (.ref C_DiskCrashed) (.ref C_Refused) = some false)
    (u_DiskCrashed_BadCommand : PySem.W.subIn K (.ref C_DiskCrashed) (.ref C_BadCommand) = some false)
    (u_DiskCrashed_BadSchedule : PySem.W.subIn K (.ref C_DiskCrashed) (.ref C_BadSchedule) = some false)
    (u_DiskCrashed_LedgerError : PySem.W.subIn K (.ref C_DiskCrashed) (.ref C_LedgerError) = some true)
    (u_JournalError_BadText : PySem.W.subIn K (.ref C_JournalError) (.ref C_BadText) = some false)
    (u_JournalError_BadBlock : PySem.W.subIn K (.ref C_JournalError) (.ref C_BadBlock) = some false)
    (u_JournalError_BadLetter : PySem.W.subIn K (.ref C_JournalError) (.ref C_BadLetter) = some false)
    (u_JournalError_BadGroup : PySem.W.subIn K (.ref C_JournalError) (.ref C_BadGroup) = some false)
    (u_JournalError_DiskError : PySem.W.subIn K (.ref C_JournalError) (.ref C_DiskError) = some false)
    (u_JournalError_DiskCrashed : PySem.W.subIn K (.ref C_JournalError) (.ref C_DiskCrashed) = some false)
    (u_JournalError_JournalError : PySem.W.subIn K (.ref C_JournalError) (.ref C_JournalError) = some true)
    (u_JournalError_JournalFull : PySem.W.subIn K (.ref C_JournalError) (.ref C_JournalFull) = some false)
    (u_JournalError_BadRecord : PySem.W.subIn K (.ref C_JournalError) (.ref C_BadRecord) = some false)
    (u_JournalError_Refused : PySem.W.subIn K (.ref C_JournalError) (.ref C_Refused) = some false)
    (u_JournalError_BadCommand : PySem.W.subIn K (.ref C_JournalError) (.ref C_BadCommand) = some false)
    (u_JournalError_BadSchedule : PySem.W.subIn K (.ref C_JournalError) (.ref C_BadSchedule) = some false)
    (u_JournalError_LedgerError : PySem.W.subIn K (.ref C_JournalError) (.ref C_LedgerError) = some true)
    (u_JournalFull_BadText : PySem.W.subIn K (.ref C_JournalFull) (.ref C_BadText) = some false)
    (u_JournalFull_BadBlock : PySem.W.subIn K (.ref C_JournalFull) (.ref C_BadBlock) = some false)
    (u_JournalFull_BadLetter : PySem.W.subIn K (.ref C_JournalFull) (.ref C_BadLetter) = some false)
    (u_JournalFull_BadGroup : PySem.W.subIn K (.ref C_JournalFull) (.ref C_BadGroup) = some false)
    (u_JournalFull_DiskError : PySem.W.subIn K (.ref C_JournalFull) (.ref C_DiskError) = some false)
    (u_JournalFull_DiskCrashed : PySem.W.subIn K (.ref C_JournalFull) (.ref C_DiskCrashed) = some false)
    (u_JournalFull_JournalError : PySem.W.subIn K (.ref C_JournalFull) (.ref C_JournalError) = some false)
    (u_JournalFull_JournalFull : PySem.W.subIn K (.ref C_JournalFull) (.ref C_JournalFull) = some true)
    (u_JournalFull_BadRecord : PySem.W.subIn K (.ref C_JournalFull) (.ref C_BadRecord) = some false)
    (u_JournalFull_Refused : PySem.W.subIn K (.ref C_JournalFull) (.ref C_Refused) = some false)
    (u_JournalFull_BadCommand : PySem.W.subIn K (.ref C_JournalFull) (.ref C_BadCommand) = some false)
    (u_JournalFull_BadSchedule : PySem.W.subIn K (.ref C_JournalFull) (.ref C_BadSchedule) = some false)
    (u_JournalFull_LedgerError : PySem.W.subIn K (.ref C_JournalFull) (.ref C_LedgerError) = some true)
    (u_BadRecord_BadText : PySem.W.subIn K (.ref C_BadRecord) (.ref C_BadText) = some false)
    (u_BadRecord_BadBlock : PySem.W.subIn K (.ref C_BadRecord) (.ref C_BadBlock) = some false)
    (u_BadRecord_BadLetter : PySem.W.subIn K (.ref C_BadRecord) (.ref C_BadLetter) = some false)
    (u_BadRecord_BadGroup : PySem.W.subIn K (.ref C_BadRecord) (.ref C_BadGroup) = some false)
    (u_BadRecord_DiskError : PySem.W.subIn K (.ref C_BadRecord) (.ref C_DiskError) = some false)
    (u_BadRecord_DiskCrashed : PySem.W.subIn K (.ref C_BadRecord) (.ref C_DiskCrashed) = some false)
    (u_BadRecord_JournalError : PySem.W.subIn K (.ref C_BadRecord) (.ref C_JournalError) = some false)
    (u_BadRecord_JournalFull : PySem.W.subIn K (.ref C_BadRecord) (.ref C_JournalFull) = some false)
    (u_BadRecord_BadRecord : PySem.W.subIn K (.ref C_BadRecord) (.ref C_BadRecord) = some true)
    (u_BadRecord_Refused : PySem.W.subIn K (.ref C_BadRecord) (.ref C_Refused) = some false)
    (u_BadRecord_BadCommand : PySem.W.subIn K (.ref C_BadRecord) (.ref C_BadCommand) = some false)
    (u_BadRecord_BadSchedule : PySem.W.subIn K (.ref C_BadRecord) (.ref C_BadSchedule) = some false)
    (u_BadRecord_LedgerError : PySem.W.subIn K (.ref C_BadRecord) (.ref C_LedgerError) = some true)
    (u_Refused_BadText : PySem.W.subIn K (.ref C_Refused) (.ref C_BadText) = some false)
    (u_Refused_BadBlock : PySem.W.subIn K (.ref C_Refused) (.ref C_BadBlock) = some false)
    (u_Refused_BadLetter : PySem.W.subIn K (.ref C_Refused) (.ref C_BadLetter) = some false)
    (u_Refused_BadGroup : PySem.W.subIn K (.ref C_Refused) (.ref C_BadGroup) = some false)
    (u_Refused_DiskError : PySem.W.subIn K (.ref C_Refused) (.ref C_DiskError) = some false)
    (u_Refused_DiskCrashed : PySem.W.subIn K (.ref C_Refused) (.ref C_DiskCrashed) = some false)
    (u_Refused_JournalError : PySem.W.subIn K (.ref C_Refused) (.ref C_JournalError) = some false)
    (u_Refused_JournalFull : PySem.W.subIn K (.ref C_Refused) (.ref C_JournalFull) = some false)
    (u_Refused_BadRecord : PySem.W.subIn K (.ref C_Refused) (.ref C_BadRecord) = some false)
    (u_Refused_Refused : PySem.W.subIn K (.ref C_Refused) (.ref C_Refused) = some true)
    (u_Refused_BadCommand : PySem.W.subIn K (.ref C_Refused) (.ref C_BadCommand) = some false)
    (u_Refused_BadSchedule : PySem.W.subIn K (.ref C_Refused) (.ref C_BadSchedule) = some false)
    (u_Refused_LedgerError : PySem.W.subIn K (.ref C_Refused) (.ref C_LedgerError) = some true)
    (u_BadCommand_BadText : PySem.W.subIn K (.ref C_BadCommand) (.ref C_BadText) = some false)
    (u_BadCommand_BadBlock : PySem.W.subIn K (.ref C_BadCommand) (.ref C_BadBlock) = some false)
    (u_BadCommand_BadLetter : PySem.W.subIn K (.ref C_BadCommand) (.ref C_BadLetter) = some false)
    (u_BadCommand_BadGroup : PySem.W.subIn K (.ref C_BadCommand) (.ref C_BadGroup) = some false)
    (u_BadCommand_DiskError : PySem.W.subIn K (.ref C_BadCommand) (.ref C_DiskError) = some false)
    (u_BadCommand_DiskCrashed : PySem.W.subIn K (.ref C_BadCommand) (.ref C_DiskCrashed) = some false)
    (u_BadCommand_JournalError : PySem.W.subIn K (.ref C_BadCommand) (.ref C_JournalError) = some false)
    (u_BadCommand_JournalFull : PySem.W.subIn K (.ref C_BadCommand) (.ref C_JournalFull) = some false)
    (u_BadCommand_BadRecord : PySem.W.subIn K (.ref C_BadCommand) (.ref C_BadRecord) = some false)
    (u_BadCommand_Refused : PySem.W.subIn K (.ref C_BadCommand) (.ref C_Refused) = some false)
    (u_BadCommand_BadCommand : PySem.W.subIn K (.ref C_BadCommand) (.ref C_BadCommand) = some true)
    (u_BadCommand_BadSchedule : PySem.W.subIn K (.ref C_BadCommand) (.ref C_BadSchedule) = some false)
    (u_BadCommand_LedgerError : PySem.W.subIn K (.ref C_BadCommand) (.ref C_LedgerError) = some true)
    (u_BadSchedule_BadText : PySem.W.subIn K (.ref C_BadSchedule) (.ref C_BadText) = some false)
    (u_BadSchedule_BadBlock : PySem.W.subIn K (.ref C_BadSchedule) (.ref C_BadBlock) = some false)
    (u_BadSchedule_BadLetter : PySem.W.subIn K (.ref C_BadSchedule) (.ref C_BadLetter) = some false)
    (u_BadSchedule_BadGroup : PySem.W.subIn K (.ref C_BadSchedule) (.ref C_BadGroup) = some false)
    (u_BadSchedule_DiskError : PySem.W.subIn K (.ref C_BadSchedule) (.ref C_DiskError) = some false)
    (u_BadSchedule_DiskCrashed : PySem.W.subIn K (.ref C_BadSchedule) (.ref C_DiskCrashed) = some false)
    (u_BadSchedule_JournalError : PySem.W.subIn K (.ref C_BadSchedule) (.ref C_JournalError) = some false)
    (u_BadSchedule_JournalFull : PySem.W.subIn K (.ref C_BadSchedule) (.ref C_JournalFull) = some false)
    (u_BadSchedule_BadRecord : PySem.W.subIn K (.ref C_BadSchedule) (.ref C_BadRecord) = some false)
    (u_BadSchedule_Refused : PySem.W.subIn K (.ref C_BadSchedule) (.ref C_Refused) = some false)
    (u_BadSchedule_BadCommand : PySem.W.subIn K (.ref C_BadSchedule) (.ref C_BadCommand) = some false)
    (u_BadSchedule_BadSchedule : PySem.W.subIn K (.ref C_BadSchedule) (.ref C_BadSchedule) = some true)
    (u_BadSchedule_LedgerError : PySem.W.subIn K (.ref C_BadSchedule) (.ref C_LedgerError) = some true)
    (a_MOST_ANSWER : PySem.W.nsIn K mainGlobals "MOST_ANSWER" = some (some (.int 200 t_MOST_ANSWER)))
    (a_MOST_CLIENTS : PySem.W.nsIn K mainGlobals "MOST_CLIENTS" = some (some (.int 100 t_MOST_CLIENTS)))
    (a_MOST_DEPTH : PySem.W.nsIn K mainGlobals "MOST_DEPTH" = some (some (.int 12 t_MOST_DEPTH)))
    (a_MOST_DIGITS : PySem.W.nsIn K mainGlobals "MOST_DIGITS" = some (some (.int 60 t_MOST_DIGITS)))
    (a_MOST_FAULTS : PySem.W.nsIn K mainGlobals "MOST_FAULTS" = some (some (.int 10 t_MOST_FAULTS)))
    (a_MOST_LENGTH : PySem.W.nsIn K mainGlobals "MOST_LENGTH" = some (some (.int 100000 t_MOST_LENGTH)))
    (a_MOST_NUMBER : PySem.W.nsIn K mainGlobals "MOST_NUMBER" = some (some (.int 1000000000000 t_MOST_NUMBER)))
    (a_MOST_STATE : PySem.W.nsIn K mainGlobals "MOST_STATE" = some (some (.int 60000 t_MOST_STATE)))
    (a_MOST_TEXT : PySem.W.nsIn K mainGlobals "MOST_TEXT" = some (some (.int 240 t_MOST_TEXT)))
    (a_SPAN : PySem.W.nsIn K mainGlobals "SPAN" = some (some (.int 5 t_SPAN)))
    (a_STINT : PySem.W.nsIn K mainGlobals "STINT" = some (some (.int 5 t_STINT)))
    (z_ValueError : PySem.W.nsIn K mainGlobals "ValueError" = some none)
    (z_abs : PySem.W.nsIn K mainGlobals "abs" = some none)
    (z_bool : PySem.W.nsIn K mainGlobals "bool" = some none)
    (z_int : PySem.W.nsIn K mainGlobals "int" = some none)
    (z_isinstance : PySem.W.nsIn K mainGlobals "isinstance" = some none)
    (z_len : PySem.W.nsIn K mainGlobals "len" = some none)
    (z_range : PySem.W.nsIn K mainGlobals "range" = some none) : Txt K mg C_BadGroup C_BadLetter C_BadBlock C_BadText C_JournalError C_DiskCrashed C_DiskError C_BadRecord C_JournalFull C_LedgerError C_Refused C_BadSchedule C_BadCommand :=
  { d__law_draws := ⟨_, _, (fun_mk l__law_draws e__law_draws k__law_draws), PySem.W.mg_of X G a__law_draws, ((fun_mk (st := s__law_draws) l__law_draws e__law_draws k__law_draws).binds (ps := ["script"]) fun _ _ _ _ _ _ us hl => match us, hl with | [_], _ => rfl)⟩,
    d__law_next := ⟨_, _, (fun_mk l__law_next e__law_next k__law_next), PySem.W.mg_of X G a__law_next, ((fun_mk (st := s__law_next) l__law_next e__law_next k__law_next).binds (ps := ["draws", "at", "many"]) fun _ _ _ _ _ _ us hl => match us, hl with | [_, _, _], _ => rfl)⟩,
    d__law_big := ⟨_, _, (fun_mk l__law_big e__law_big k__law_big), PySem.W.mg_of X G a__law_big, ((fun_mk (st := s__law_big) l__law_big e__law_big k__law_big).binds (ps := ["draws", "at", "many"]) fun _ _ _ _ _ _ us hl => match us, hl with | [_, _, _], _ => rfl)⟩,
    d__law_char := ⟨_, _, (fun_mk l__law_char e__law_char k__law_char), PySem.W.mg_of X G a__law_char, ((fun_mk (st := s__law_char) l__law_char e__law_char k__law_char).binds (ps := ["number"]) fun _ _ _ _ _ _ us hl => match us, hl with | [_], _ => rfl)⟩,
    d__law_string := ⟨_, _, (fun_mk l__law_string e__law_string k__law_string), PySem.W.mg_of X G a__law_string, ((fun_mk (st := s__law_string) l__law_string e__law_string k__law_string).binds (ps := ["draws", "at", "most"]) fun _ _ _ _ _ _ us hl => match us, hl with | [_, _, _], _ => rfl)⟩,
    d__law_raise := ⟨_, _, (fun_mk l__law_raise e__law_raise k__law_raise), PySem.W.mg_of X G a__law_raise, ((fun_mk (st := s__law_raise) l__law_raise e__law_raise k__law_raise).binds (ps := ["which", "reason", "number"]) fun _ _ _ _ _ _ us hl => match us, hl with | [_, _, _], _ => rfl)⟩,
    d__law_marks := ⟨_, _, (fun_mk l__law_marks e__law_marks k__law_marks), PySem.W.mg_of X G a__law_marks, ((fun_mk (st := s__law_marks) l__law_marks e__law_marks k__law_marks).binds (ps := ["e"]) fun _ _ _ _ _ _ us hl => match us, hl with | [_], _ => rfl)⟩,
    d__law_caught := ⟨_, _, (fun_mk l__law_caught e__law_caught k__law_caught), PySem.W.mg_of X G a__law_caught, ((fun_mk (st := s__law_caught) l__law_caught e__law_caught k__law_caught).binds (ps := ["which", "reason", "number"]) fun _ _ _ _ _ _ us hl => match us, hl with | [_, _, _], _ => rfl)⟩,
    d__law_number := ⟨_, _, (fun_mk l__law_number e__law_number k__law_number), PySem.W.mg_of X G a__law_number, ((fun_mk (st := s__law_number) l__law_number e__law_number k__law_number).binds (ps := ["actual", "expected"]) fun _ _ _ _ _ _ us hl => match us, hl with | [_, _], _ => rfl)⟩,
    d__law_limits := ⟨_, _, (fun_mk l__law_limits e__law_limits k__law_limits), PySem.W.mg_of X G a__law_limits, ((fun_mk (st := s__law_limits) l__law_limits e__law_limits k__law_limits).binds (ps := []) fun _ _ _ _ _ _ us hl => match us, hl with | [], _ => rfl)⟩,
    d__law_kept := ⟨_, _, (fun_mk l__law_kept e__law_kept k__law_kept), PySem.W.mg_of X G a__law_kept, ((fun_mk (st := s__law_kept) l__law_kept e__law_kept k__law_kept).binds (ps := ["reason", "number"]) fun _ _ _ _ _ _ us hl => match us, hl with | [_, _], _ => rfl)⟩,
    d_law := ⟨_, _, (fun_mk l_law e_law k_law), PySem.W.mg_of X G a_law, ((fun_mk (st := s_law) l_law e_law k_law).binds (ps := ["script"]) fun _ _ _ _ _ _ us hl => match us, hl with | [_], _ => rfl)⟩,
    x_BadGroup := ⟨xe_BadGroup, PySem.W.mg_of X G xa_BadGroup, xk_BadGroup, xb_BadGroup, xt_BadGroup, xh_BadGroup⟩,
    x_BadLetter := ⟨xe_BadLetter, PySem.W.mg_of X G xa_BadLetter, xk_BadLetter, xb_BadLetter, xt_BadLetter, xh_BadLetter⟩,
    x_BadBlock := ⟨xe_BadBlock, PySem.W.mg_of X G xa_BadBlock, xk_BadBlock, xb_BadBlock, xt_BadBlock, xh_BadBlock⟩,
    x_BadText := ⟨xe_BadText, PySem.W.mg_of X G xa_BadText, xk_BadText, xb_BadText, xt_BadText, xh_BadText⟩,
    x_JournalError := ⟨xe_JournalError, PySem.W.mg_of X G xa_JournalError, xk_JournalError, xb_JournalError, xt_JournalError, xh_JournalError⟩,
    x_DiskCrashed := ⟨xe_DiskCrashed, PySem.W.mg_of X G xa_DiskCrashed, xk_DiskCrashed, xb_DiskCrashed, xt_DiskCrashed, xh_DiskCrashed⟩,
    x_DiskError := ⟨xe_DiskError, PySem.W.mg_of X G xa_DiskError, xk_DiskError, xb_DiskError, xt_DiskError, xh_DiskError⟩,
    x_BadRecord := ⟨xe_BadRecord, PySem.W.mg_of X G xa_BadRecord, xk_BadRecord, xb_BadRecord, xt_BadRecord, xh_BadRecord⟩,
    x_JournalFull := ⟨xe_JournalFull, PySem.W.mg_of X G xa_JournalFull, xk_JournalFull, xb_JournalFull, xt_JournalFull, xh_JournalFull⟩,
    x_LedgerError := ⟨xe_LedgerError, PySem.W.mg_of X G xa_LedgerError, xk_LedgerError, xb_LedgerError, xt_LedgerError, xh_LedgerError⟩,
    x_Refused := ⟨PySem.W.mg_of X G xa_Refused, ⟨⟨_, _, _, _, _, _, _, _, _, _, _, _, _, _, _, xl_Refused, xr_Refused⟩, xs_Refused, xb_Refused, xt_Refused, xk_Refused⟩, ⟨xg_Refused, xq_Refused, xb_Refused, xh_Refused⟩⟩,
    xn_Refused_reason := xn_Refused_reason,
    ei_Refused := ⟨_, _, a_Refused____init__, ty_Refused____init__, (fun_mk l_Refused____init__ e_Refused____init__ k_Refused____init__), ((fun_mk (st := s_Refused____init__) l_Refused____init__ e_Refused____init__ k_Refused____init__).binds (ps := ["self", "reason"]) fun _ _ _ _ _ _ us hl => match us, hl with | [_, _], _ => rfl)⟩,
    x_BadSchedule := ⟨PySem.W.mg_of X G xa_BadSchedule, ⟨⟨_, _, _, _, _, _, _, _, _, _, _, _, _, _, _, xl_BadSchedule, xr_BadSchedule⟩, xs_BadSchedule, xb_BadSchedule, xt_BadSchedule, xk_BadSchedule⟩, ⟨xg_BadSchedule, xq_BadSchedule, xb_BadSchedule, xh_BadSchedule⟩⟩,
    xn_BadSchedule_line := xn_BadSchedule_line,
    xn_BadSchedule_reason := xn_BadSchedule_reason,
    ei_BadSchedule := ⟨_, _, a_BadSchedule____init__, ty_BadSchedule____init__, (fun_mk l_BadSchedule____init__ e_BadSchedule____init__ k_BadSchedule____init__), ((fun_mk (st := s_BadSchedule____init__) l_BadSchedule____init__ e_BadSchedule____init__ k_BadSchedule____init__).binds (ps := ["self", "line", "reason"]) fun _ _ _ _ _ _ us hl => match us, hl with | [_, _, _], _ => rfl)⟩,
    x_BadCommand := ⟨PySem.W.mg_of X G xa_BadCommand, ⟨⟨_, _, _, _, _, _, _, _, _, _, _, _, _, _, _, xl_BadCommand, xr_BadCommand⟩, xs_BadCommand, xb_BadCommand, xt_BadCommand, xk_BadCommand⟩, ⟨xg_BadCommand, xq_BadCommand, xb_BadCommand, xh_BadCommand⟩⟩,
    xn_BadCommand_reason := xn_BadCommand_reason,
    xn_BadCommand_statement := xn_BadCommand_statement,
    ei_BadCommand := ⟨_, _, a_BadCommand____init__, ty_BadCommand____init__, (fun_mk l_BadCommand____init__ e_BadCommand____init__ k_BadCommand____init__), ((fun_mk (st := s_BadCommand____init__) l_BadCommand____init__ e_BadCommand____init__ k_BadCommand____init__).binds (ps := ["self", "reason", "statement"]) fun _ _ _ _ _ _ us hl => match us, hl with | [_, _, _], _ => rfl)⟩,
    ec_BadText := ⟨ehg_BadText, ehk_BadText, xb_BadText, xh_BadText, eha_BadText, ehn_BadText, eht_BadText, ehm_BadText⟩,
    ec_BadBlock := ⟨ehg_BadBlock, ehk_BadBlock, xb_BadBlock, xh_BadBlock, eha_BadBlock, ehn_BadBlock, eht_BadBlock, ehm_BadBlock⟩,
    ec_BadLetter := ⟨ehg_BadLetter, ehk_BadLetter, xb_BadLetter, xh_BadLetter, eha_BadLetter, ehn_BadLetter, eht_BadLetter, ehm_BadLetter⟩,
    ec_BadGroup := ⟨ehg_BadGroup, ehk_BadGroup, xb_BadGroup, xh_BadGroup, eha_BadGroup, ehn_BadGroup, eht_BadGroup, ehm_BadGroup⟩,
    ec_DiskError := ⟨ehg_DiskError, ehk_DiskError, xb_DiskError, xh_DiskError, eha_DiskError, ehn_DiskError, eht_DiskError, ehm_DiskError⟩,
    ec_DiskCrashed := ⟨ehg_DiskCrashed, ehk_DiskCrashed, xb_DiskCrashed, xh_DiskCrashed, eha_DiskCrashed, ehn_DiskCrashed, eht_DiskCrashed, ehm_DiskCrashed⟩,
    ec_JournalError := ⟨ehg_JournalError, ehk_JournalError, xb_JournalError, xh_JournalError, eha_JournalError, ehn_JournalError, eht_JournalError, ehm_JournalError⟩,
    ec_JournalFull := ⟨ehg_JournalFull, ehk_JournalFull, xb_JournalFull, xh_JournalFull, eha_JournalFull, ehn_JournalFull, eht_JournalFull, ehm_JournalFull⟩,
    ec_BadRecord := ⟨ehg_BadRecord, ehk_BadRecord, xb_BadRecord, xh_BadRecord, eha_BadRecord, ehn_BadRecord, eht_BadRecord, ehm_BadRecord⟩,
    ec_Refused := ⟨ehg_Refused, ehk_Refused, xb_Refused, xh_Refused, eha_Refused, ehn_Refused, eht_Refused, ehm_Refused⟩,
    ec_BadCommand := ⟨ehg_BadCommand, ehk_BadCommand, xb_BadCommand, xh_BadCommand, eha_BadCommand, ehn_BadCommand, eht_BadCommand, ehm_BadCommand⟩,
    ec_BadSchedule := ⟨ehg_BadSchedule, ehk_BadSchedule, xb_BadSchedule, xh_BadSchedule, eha_BadSchedule, ehn_BadSchedule, eht_BadSchedule, ehm_BadSchedule⟩,
    kt_BadText_ValueError := kit_tyB (by decide +kernel) skt_BadText_ValueError,
    kt_BadBlock_ValueError := kit_tyB (by decide +kernel) skt_BadBlock_ValueError,
    kt_BadLetter_ValueError := kit_tyB (by decide +kernel) skt_BadLetter_ValueError,
    kt_BadGroup_ValueError := kit_tyB (by decide +kernel) skt_BadGroup_ValueError,
    kt_DiskError_ValueError := kit_tyB (by decide +kernel) skt_DiskError_ValueError,
    kt_DiskCrashed_ValueError := kit_tyB (by decide +kernel) skt_DiskCrashed_ValueError,
    kt_JournalError_ValueError := kit_tyB (by decide +kernel) skt_JournalError_ValueError,
    kt_JournalFull_ValueError := kit_tyB (by decide +kernel) skt_JournalFull_ValueError,
    kt_BadRecord_ValueError := kit_tyB (by decide +kernel) skt_BadRecord_ValueError,
    kt_Refused_ValueError := kit_tyB (by decide +kernel) skt_Refused_ValueError,
    kt_BadCommand_ValueError := kit_tyB (by decide +kernel) skt_BadCommand_ValueError,
    kt_BadSchedule_ValueError := kit_tyB (by decide +kernel) skt_BadSchedule_ValueError,
    u_BadText_BadText := u_BadText_BadText,
    u_BadText_BadBlock := u_BadText_BadBlock,
    u_BadText_BadLetter := u_BadText_BadLetter,
    u_BadText_BadGroup := u_BadText_BadGroup,
    u_BadText_DiskError := u_BadText_DiskError,
    u_BadText_DiskCrashed := u_BadText_DiskCrashed,
    u_BadText_JournalError := u_BadText_JournalError,
    u_BadText_JournalFull := u_BadText_JournalFull,
    u_BadText_BadRecord := u_BadText_BadRecord,
    u_BadText_Refused := u_BadText_Refused,
    u_BadText_BadCommand := u_BadText_BadCommand,
    u_BadText_BadSchedule := u_BadText_BadSchedule,
    u_BadText_LedgerError := u_BadText_LedgerError,
    u_BadBlock_BadText := u_BadBlock_BadText,
    u_BadBlock_BadBlock := u_BadBlock_BadBlock,
    u_BadBlock_BadLetter := u_BadBlock_BadLetter,
    u_BadBlock_BadGroup := u_BadBlock_BadGroup,
    u_BadBlock_DiskError := u_BadBlock_DiskError,
    u_BadBlock_DiskCrashed := u_BadBlock_DiskCrashed,
    u_BadBlock_JournalError := u_BadBlock_JournalError,
    u_BadBlock_JournalFull := u_BadBlock_JournalFull,
    u_BadBlock_BadRecord := u_BadBlock_BadRecord,
    u_BadBlock_Refused := u_BadBlock_Refused,
    u_BadBlock_BadCommand := u_BadBlock_BadCommand,
    u_BadBlock_BadSchedule := u_BadBlock_BadSchedule,
    u_BadBlock_LedgerError := u_BadBlock_LedgerError,
    u_BadLetter_BadText := u_BadLetter_BadText,
    u_BadLetter_BadBlock := u_BadLetter_BadBlock,
    u_BadLetter_BadLetter := u_BadLetter_BadLetter,
    u_BadLetter_BadGroup := u_BadLetter_BadGroup,
    u_BadLetter_DiskError := u_BadLetter_DiskError,
    u_BadLetter_DiskCrashed := u_BadLetter_DiskCrashed,
    u_BadLetter_JournalError := u_BadLetter_JournalError,
    u_BadLetter_JournalFull := u_BadLetter_JournalFull,
    u_BadLetter_BadRecord := u_BadLetter_BadRecord,
    u_BadLetter_Refused := u_BadLetter_Refused,
    u_BadLetter_BadCommand := u_BadLetter_BadCommand,
    u_BadLetter_BadSchedule := u_BadLetter_BadSchedule,
    u_BadLetter_LedgerError := u_BadLetter_LedgerError,
    u_BadGroup_BadText := u_BadGroup_BadText,
    u_BadGroup_BadBlock := u_BadGroup_BadBlock,
    u_BadGroup_BadLetter := u_BadGroup_BadLetter,
    u_BadGroup_BadGroup := u_BadGroup_BadGroup,
    u_BadGroup_DiskError := u_BadGroup_DiskError,
    u_BadGroup_DiskCrashed := u_BadGroup_DiskCrashed,
    u_BadGroup_JournalError := u_BadGroup_JournalError,
    u_BadGroup_JournalFull := u_BadGroup_JournalFull,
    u_BadGroup_BadRecord := u_BadGroup_BadRecord,
    u_BadGroup_Refused := u_BadGroup_Refused,
    u_BadGroup_BadCommand := u_BadGroup_BadCommand,
    u_BadGroup_BadSchedule := u_BadGroup_BadSchedule,
    u_BadGroup_LedgerError := u_BadGroup_LedgerError,
    u_DiskError_BadText := u_DiskError_BadText,
    u_DiskError_BadBlock := u_DiskError_BadBlock,
    u_DiskError_BadLetter := u_DiskError_BadLetter,
    u_DiskError_BadGroup := u_DiskError_BadGroup,
    u_DiskError_DiskError := u_DiskError_DiskError,
    u_DiskError_DiskCrashed := u_DiskError_DiskCrashed,
    u_DiskError_JournalError := u_DiskError_JournalError,
    u_DiskError_JournalFull := u_DiskError_JournalFull,
    u_DiskError_BadRecord := u_DiskError_BadRecord,
    u_DiskError_Refused := u_DiskError_Refused,
    u_DiskError_BadCommand := u_DiskError_BadCommand,
    u_DiskError_BadSchedule := u_DiskError_BadSchedule,
    u_DiskError_LedgerError := u_DiskError_LedgerError,
    u_DiskCrashed_BadText := u_DiskCrashed_BadText,
    u_DiskCrashed_BadBlock := u_DiskCrashed_BadBlock,
    u_DiskCrashed_BadLetter := u_DiskCrashed_BadLetter,
    u_DiskCrashed_BadGroup := u_DiskCrashed_BadGroup,
    u_DiskCrashed_DiskError := u_DiskCrashed_DiskError,
    u_DiskCrashed_DiskCrashed := u_DiskCrashed_DiskCrashed,
    u_DiskCrashed_JournalError := u_DiskCrashed_JournalError,
    u_DiskCrashed_JournalFull := u_DiskCrashed_JournalFull,
    u_DiskCrashed_BadRecord := u_DiskCrashed_BadRecord,
    u_DiskCrashed_Refused := u_DiskCrashed_Refused,
    u_DiskCrashed_BadCommand := u_DiskCrashed_BadCommand,
    u_DiskCrashed_BadSchedule := u_DiskCrashed_BadSchedule,
    u_DiskCrashed_LedgerError := u_DiskCrashed_LedgerError,
    u_JournalError_BadText := u_JournalError_BadText,
    u_JournalError_BadBlock := u_JournalError_BadBlock,
    u_JournalError_BadLetter := u_JournalError_BadLetter,
    u_JournalError_BadGroup := u_JournalError_BadGroup,
    u_JournalError_DiskError := u_JournalError_DiskError,
    u_JournalError_DiskCrashed := u_JournalError_DiskCrashed,
    u_JournalError_JournalError := u_JournalError_JournalError,
    u_JournalError_JournalFull := u_JournalError_JournalFull,
    u_JournalError_BadRecord := u_JournalError_BadRecord,
    u_JournalError_Refused := u_JournalError_Refused,
    u_JournalError_BadCommand := u_JournalError_BadCommand,
    u_JournalError_BadSchedule := u_JournalError_BadSchedule,
    u_JournalError_LedgerError := u_JournalError_LedgerError,
    u_JournalFull_BadText := u_JournalFull_BadText,
    u_JournalFull_BadBlock := u_JournalFull_BadBlock,
    u_JournalFull_BadLetter := u_JournalFull_BadLetter,
    u_JournalFull_BadGroup := u_JournalFull_BadGroup,
    u_JournalFull_DiskError := u_JournalFull_DiskError,
    u_JournalFull_DiskCrashed := u_JournalFull_DiskCrashed,
    u_JournalFull_JournalError := u_JournalFull_JournalError,
    u_JournalFull_JournalFull := u_JournalFull_JournalFull,
    u_JournalFull_BadRecord := u_JournalFull_BadRecord,
    u_JournalFull_Refused := u_JournalFull_Refused,
    u_JournalFull_BadCommand := u_JournalFull_BadCommand,
    u_JournalFull_BadSchedule := u_JournalFull_BadSchedule,
    u_JournalFull_LedgerError := u_JournalFull_LedgerError,
    u_BadRecord_BadText := u_BadRecord_BadText,
    u_BadRecord_BadBlock := u_BadRecord_BadBlock,
    u_BadRecord_BadLetter := u_BadRecord_BadLetter,
    u_BadRecord_BadGroup := u_BadRecord_BadGroup,
    u_BadRecord_DiskError := u_BadRecord_DiskError,
    u_BadRecord_DiskCrashed := u_BadRecord_DiskCrashed,
    u_BadRecord_JournalError := u_BadRecord_JournalError,
    u_BadRecord_JournalFull := u_BadRecord_JournalFull,
    u_BadRecord_BadRecord := u_BadRecord_BadRecord,
    u_BadRecord_Refused := u_BadRecord_Refused,
    u_BadRecord_BadCommand := u_BadRecord_BadCommand,
    u_BadRecord_BadSchedule := u_BadRecord_BadSchedule,
    u_BadRecord_LedgerError := u_BadRecord_LedgerError,
    u_Refused_BadText := u_Refused_BadText,
    u_Refused_BadBlock := u_Refused_BadBlock,
    u_Refused_BadLetter := u_Refused_BadLetter,
    u_Refused_BadGroup := u_Refused_BadGroup,
    u_Refused_DiskError := u_Refused_DiskError,
    u_Refused_DiskCrashed := u_Refused_DiskCrashed,
    u_Refused_JournalError := u_Refused_JournalError,
    u_Refused_JournalFull := u_Refused_JournalFull,
    u_Refused_BadRecord := u_Refused_BadRecord,
    u_Refused_Refused := u_Refused_Refused,
    u_Refused_BadCommand := u_Refused_BadCommand,
    u_Refused_BadSchedule := u_Refused_BadSchedule,
    u_Refused_LedgerError := u_Refused_LedgerError,
    u_BadCommand_BadText := u_BadCommand_BadText,
    u_BadCommand_BadBlock := u_BadCommand_BadBlock,
    u_BadCommand_BadLetter := u_BadCommand_BadLetter,
    u_BadCommand_BadGroup := u_BadCommand_BadGroup,
    u_BadCommand_DiskError := u_BadCommand_DiskError,
    u_BadCommand_DiskCrashed := u_BadCommand_DiskCrashed,
    u_BadCommand_JournalError := u_BadCommand_JournalError,
    u_BadCommand_JournalFull := u_BadCommand_JournalFull,
    u_BadCommand_BadRecord := u_BadCommand_BadRecord,
    u_BadCommand_Refused := u_BadCommand_Refused,
    u_BadCommand_BadCommand := u_BadCommand_BadCommand,
    u_BadCommand_BadSchedule := u_BadCommand_BadSchedule,
    u_BadCommand_LedgerError := u_BadCommand_LedgerError,
    u_BadSchedule_BadText := u_BadSchedule_BadText,
    u_BadSchedule_BadBlock := u_BadSchedule_BadBlock,
    u_BadSchedule_BadLetter := u_BadSchedule_BadLetter,
    u_BadSchedule_BadGroup := u_BadSchedule_BadGroup,
    u_BadSchedule_DiskError := u_BadSchedule_DiskError,
    u_BadSchedule_DiskCrashed := u_BadSchedule_DiskCrashed,
    u_BadSchedule_JournalError := u_BadSchedule_JournalError,
    u_BadSchedule_JournalFull := u_BadSchedule_JournalFull,
    u_BadSchedule_BadRecord := u_BadSchedule_BadRecord,
    u_BadSchedule_Refused := u_BadSchedule_Refused,
    u_BadSchedule_BadCommand := u_BadSchedule_BadCommand,
    u_BadSchedule_BadSchedule := u_BadSchedule_BadSchedule,
    u_BadSchedule_LedgerError := u_BadSchedule_LedgerError,
    c_MOST_ANSWER := ⟨_, PySem.W.mg_of X G a_MOST_ANSWER, _, rfl⟩,
    c_MOST_CLIENTS := ⟨_, PySem.W.mg_of X G a_MOST_CLIENTS, _, rfl⟩,
    c_MOST_DEPTH := ⟨_, PySem.W.mg_of X G a_MOST_DEPTH, _, rfl⟩,
    c_MOST_DIGITS := ⟨_, PySem.W.mg_of X G a_MOST_DIGITS, _, rfl⟩,
    c_MOST_FAULTS := ⟨_, PySem.W.mg_of X G a_MOST_FAULTS, _, rfl⟩,
    c_MOST_LENGTH := ⟨_, PySem.W.mg_of X G a_MOST_LENGTH, _, rfl⟩,
    c_MOST_NUMBER := ⟨_, PySem.W.mg_of X G a_MOST_NUMBER, _, rfl⟩,
    c_MOST_STATE := ⟨_, PySem.W.mg_of X G a_MOST_STATE, _, rfl⟩,
    c_MOST_TEXT := ⟨_, PySem.W.mg_of X G a_MOST_TEXT, _, rfl⟩,
    c_SPAN := ⟨_, PySem.W.mg_of X G a_SPAN, _, rfl⟩,
    c_STINT := ⟨_, PySem.W.mg_of X G a_STINT, _, rfl⟩,
    z_ValueError := PySem.W.mg_none_of X G z_ValueError,
    z_abs := PySem.W.mg_none_of X G z_abs,
    z_bool := PySem.W.mg_none_of X G z_bool,
    z_int := PySem.W.mg_none_of X G z_int,
    z_isinstance := PySem.W.mg_none_of X G z_isinstance,
    z_len := PySem.W.mg_none_of X G z_len,
    z_range := PySem.W.mg_none_of X G z_range }
end Law
open PySem PySem.W PyProof.Rows
set_option maxRecDepth 100000 in
set_option maxHeartbeats 0 in
theorem PySem.Challenge.cw_oathledger_k00_errors_and_limits_holds : PySem.Challenge.rw_oathledger_k00_errors_and_limits.Holds := by
  w_on; o_law; k_head; (case hw => w_witness2)
  k_fill
  refine L2.walk_of (l := PySem.Challenge.rw_oathledger_k00_errors_and_limits) (n := 63) (k := 6) (x := "script") (CX := fun _ => L2.CX0) (sp := fun w => Law.spLaw _) rfl (by decide) rfl ⟨rfl, by decide, by decide⟩ (fun w h Y => PySem.W.kIn_of Y) ?F (fun _ _ a ns hl _ hS => ⟨a, ns, rfl, hS, hl, fun _ => rfl⟩) (fun _ _ _ _ _ h => h)
  case F =>
    intro w mg fa h KX G hmg
    refine' Law.fin hmg (Law.all_mk KX G ?a__law_draws ?l__law_draws ?e__law_draws ?k__law_draws ?a__law_next ?l__law_next ?e__law_next ?k__law_next ?a__law_big ?l__law_big ?e__law_big ?k__law_big ?a__law_char ?l__law_char ?e__law_char ?k__law_char ?a__law_string ?l__law_string ?e__law_string ?k__law_string ?a__law_raise ?l__law_raise ?e__law_raise ?k__law_raise ?a__law_marks ?l__law_marks ?e__law_marks ?k__law_marks ?a__law_caught ?l__law_caught ?e__law_caught ?k__law_caught ?a__law_number ?l__law_number ?e__law_number ?k__law_number ?a__law_limits ?l__law_limits ?e__law_limits ?k__law_limits ?a__law_kept ?l__law_kept ?e__law_kept ?k__law_kept ?a_law ?l_law ?e_law ?k_law ?xa_BadGroup ?xe_BadGroup ?xk_BadGroup ?xb_BadGroup ?xt_BadGroup ?xh_BadGroup ?xa_BadLetter ?xe_BadLetter ?xk_BadLetter ?xb_BadLetter ?xt_BadLetter ?xh_BadLetter ?xa_BadBlock ?xe_BadBlock ?xk_BadBlock ?xb_BadBlock ?xt_BadBlock ?xh_BadBlock ?xa_BadText ?xe_BadText ?xk_BadText ?xb_BadText ?xt_BadText ?xh_BadText ?xa_JournalError ?xe_JournalError ?xk_JournalError ?xb_JournalError ?xt_JournalError ?xh_JournalError ?xa_DiskCrashed ?xe_DiskCrashed ?xk_DiskCrashed ?xb_DiskCrashed ?xt_DiskCrashed ?xh_DiskCrashed ?xa_DiskError ?xe_DiskError ?xk_DiskError ?xb_DiskError ?xt_DiskError ?xh_DiskError ?xa_BadRecord ?xe_BadRecord ?xk_BadRecord ?xb_BadRecord ?xt_BadRecord ?xh_BadRecord ?xa_JournalFull ?xe_JournalFull ?xk_JournalFull ?xb_JournalFull ?xt_JournalFull ?xh_JournalFull ?xa_LedgerError ?xe_LedgerError ?xk_LedgerError ?xb_LedgerError ?xt_LedgerError ?xh_LedgerError ?xa_Refused ?xl_Refused ?xr_Refused ?xs_Refused ?xk_Refused ?xb_Refused ?xt_Refused ?xh_Refused ?xg_Refused ?xq_Refused ?xn_Refused_reason ?a_Refused____init__ ?ty_Refused____init__ ?l_Refused____init__ ?e_Refused____init__ ?k_Refused____init__ ?xa_BadSchedule ?xl_BadSchedule ?xr_BadSchedule ?xs_BadSchedule ?xk_BadSchedule ?xb_BadSchedule ?xt_BadSchedule ?xh_BadSchedule ?xg_BadSchedule ?xq_BadSchedule ?xn_BadSchedule_line ?xn_BadSchedule_reason ?a_BadSchedule____init__ ?ty_BadSchedule____init__ ?l_BadSchedule____init__ ?e_BadSchedule____init__ ?k_BadSchedule____init__ ?xa_BadCommand ?xl_BadCommand ?xr_BadCommand ?xs_BadCommand ?xk_BadCommand ?xb_BadCommand ?xt_BadCommand ?xh_BadCommand ?xg_BadCommand ?xq_BadCommand ?xn_BadCommand_reason ?xn_BadCommand_statement ?a_BadCommand____init__ ?ty_BadCommand____init__ ?l_BadCommand____init__ ?e_BadCommand____init__ ?k_BadCommand____init__ ?ehg_BadText ?ehk_BadText ?eha_BadText ?ehm_BadText ?ehn_BadText ?eht_BadText ?ehg_BadBlock ?ehk_BadBlock ?eha_BadBlock ?ehm_BadBlock ?ehn_BadBlock ?eht_BadBlock ?ehg_BadLetter ?ehk_BadLetter ?eha_BadLetter ?ehm_BadLetter ?ehn_BadLetter ?eht_BadLetter ?ehg_BadGroup ?ehk_BadGroup ?eha_BadGroup ?ehm_BadGroup ?ehn_BadGroup ?eht_BadGroup ?ehg_DiskError ?ehk_DiskError ?eha_DiskError ?ehm_DiskError ?ehn_DiskError ?eht_DiskError ?ehg_DiskCrashed ?ehk_DiskCrashed ?eha_DiskCrashed ?ehm_DiskCrashed ?ehn_DiskCrashed ?eht_DiskCrashed ?ehg_JournalError ?ehk_JournalError ?eha_JournalError ?ehm_JournalError ?ehn_JournalError ?eht_JournalError ?ehg_JournalFull ?ehk_JournalFull ?eha_JournalFull ?ehm_JournalFull ?ehn_JournalFull ?eht_JournalFull ?ehg_BadRecord ?ehk_BadRecord ?eha_BadRecord ?ehm_BadRecord ?ehn_BadRecord ?eht_BadRecord ?ehg_Refused ?ehk_Refused ?eha_Refused ?ehm_Refused ?ehn_Refused ?eht_Refused ?ehg_BadCommand ?ehk_BadCommand ?eha_BadCommand ?ehm_BadCommand ?ehn_BadCommand ?eht_BadCommand ?ehg_BadSchedule ?ehk_BadSchedule ?eha_BadSchedule ?ehm_BadSchedule ?ehn_BadSchedule ?eht_BadSchedule ?skt_BadText_ValueError ?skt_BadBlock_ValueError ?skt_BadLetter_ValueError ?skt_BadGroup_ValueError ?skt_DiskError_ValueError ?skt_DiskCrashed_ValueError ?skt_JournalError_ValueError ?skt_JournalFull_ValueError ?skt_BadRecord_ValueError ?skt_Refused_ValueError ?skt_BadCommand_ValueError ?skt_BadSchedule_ValueError ?u_BadText_BadText ?u_BadText_BadBlock ?u_BadText_BadLetter ?u_BadText_BadGroup ?u_BadText_DiskError ?u_BadText_DiskCrashed ?u_BadText_JournalError ?u_BadText_JournalFull ?u_BadText_BadRecord ?u_BadText_Refused ?u_BadText_BadCommand ?u_BadText_BadSchedule ?u_BadText_LedgerError ?u_BadBlock_BadText ?u_BadBlock_BadBlock ?u_BadBlock_BadLetter ?u_BadBlock_BadGroup ?u_BadBlock_DiskError ?u_BadBlock_DiskCrashed ?u_BadBlock_JournalError ?u_BadBlock_JournalFull ?u_BadBlock_BadRecord ?u_BadBlock_Refused ?u_BadBlock_BadCommand ?u_BadBlock_BadSchedule ?u_BadBlock_LedgerError ?u_BadLetter_BadText ?u_BadLetter_BadBlock ?u_BadLetter_BadLetter ?u_BadLetter_BadGroup ?u_BadLetter_DiskError ?u_BadLetter_DiskCrashed ?u_BadLetter_JournalError ?u_BadLetter_JournalFull ?u_BadLetter_BadRecord ?u_BadLetter_Refused ?u_BadLetter_BadCommand ?u_BadLetter_BadSchedule ?u_BadLetter_LedgerError ?u_BadGroup_BadText ?u_BadGroup_BadBlock ?u_BadGroup_BadLetter ?u_BadGroup_BadGroup ?u_BadGroup_DiskError ?u_BadGroup_DiskCrashed ?u_BadGroup_JournalError ?u_BadGroup_JournalFull ?u_BadGroup_BadRecord ?u_BadGroup_Refused ?u_BadGroup_BadCommand ?u_BadGroup_BadSchedule ?u_BadGroup_LedgerError ?u_DiskError_BadText ?u_DiskError_BadBlock ?u_DiskError_BadLetter ?u_DiskError_BadGroup ?u_DiskError_DiskError ?u_DiskError_DiskCrashed ?u_DiskError_JournalError ?u_DiskError_JournalFull ?u_DiskError_BadRecord ?u_DiskError_Refused ?u_DiskError_BadCommand ?u_DiskError_BadSchedule ?u_DiskError_LedgerError ?u_DiskCrashed_BadText ?u_DiskCrashed_BadBlock ?u_DiskCrashed_BadLetter ?u_DiskCrashed_BadGroup ?u_DiskCrashed_DiskError ?u_DiskCrashed_DiskCrashed ?u_DiskCrashed_JournalError ?u_DiskCrashed_JournalFull ?u_DiskCrashed_BadRecord ?u_DiskCrashed_Refused ?u_DiskCrashed_BadCommand ?u_DiskCrashed_BadSchedule ?u_DiskCrashed_LedgerError ?u_JournalError_BadText ?u_JournalError_BadBlock ?u_JournalError_BadLetter ?u_JournalError_BadGroup ?u_JournalError_DiskError ?u_JournalError_DiskCrashed ?u_JournalError_JournalError ?u_JournalError_JournalFull ?u_JournalError_BadRecord ?u_JournalError_Refused ?u_JournalError_BadCommand ?u_JournalError_BadSchedule ?u_JournalError_LedgerError ?u_JournalFull_BadText ?u_JournalFull_BadBlock ?u_JournalFull_BadLetter ?u_JournalFull_BadGroup ?u_JournalFull_DiskError ?u_JournalFull_DiskCrashed ?u_JournalFull_JournalError ?u_JournalFull_JournalFull ?u_JournalFull_BadRecord ?u_JournalFull_Refused ?u_JournalFull_BadCommand ?u_JournalFull_BadSchedule ?u_JournalFull_LedgerError ?u_BadRecord_BadText ?u_BadRecord_BadBlock ?u_BadRecord_BadLetter ?u_BadRecord_BadGroup ?u_BadRecord_DiskError ?u_BadRecord_DiskCrashed ?u_BadRecord_JournalError ?u_BadRecord_JournalFull ?u_BadRecord_BadRecord ?u_BadRecord_Refused ?u_BadRecord_BadCommand ?u_BadRecord_BadSchedule ?u_BadRecord_LedgerError ?u_Refused_BadText ?u_Refused_BadBlock ?u_Refused_BadLetter ?u_Refused_BadGroup ?u_Refused_DiskError ?u_Refused_DiskCrashed ?u_Refused_JournalError ?u_Refused_JournalFull ?u_Refused_BadRecord ?u_Refused_Refused ?u_Refused_BadCommand ?u_Refused_BadSchedule ?u_Refused_LedgerError ?u_BadCommand_BadText ?u_BadCommand_BadBlock ?u_BadCommand_BadLetter ?u_BadCommand_BadGroup ?u_BadCommand_DiskError ?u_BadCommand_DiskCrashed ?u_BadCommand_JournalError ?u_BadCommand_JournalFull ?u_BadCommand_BadRecord ?u_BadCommand_Refused ?u_BadCommand_BadCommand ?u_BadCommand_BadSchedule ?u_BadCommand_LedgerError ?u_BadSchedule_BadText ?u_BadSchedule_BadBlock ?u_BadSchedule_BadLetter ?u_BadSchedule_BadGroup ?u_BadSchedule_DiskError ?u_BadSchedule_DiskCrashed ?u_BadSchedule_JournalError ?u_BadSchedule_JournalFull ?u_BadSchedule_BadRecord ?u_BadSchedule_Refused ?u_BadSchedule_BadCommand ?u_BadSchedule_BadSchedule ?u_BadSchedule_LedgerError ?a_MOST_ANSWER ?a_MOST_CLIENTS ?a_MOST_DEPTH ?a_MOST_DIGITS ?a_MOST_FAULTS ?a_MOST_LENGTH ?a_MOST_NUMBER ?a_MOST_STATE ?a_MOST_TEXT ?a_SPAN ?a_STINT ?z_ValueError ?z_abs ?z_bool ?z_int ?z_isinstance ?z_len ?z_range)
    (case a__law_draws => k_is)
    (case l__law_draws => k_is)
    (case e__law_draws => k_is)
    (case k__law_draws => k_is)
    (case a__law_next => k_is)
    (case l__law_next => k_is)
    (case e__law_next => k_is)
    (case k__law_next => k_is)
    (case a__law_big => k_is)
    (case l__law_big => k_is)
    (case e__law_big => k_is)
    (case k__law_big => k_is)
    (case a__law_char => k_is)
    (case l__law_char => k_is)
    (case e__law_char => k_is)
    (case k__law_char => k_is)
    (case a__law_string => k_is)
    (case l__law_string => k_is)
    (case e__law_string => k_is)
    (case k__law_string => k_is)
    (case a__law_raise => k_is)
    (case l__law_raise => k_is)
    (case e__law_raise => k_is)
    (case k__law_raise => k_is)
    (case a__law_marks => k_is)
    (case l__law_marks => k_is)
    (case e__law_marks => k_is)
    (case k__law_marks => k_is)
    (case a__law_caught => k_is)
    (case l__law_caught => k_is)
    (case e__law_caught => k_is)
    (case k__law_caught => k_is)
    (case a__law_number => k_is)
    (case l__law_number => k_is)
    (case e__law_number => k_is)
    (case k__law_number => k_is)
    (case a__law_limits => k_is)
    (case l__law_limits => k_is)
    (case e__law_limits => k_is)
    (case k__law_limits => k_is)
    (case a__law_kept => k_is)
    (case l__law_kept => k_is)
    (case e__law_kept => k_is)
    (case k__law_kept => k_is)
    (case a_law => k_is)
    (case l_law => k_is)
    (case e_law => k_is)
    (case k_law => k_is)
    (case xa_BadGroup => k_is)
    (case xe_BadGroup => first | k_is | k_exc)
    (case xk_BadGroup => k_is)
    (case xb_BadGroup => k_is)
    (case xt_BadGroup => k_is)
    (case xh_BadGroup => k_is)
    (case xa_BadLetter => k_is)
    (case xe_BadLetter => first | k_is | k_exc)
    (case xk_BadLetter => k_is)
    (case xb_BadLetter => k_is)
    (case xt_BadLetter => k_is)
    (case xh_BadLetter => k_is)
    (case xa_BadBlock => k_is)
    (case xe_BadBlock => first | k_is | k_exc)
    (case xk_BadBlock => k_is)
    (case xb_BadBlock => k_is)
    (case xt_BadBlock => k_is)
    (case xh_BadBlock => k_is)
    (case xa_BadText => k_is)
    (case xe_BadText => first | k_is | k_exc)
    (case xk_BadText => k_is)
    (case xb_BadText => k_is)
    (case xt_BadText => k_is)
    (case xh_BadText => k_is)
    (case xa_JournalError => k_is)
    (case xe_JournalError => first | k_is | k_exc)
    (case xk_JournalError => k_is)
    (case xb_JournalError => k_is)
    (case xt_JournalError => k_is)
    (case xh_JournalError => k_is)
    (case xa_DiskCrashed => k_is)
    (case xe_DiskCrashed => first | k_is | k_exc)
    (case xk_DiskCrashed => k_is)
    (case xb_DiskCrashed => k_is)
    (case xt_DiskCrashed => k_is)
    (case xh_DiskCrashed => k_is)
    (case xa_DiskError => k_is)
    (case xe_DiskError => first | k_is | k_exc)
    (case xk_DiskError => k_is)
    (case xb_DiskError => k_is)
    (case xt_DiskError => k_is)
    (case xh_DiskError => k_is)
    (case xa_BadRecord => k_is)
    (case xe_BadRecord => first | k_is | k_exc)
    (case xk_BadRecord => k_is)
    (case xb_BadRecord => k_is)
    (case xt_BadRecord => k_is)
    (case xh_BadRecord => k_is)
    (case xa_JournalFull => k_is)
    (case xe_JournalFull => first | k_is | k_exc)
    (case xk_JournalFull => k_is)
    (case xb_JournalFull => k_is)
    (case xt_JournalFull => k_is)
    (case xh_JournalFull => k_is)
    (case xa_LedgerError => k_is)
    (case xe_LedgerError => first | k_is | k_exc)
    (case xk_LedgerError => k_is)
    (case xb_LedgerError => k_is)
    (case xt_LedgerError => k_is)
    (case xh_LedgerError => k_is)
    (case xa_Refused => k_is)
    (case xl_Refused => k_is)
    (case xr_Refused => decide +kernel)
    (case xs_Refused => k_is)
    (case xk_Refused => k_is)
    (case xb_Refused => k_is)
    (case xt_Refused => k_is)
    (case xh_Refused => k_is)
    (case xg_Refused => k_is)
    (case xq_Refused => k_is)
    (case xn_Refused_reason => k_is)
    (case a_Refused____init__ => k_is)
    (case ty_Refused____init__ => k_is)
    (case l_Refused____init__ => k_is)
    (case e_Refused____init__ => k_is)
    (case k_Refused____init__ => k_is)
    (case xa_BadSchedule => k_is)
    (case xl_BadSchedule => k_is)
    (case xr_BadSchedule => decide +kernel)
    (case xs_BadSchedule => k_is)
    (case xk_BadSchedule => k_is)
    (case xb_BadSchedule => k_is)
    (case xt_BadSchedule => k_is)
    (case xh_BadSchedule => k_is)
    (case xg_BadSchedule => k_is)
    (case xq_BadSchedule => k_is)
    (case xn_BadSchedule_line => k_is)
    (case xn_BadSchedule_reason => k_is)
    (case a_BadSchedule____init__ => k_is)
    (case ty_BadSchedule____init__ => k_is)
    (case l_BadSchedule____init__ => k_is)
    (case e_BadSchedule____init__ => k_is)
    (case k_BadSchedule____init__ => k_is)
    (case xa_BadCommand => k_is)
    (case xl_BadCommand => k_is)
    (case xr_BadCommand => decide +kernel)
    (case xs_BadCommand => k_is)
    (case xk_BadCommand => k_is)
    (case xb_BadCommand => k_is)
    (case xt_BadCommand => k_is)
    (case xh_BadCommand => k_is)
    (case xg_BadCommand => k_is)
    (case xq_BadCommand => k_is)
    (case xn_BadCommand_reason => k_is)
    (case xn_BadCommand_statement => k_is)
    (case a_BadCommand____init__ => k_is)
    (case ty_BadCommand____init__ => k_is)
    (case l_BadCommand____init__ => k_is)
    (case e_BadCommand____init__ => k_is)
    (case k_BadCommand____init__ => k_is)
    (case ehg_BadText => k_is)
    (case ehk_BadText => k_is)
    (case eha_BadText => k_is)
    (case ehm_BadText => k_is)
    (case ehn_BadText => k_is)
    (case eht_BadText => k_is)
    (case ehg_BadBlock => k_is)
    (case ehk_BadBlock => k_is)
    (case eha_BadBlock => k_is)
    (case ehm_BadBlock => k_is)
    (case ehn_BadBlock => k_is)
    (case eht_BadBlock => k_is)
    (case ehg_BadLetter => k_is)
    (case ehk_BadLetter => k_is)
    (case eha_BadLetter => k_is)
    (case ehm_BadLetter => k_is)
    (case ehn_BadLetter => k_is)
    (case eht_BadLetter => k_is)
    (case ehg_BadGroup => k_is)
    (case ehk_BadGroup => k_is)
    (case eha_BadGroup => k_is)
    (case ehm_BadGroup => k_is)
    (case ehn_BadGroup => k_is)
    (case eht_BadGroup => k_is)
    (case ehg_DiskError => k_is)
    (case ehk_DiskError => k_is)
    (case eha_DiskError => k_is)
    (case ehm_DiskError => k_is)
    (case ehn_DiskError => k_is)
    (case eht_DiskError => k_is)
    (case ehg_DiskCrashed => k_is)
    (case ehk_DiskCrashed => k_is)
    (case eha_DiskCrashed => k_is)
    (case ehm_DiskCrashed => k_is)
    (case ehn_DiskCrashed => k_is)
    (case eht_DiskCrashed => k_is)
    (case ehg_JournalError => k_is)
    (case ehk_JournalError => k_is)
    (case eha_JournalError => k_is)
    (case ehm_JournalError => k_is)
    (case ehn_JournalError => k_is)
    (case eht_JournalError => k_is)
    (case ehg_JournalFull => k_is)
    (case ehk_JournalFull => k_is)
    (case eha_JournalFull => k_is)
    (case ehm_JournalFull => k_is)
    (case ehn_JournalFull => k_is)
    (case eht_JournalFull => k_is)
    (case ehg_BadRecord => k_is)
    (case ehk_BadRecord => k_is)
    (case eha_BadRecord => k_is)
    (case ehm_BadRecord => k_is)
    (case ehn_BadRecord => k_is)
    (case eht_BadRecord => k_is)
    (case ehg_Refused => k_is)
    (case ehk_Refused => k_is)
    (case eha_Refused => k_is)
    (case ehm_Refused => k_is)
    (case ehn_Refused => k_is)
    (case eht_Refused => k_is)
    (case ehg_BadCommand => k_is)
    (case ehk_BadCommand => k_is)
    (case eha_BadCommand => k_is)
    (case ehm_BadCommand => k_is)
    (case ehn_BadCommand => k_is)
    (case eht_BadCommand => k_is)
    (case ehg_BadSchedule => k_is)
    (case ehk_BadSchedule => k_is)
    (case eha_BadSchedule => k_is)
    (case ehm_BadSchedule => k_is)
    (case ehn_BadSchedule => k_is)
    (case eht_BadSchedule => k_is)
    (case skt_BadText_ValueError => k_is)
    (case skt_BadBlock_ValueError => k_is)
    (case skt_BadLetter_ValueError => k_is)
    (case skt_BadGroup_ValueError => k_is)
    (case skt_DiskError_ValueError => k_is)
    (case skt_DiskCrashed_ValueError => k_is)
    (case skt_JournalError_ValueError => k_is)
    (case skt_JournalFull_ValueError => k_is)
    (case skt_BadRecord_ValueError => k_is)
    (case skt_Refused_ValueError => k_is)
    (case skt_BadCommand_ValueError => k_is)
    (case skt_BadSchedule_ValueError => k_is)
    (case u_BadText_BadText => k_is)
    (case u_BadText_BadBlock => k_is)
    (case u_BadText_BadLetter => k_is)
    (case u_BadText_BadGroup => k_is)
    (case u_BadText_DiskError => k_is)
    (case u_BadText_DiskCrashed => k_is)
    (case u_BadText_JournalError => k_is)
    (case u_BadText_JournalFull => k_is)
    (case u_BadText_BadRecord => k_is)
    (case u_BadText_Refused => k_is)
    (case u_BadText_BadCommand => k_is)
    (case u_BadText_BadSchedule => k_is)
    (case u_BadText_LedgerError => k_is)
    (case u_BadBlock_BadText => k_is)
    (case u_BadBlock_BadBlock => k_is)
    (case u_BadBlock_BadLetter => k_is)
    (case u_BadBlock_BadGroup => k_is)
    (case u_BadBlock_DiskError => k_is)
    (case u_BadBlock_DiskCrashed => k_is)
    (case u_BadBlock_JournalError => k_is)
    (case u_BadBlock_JournalFull => k_is)
    (case u_BadBlock_BadRecord => k_is)
    (case u_BadBlock_Refused => k_is)
    (case u_BadBlock_BadCommand => k_is)
    (case u_BadBlock_BadSchedule => k_is)
    (case u_BadBlock_LedgerError => k_is)
    (case u_BadLetter_BadText => k_is)
    (case u_BadLetter_BadBlock => k_is)
    (case u_BadLetter_BadLetter => k_is)
    (case u_BadLetter_BadGroup => k_is)
    (case u_BadLetter_DiskError => k_is)
    (case u_BadLetter_DiskCrashed => k_is)
    (case u_BadLetter_JournalError => k_is)
    (case u_BadLetter_JournalFull => k_is)
    (case u_BadLetter_BadRecord => k_is)
    (case u_BadLetter_Refused => k_is)
    (case u_BadLetter_BadCommand => k_is)
    (case u_BadLetter_BadSchedule => k_is)
    (case u_BadLetter_LedgerError => k_is)
    (case u_BadGroup_BadText => k_is)
    (case u_BadGroup_BadBlock => k_is)
    (case u_BadGroup_BadLetter => k_is)
    (case u_BadGroup_BadGroup => k_is)
    (case u_BadGroup_DiskError => k_is)
    (case u_BadGroup_DiskCrashed => k_is)
    (case u_BadGroup_JournalError => k_is)
    (case u_BadGroup_JournalFull => k_is)
    (case u_BadGroup_BadRecord => k_is)
    (case u_BadGroup_Refused => k_is)
    (case u_BadGroup_BadCommand => k_is)
    (case u_BadGroup_BadSchedule => k_is)
    (case u_BadGroup_LedgerError => k_is)
    (case u_DiskError_BadText => k_is)
    (case u_DiskError_BadBlock => k_is)
    (case u_DiskError_BadLetter => k_is)
    (case u_DiskError_BadGroup => k_is)
    (case u_DiskError_DiskError => k_is)
    (case u_DiskError_DiskCrashed => k_is)
    (case u_DiskError_JournalError => k_is)
    (case u_DiskError_JournalFull => k_is)
    (case u_DiskError_BadRecord => k_is)
    (case u_DiskError_Refused => k_is)
    (case u_DiskError_BadCommand => k_is)
    (case u_DiskError_BadSchedule => k_is)
    (case u_DiskError_LedgerError => k_is)
    (case u_DiskCrashed_BadText => k_is)
    (case u_DiskCrashed_BadBlock => k_is)
    (case u_DiskCrashed_BadLetter => k_is)
    (case u_DiskCrashed_BadGroup => k_is)
    (case u_DiskCrashed_DiskError => k_is)
    (case u_DiskCrashed_DiskCrashed => k_is)
    (case u_DiskCrashed_JournalError => k_is)
    (case u_DiskCrashed_JournalFull => k_is)
    (case u_DiskCrashed_BadRecord => k_is)
    (case u_DiskCrashed_Refused => k_is)
    (case u_DiskCrashed_BadCommand => k_is)
    (case u_DiskCrashed_BadSchedule => k_is)
    (case u_DiskCrashed_LedgerError => k_is)
    (case u_JournalError_BadText => k_is)
    (case u_JournalError_BadBlock => k_is)
    (case u_JournalError_BadLetter => k_is)
    (case u_JournalError_BadGroup => k_is)
    (case u_JournalError_DiskError => k_is)
    (case u_JournalError_DiskCrashed => k_is)
    (case u_JournalError_JournalError => k_is)
    (case u_JournalError_JournalFull => k_is)
    (case u_JournalError_BadRecord => k_is)
    (case u_JournalError_Refused => k_is)
    (case u_JournalError_BadCommand => k_is)
    (case u_JournalError_BadSchedule => k_is)
    (case u_JournalError_LedgerError => k_is)
    (case u_JournalFull_BadText => k_is)
    (case u_JournalFull_BadBlock => k_is)
    (case u_JournalFull_BadLetter => k_is)
    (case u_JournalFull_BadGroup => k_is)
    (case u_JournalFull_DiskError => k_is)
    (case u_JournalFull_DiskCrashed => k_is)
    (case u_JournalFull_JournalError => k_is)
    (case u_JournalFull_JournalFull => k_is)
    (case u_JournalFull_BadRecord => k_is)
    (case u_JournalFull_Refused => k_is)
    (case u_JournalFull_BadCommand => k_is)
    (case u_JournalFull_BadSchedule => k_is)
    (case u_JournalFull_LedgerError => k_is)
    (case u_BadRecord_BadText => k_is)
    (case u_BadRecord_BadBlock => k_is)
    (case u_BadRecord_BadLetter => k_is)
    (case u_BadRecord_BadGroup => k_is)
    (case u_BadRecord_DiskError => k_is)
    (case u_BadRecord_DiskCrashed => k_is)
    (case u_BadRecord_JournalError => k_is)
    (case u_BadRecord_JournalFull => k_is)
    (case u_BadRecord_BadRecord => k_is)
    (case u_BadRecord_Refused => k_is)
    (case u_BadRecord_BadCommand => k_is)
    (case u_BadRecord_BadSchedule => k_is)
    (case u_BadRecord_LedgerError => k_is)
    (case u_Refused_BadText => k_is)
    (case u_Refused_BadBlock => k_is)
    (case u_Refused_BadLetter => k_is)
    (case u_Refused_BadGroup => k_is)
    (case u_Refused_DiskError => k_is)
    (case u_Refused_DiskCrashed => k_is)
    (case u_Refused_JournalError => k_is)
    (case u_Refused_JournalFull => k_is)
    (case u_Refused_BadRecord => k_is)
    (case u_Refused_Refused => k_is)
    (case u_Refused_BadCommand => k_is)
    (case u_Refused_BadSchedule => k_is)
    (case u_Refused_LedgerError => k_is)
    (case u_BadCommand_BadText => k_is)
    (case u_BadCommand_BadBlock => k_is)
    (case u_BadCommand_BadLetter => k_is)
    (case u_BadCommand_BadGroup => k_is)
    (case u_BadCommand_DiskError => k_is)
    (case u_BadCommand_DiskCrashed => k_is)
    (case u_BadCommand_JournalError => k_is)
    (case u_BadCommand_JournalFull => k_is)
    (case u_BadCommand_BadRecord => k_is)
    (case u_BadCommand_Refused => k_is)
    (case u_BadCommand_BadCommand => k_is)
    (case u_BadCommand_BadSchedule => k_is)
    (case u_BadCommand_LedgerError => k_is)
    (case u_BadSchedule_BadText => k_is)
    (case u_BadSchedule_BadBlock => k_is)
    (case u_BadSchedule_BadLetter => k_is)
    (case u_BadSchedule_BadGroup => k_is)
    (case u_BadSchedule_DiskError => k_is)
    (case u_BadSchedule_DiskCrashed => k_is)
    (case u_BadSchedule_JournalError => k_is)
    (case u_BadSchedule_JournalFull => k_is)
    (case u_BadSchedule_BadRecord => k_is)
    (case u_BadSchedule_Refused => k_is)
    (case u_BadSchedule_BadCommand => k_is)
    (case u_BadSchedule_BadSchedule => k_is)
    (case u_BadSchedule_LedgerError => k_is)
    (case a_MOST_ANSWER => k_is)
    (case a_MOST_CLIENTS => k_is)
    (case a_MOST_DEPTH => k_is)
    (case a_MOST_DIGITS => k_is)
    (case a_MOST_FAULTS => k_is)
    (case a_MOST_LENGTH => k_is)
    (case a_MOST_NUMBER => k_is)
    (case a_MOST_STATE => k_is)
    (case a_MOST_TEXT => k_is)
    (case a_SPAN => k_is)
    (case a_STINT => k_is)
    (case z_ValueError => k_is)
    (case z_abs => k_is)
    (case z_bool => k_is)
    (case z_int => k_is)
    (case z_isinstance => k_is)
    (case z_len => k_is)
    (case z_range => k_is)

