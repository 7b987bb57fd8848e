--@inD
import PyProof.Rows.All
import Wide.All
import OpenK.AllK
import Wide.FinOn
import HandS.ForMost
import HandS.Walk
import HandS.Flow
import HandS.Codes
import HandS.IsInst
import HandS.Conv
import HandS.StrMore
import PyProof.MeetsSeq2
import PyProof.DictTable
import HandS.Wide
import HandS.TupAny
import HandS.More
import HandS.Dict
import HandS.ForExc
import HandS.ExcIs
import HandS.ExcField
import HandS.DeepEq
import HandS.TupLe
import HandS.Steps
import HandS.ExcInit
import HandS.HotCalls
import HandS.SortRule
import HandS.SortKw
import HandS.Keys
import KE.SortKeyHeap
import KE.DataMinMax
import KE.SortData
import HandS.RaiseMore
import HandS.Zip
import HandS.DictSubView
import HandS.Deep
import HandS.Sort
import HandS.SetKeys
import HandS.Strs
import HandS.SetFor
import HandS.DictComp
import HandS.Style
import PySem.Challenge.RW_oathledger_k36_may_vote
set_option Elab.async false
set_option linter.all false
set_option maxRecDepth 100000
set_option maxHeartbeats 4000000
namespace Law
open PySem PySem.Spec PyProof.Rows L2
open C8 (Cal Met Mak pe_c pe_mk pe_mt pe_mt0 pe_gc pss_cut tCut)
/-! ### a def of the top, by its name -/
structure DefOk (K : PySem.W.Frag) (mg : Str → Option Value) (x : Str) (st : Stmt) (ps : List Str) : Prop where
  ex : ∃ (f : Addr) (fd : FuncData), L2.Fun K x x st f fd ∧ mg x = some (.ref f) ∧ Binds K fd ps []
section
variable {P : Program} {w : World} {K : PySem.W.Frag} {mg : Str → Option Value} {base : Heap}
/-- a def's promise, by its body -/
theorem cal {x : Str} {st : Stmt} {N ps : List Str} {k : Nat} {sp : Sp} (D : DefOk K mg x st ps) (S : FnScope N ps (defScope st)) (len : ∀ vs H Q E, sp vs H Q E → vs.length = ps.length)
    (hbody : ∀ (f : Addr) (cdv : Value) (A : Around) (outer : List Env) (s : Shared) (H : Hp) (vs : List V) (Q : VK) (E : XK), Room k (A.deeper (envOfC x (defScope st) s.heap.objs.size f cdv)) → sp vs H Q E →
      ∃ t, PSs (cxOf L2.CX0 P w K mg base N x (defScope st) f cdv A outer s H E).nox (defBody st) t ∧ t { nx := fun _ H' => Q .non H', rt := Q } (start N vs) H) : Cal P w K mg base (k + 1) x sp [] := by
  obtain ⟨f, fd, F, hm, b⟩ := D.ex
  exact ⟨f, fd, ps, [], F.ok S len (fun cdv A outer s H vs Q E hr h => hbody f cdv A outer s H vs Q E hr h), hm, F.kp, b, .nil⟩
/-- a call without arguments -/
theorem pe_c0 {X : Cx} {k j : Nat} {x : Str} {sp : Sp} {dvs : List V} {p pos : Pos} (c : Cal X.prog X.w X.K X.mg X.base k x sp dvs) (hr : Room j X.A) (hk : k ≤ j) (hg : Gl X x)
    (hdb : (x == ("__debug__" : Str)) = false := by decide) : PE X (.Call (.Name x p) [] [] pos) (tCall sp dvs L2.E0 tNil) := by
  obtain ⟨f, fd, ps, ds, F, hm, kp, b, d⟩ := c.ex
  exact pe_call0 F (hr.mono hk) hg hm kp b d pass0 hdb
end
/-! ### small things -/
theorem same_upd {H : Hp} {p : Addr} {o : HO} (h : H p = none) : Same H (upd H p o) := fun b x e => by
  rw [upd_ne (ne_of_none e h)]
  exact e
theorem same_mut {H H' : Hp} {p : Addr} {o : HO} (s : Same H H') (h : H p = none) : Same H (upd H' p o) := fun b x e => by
  rw [upd_ne (ne_of_none e h)]
  exact s b x e
theorem sz1000 {n : Nat} (h : n ≤ 100000) : n ≤ sizeLine := Nat.le_trans h (by decide)
theorem sz1000' {n : Nat} (h : n < 100000) : n < sizeLine := Nat.lt_of_lt_of_le h (by decide)
theorem sz1000'' {n : Nat} (h : n ≤ 16777216) : n ≤ sizeLine := by rw [sizeLine_eq]; exact h
theorem sq {K : PySem.W.Frag} {H : Hp} {a : Addr} {xs : List V} (h : H a = some (.lst xs)) : SqL K H a xs := .inl (.inl h)
def spLaw (K : PySem.W.Frag) : Sp := fun vs H Q _ => ∃ (a : Addr) (ns : List Int), vs = [.ref a] ∧ SqL K H a (ns.map V.int) ∧ ns.length ≤ 63 ∧ ∀ H', Q (.bl true) H'
/-! ### the reading, step by step -/
local macro_rules | `(tactic| walk_at "sd") => `(tactic| first
  | omega
  | decide
  | assumption
  | (show _ ∨ _; exact Or.inl ⟨by omega, by omega⟩)
  | (show _ ∨ _; exact Or.inr ⟨by omega, by omega⟩)
  | (show _ ∧ _; exact ⟨by omega, by omega⟩)
  | (show _ ∧ _; exact ⟨by decide, by decide⟩)
  | exact sz1000 (by omega)
  | exact sz1000' (by omega))
local macro_rules | `(tactic| walk_at "sz") => `(tactic| first
  | exact sz1000 (Nat.le_of_ble_eq_true rfl)
  | exact sz1000 (by omega)
  | exact sz1000'' (by omega)
  | assumption)
/-- one step of a reading: a slot, an operator upon numbers, a call upon values -/
local macro_rules | `(tactic| walk_at "rd") => `(tactic| first
  | refine ⟨_, (rfl : (_ : List (Option V))[_]? = some (some _)), ?_⟩
  | refine ⟨_, _, (rfl : (_ : V) = _), (rfl : (_ : V) = _), (by walk_at "sd" : (_ : Prop)), ?_⟩
  | refine ⟨_, _, (rfl : (_ : V) = _), (rfl : (_ : V) = _), ?_⟩
  | refine ⟨_, (rfl : (_ : List V) = _), (by walk_at "sd" : (_ : Prop)), (by walk_at "sd" : (_ : Prop)), ?_⟩
  | refine ⟨_, (rfl : (_ : List V) = _), ?_⟩
  | refine ⟨_, (rfl : (_ : V) = _), ?_⟩
  | refine .inl ⟨_, (rfl : (_ : List V) = _), ?_⟩
  | refine ⟨⟨_, (rfl : (_ : V) = _)⟩, ?_⟩
  | refine ⟨(rfl : scal _ _ = true), ?_⟩
  | refine ⟨(rfl : V.non = V.non), ?_⟩
  | refine ⟨(by walk_at "sz" : (_ ≤ sizeLine)), ?_⟩)
local macro_rules | `(tactic| walk_at "rds") => `(tactic| repeat walk_at "rd")
theorem tyes {σ : L2.St} {H : Hp} {A B : Hp → Prop} (h : A H) : tYes σ H (fun b H3 => if b = true then A H3 else B H3) := by
  show (if true = true then A H else B H)
  rw [if_pos rfl]
  exact h
theorem sum_ones {ys : List Str} (h : ∀ y ∈ ys, y.length = 1) : (ys.map (fun x => x.length)).sum = ys.length := by
  induction ys with
  | nil => rfl
  | cons y r ih =>
    rw [List.map_cons, List.sum_cons, ih (fun z hz => h z (List.mem_cons_of_mem _ hz)), h y List.mem_cons_self, List.length_cons]
    omega
theorem chr_at {z : Str} {i : Int} (h0 : 0 ≤ i) (h1 : i < z.length) : ∃ c, atI z.cps.toList i = some c := by
  obtain ⟨j, rfl⟩ := Int.eq_ofNat_of_zero_le h0
  have hj : j < z.cps.toList.length := by
    rw [Array.length_toList]
    exact Int.ofNat_lt.mp h1
  exact ⟨z.cps.toList[j], atI_nat (List.getElem?_eq_getElem hj)⟩
/-- what an append to a tracked new list leaves -/
theorem lst_app {α : Type} {H : Hp} {D : Addr} {f : α → V} {ys : List α} {y : α} : upd H D (.lst (ys.map f ++ [f y])) D = some (.lst ((ys ++ [y]).map f)) := by
  rw [upd_same, List.map_append]
  rfl
theorem rg40 {n : Nat} (h : n ≤ 100000) : RgC 0 n 40 ((n + 39) / 40) := by
  have e : Builtin.Range.rangeSize 0 (n : Int) 40 = (((n + 39) / 40 : Nat) : Int) := by
    rw [rangeSize_pos (by decide) (by omega)]
    omega
  refine ⟨by decide, by decide, ?_, e⟩
  unfold Builtin.Range.small
  rw [e]
  unfold Builtin.Range.rangeFitsLong
  simp
  omega
theorem isi {K : PySem.W.Frag} {H : Hp} {x : V} {T1 T2 : String} {b : Bool} {Q : VK} (ty : TyX K H x (.type T1)) (e : kitB T1 T2 = some b) (q : Q (.bl b) H) : rIsi K [x, .ty T2] H Q :=
  ⟨x, .ty T2, _, _, b, rfl, .ty _, ty, kit_ty e, q⟩
theorem ifT {c : Bool} {A B : Prop} (hc : c = true) (h : A) : if c = true then A else B := by
  rw [if_pos hc]
  exact h
theorem ifF {c : Bool} {A B : Prop} (hc : c = false) (h : B) : if c = true then A else B := by
  rw [if_neg (by rw [hc]; decide)]
  exact h
local macro_rules | `(tactic| walk_at "isk") => `(tactic| first
  | exact .base (.int _) | exact .base (.str _) | exact .base (.bl _) | exact .base .non
  | exact .base (.lst (by assumption)) | exact .base (.tup (by assumption)) | exact .base (.dK (by assumption)))
/-- isinstance(x, T) with a built-in T; the object's fact stands in the context -/
local macro_rules | `(tactic| walk_at "isi") => `(tactic| first
  | refine ⟨_, .ty _, _, _, true, (rfl : (_ : List V) = _), .ty _, (by walk_at "isk"), kit_ty (by decide +kernel), ?_⟩
  | refine ⟨_, .ty _, _, _, false, (rfl : (_ : List V) = _), .ty _, (by walk_at "isk"), kit_ty (by decide +kernel), ?_⟩)
/-! ### classes of the top -/
structure MethOk (K : PySem.W.Frag) (C : Addr) (m qual : Str) (st : Stmt) (ps : List Str) : Prop where
  ex : ∃ (f : Addr) (fd : FuncData), Meth K C m f ∧ L2.Fun K m qual st f fd ∧ Binds K fd ps []
structure MakOk (K : PySem.W.Frag) (C : Addr) (qual : Str) (st : Stmt) (ps : List Str) : Prop where
  ex : ∃ (f : Addr) (fd : FuncData), Mk K C f ∧ L2.Fun K "__init__" qual st f fd ∧ Binds K fd ps []
section
variable {P : Program} {w : World} {K : PySem.W.Frag} {mg : Str → Option Value} {base : Heap}
theorem met {C : Addr} {m qual : Str} {st : Stmt} {N ps : List Str} {k : Nat} {sp : Sp} (c : Cls K C) (D : MethOk K C m qual st ps) (S : FnScope N ps (defScope st)) (len : ∀ vs H Q E, sp vs H Q E → vs.length = ps.length)
    (hbody : ∀ (f : Addr) (cdv : Value) (A : Around) (outer : List Env) (s : Shared) (H : Hp) (vs : List V) (Q : VK) (E : XK), Room k (A.deeper (envOfC qual (defScope st) s.heap.objs.size f cdv)) → sp vs H Q E →
      ∃ t, PSs (cxOf L2.CX0 P w K mg base N qual (defScope st) f cdv A outer s H E).nox (defBody st) t ∧ t { nx := fun _ H' => Q .non H', rt := Q } (start N vs) H) : Met P w K mg base (k + 1) C m sp [] := by
  obtain ⟨f, fd, M, F, b⟩ := D.ex
  exact ⟨f, fd, ps, [], c, M, F.ok S len (fun cdv A outer s H vs Q E hr h => hbody f cdv A outer s H vs Q E hr h), b, .nil⟩
theorem mak {C : Addr} {x qual : Str} {st : Stmt} {N ps : List Str} {k : Nat} {sp : Sp} (hm : mg x = some (.ref C)) (D : MakOk K C qual st ps) (S : FnScope N ps (defScope st)) (len : ∀ vs H Q E, sp vs H Q E → vs.length = ps.length)
    (hbody : ∀ (f : Addr) (cdv : Value) (A : Around) (outer : List Env) (s : Shared) (H : Hp) (vs : List V) (Q : VK) (E : XK), Room k (A.deeper (envOfC qual (defScope st) s.heap.objs.size f cdv)) → sp vs H Q E →
      ∃ t, PSs (cxOf L2.CX0 P w K mg base N qual (defScope st) f cdv A outer s H E).nox (defBody st) t ∧ t { nx := fun _ H' => Q .non H', rt := Q } (start N vs) H) : Mak P w K mg base (k + 1) x C sp [] := by
  obtain ⟨f, fd, M, F, b⟩ := D.ex
  exact ⟨f, fd, ps, [], M, F.ok S len (fun cdv A outer s H vs Q E hr h => hbody f cdv A outer s H vs Q E hr h), hm, b, .nil⟩
end
/-- a tuple of the top, in the written part -/
def KTup (K : PySem.W.Frag) (a : Addr) (xs : List V) : Prop := ∃ o its n, K.lookup a = some o ∧ o.cls = Value.type "tuple" ∧ o.data = Data.seq its n ∧ its.size ≤ sizeLine ∧ Vals xs its.toList
theorem pe_mk0 {X : Cx} {k j : Nat} {x : Str} {C : Addr} {sp : Sp} {dvs : List V} {p pos : Pos} (c : Mak X.prog X.w X.K X.mg X.base k x C sp dvs) (hr : Room j X.A) (hk : k + 1 ≤ j) (hg : Gl X x)
    (hdb : (x == ("__debug__" : Str)) = false := by decide) : PE X (.Call (.Name x p) [] [] pos) (tMake C sp dvs L2.E0 tNil) := by
  obtain ⟨f, fd, ps, ds, M, F, hm, b, d⟩ := c.ex
  exact pe_make0 M F (hr.mono hk) hg hm b d pass0 hdb
/-! ### rules whose written part is named K (a comprehension's context is another one) -/
section
variable {X : Cx} {K : PySem.W.Frag}
theorem kin (h : X.K = K := by rfl) : OpR X (compareOp .In) (rIn K false) := by subst h; exact op_in_seq
theorem knin (h : X.K = K := by rfl) : OpR X (compareOp .NotIn) (rIn K true) := by subst h; exact op_notIn_seq
theorem kixl (h : X.K = K := by rfl) : IxR X (rIxL K) := by subst h; exact ix_list
theorem kixt (h : X.K = K := by rfl) : IxR X (rIxT K) := by subst h; exact ix_tup
theorem ksll (h : X.K = K := by rfl) : SlR X (rSlL K) := by subst h; exact sl_list
theorem kisi (h : X.K = K := by rfl) : CallR X (.builtin "isinstance") (rIsi K) := by subst h; exact call_isi
theorem kfld {o : Expr} {f : Str} {pos : Pos} {ta : TE} (he : PE X o ta) (hb : attributeBase o f X.env (eval o X.env) = eval o X.env := by rfl) (h : X.K = K := by rfl) : PE X (.Attribute o f pos) (tFld K ta f) := by subst h; exact pe_fld he hb
def rLenK (K : PySem.W.Frag) : List V → Hp → VK → Prop := fun xs H Q => ∃ p ys, xs = [.ref p] ∧ (SqL K H p ys ∨ SqT K H p ys) ∧ Q (.int ys.length) H
theorem klen (h : X.K = K := by rfl) : CallR X (.builtin "len") (rLenK K) := by subst h; exact call_len_seq
end
theorem hu1 {k : Nat} {A : Around} (hr : Room k A) : A.units + 1 < cLine := by have := hr.units; omega
section
variable {X : Cx}
theorem kdin {d : Addr} (h : ∃ es n, KDict X.K X.w d es n) : OpR X (compareOp .In) (fun x y H Q => ∃ (z : Str) (r : Option Value), x = .str z ∧ y = .ref d ∧ PySem.W.nsIn X.K d z = some r ∧ Q (.bl r.isSome) H) := by
  obtain ⟨es, n, D⟩ := h
  exact op_in_kd D
theorem kdnin {d : Addr} (h : ∃ es n, KDict X.K X.w d es n) : OpR X (compareOp .NotIn) (fun x y H Q => ∃ (z : Str) (r : Option Value), x = .str z ∧ y = .ref d ∧ PySem.W.nsIn X.K d z = some r ∧ Q (.bl (!r.isSome)) H) := by
  obtain ⟨es, n, D⟩ := h
  exact op_notIn_kd D
end
theorem kgtup {X : Cx} {K : PySem.W.Frag} {es : List Expr} {k : Nat} {t : TGs} {n : Nat} {pos : Pos} (hc : X.calm = true) (h : PGs X es t)
    (hn : (assignEach es X.env).length = n := by rfl) (hst : (assignEach es X.env).findIdx? (·.1) = none := by rfl) (hK : X.K = K := by rfl) : PG X (.Tuple es k pos) (gTup K n t) := by subst hK; exact pg_tup hc h hn hst
theorem hu65 {A : Around} {k : Nat} (hr : Room k A) : A.units + 65 < cLine := by have := hr.un; omega
theorem keqD {X : Cx} {K : PySem.W.Frag} (hu : X.A.units + 64 < cLine) (h : X.K = K := by rfl) : OpR X (compareOp .Eq) (rEqD K) := by subst h; exact op_eqD hu
theorem kneD {X : Cx} {K : PySem.W.Frag} (hu : X.A.units + 64 < cLine) (h : X.K = K := by rfl) : OpR X (compareOp .NotEq) (rNeD K) := by subst h; exact op_neD hu

/-! ### defs that raise own exceptions -/
theorem kit_tyB {K : PySem.W.Frag} {B : Addr} {T : String} (hm : PySem.W.kitMeta T = true) (h : PySem.W.subIn K (.ref B) (.type T) = some true) : PySem.W.kitOne K (.ref B) (.type T) = some true := by
  unfold PySem.W.kitOne
  rw [if_neg (by rw [show ((Value.ref B : Value) == .type T) = false from rfl]; exact Bool.false_ne_true)]
  show (if PySem.W.kitMeta T = true then PySem.W.subIn K (.ref B) (.type T) else none) = some true
  rw [if_pos hm]; exact h
theorem kit_own {K : PySem.W.Frag} {B C : Addr} (h1 : PySem.W.subIn K (.ref C) (.type "BaseException") = some true) (h2 : PySem.W.typeIn K (.ref C) = some (.type "type")) (h3 : PySem.W.subIn K (.ref B) (.ref C) = some true) : PySem.W.kitOne K (.ref B) (.ref C) = some true := by
  have h0 : (PySem.W.clsIn K C).isSome = true := by
    have h1 : PySem.W.mroIn K C (.type "BaseException") = some true := h1
    unfold PySem.W.mroIn at h1
    cases e : PySem.W.clsIn K C with
    | some _ => rfl
    | none => rw [e] at h1; cases h1
  unfold PySem.W.kitOne
  split
  · rfl
  · show (if ((PySem.W.clsIn K C).isSome && PySem.W.typeIn K (.ref C) == some (.type "type")) = true then PySem.W.subIn K (.ref B) (.ref C) else none) = some true
    rw [h0, h2, h3]
    rfl
section
variable {X : Cx}
/-- C() of an own exception class without an __init__ of its own -/
theorem pmk_own0 {x : Str} {C : Addr} {bmB : List Value} {B newId initId : String} {p pos : Pos} (F : ExcBaseFacts B newId initId bmB) (q : PySem.W.excIn X.K C bmB newId = true) (gC : X.mg x = some (.ref C)) (kC : PySem.W.keepIn X.K (.ref C) = true) (r : Raises X (.ref C)) (hg : Gl X x)
    (hdb : (x == ("__debug__" : Str)) = false := by decide) : PMk X (.Call (.Name x p) [] [] pos) (fun _ H Q => Q (.ref C) none H) := by
  intro pins s σ H Q I h
  refine wpAny_Call_Name_kw (ld_glob I hg gC ?_ hdb)
  refine PySem.W.callWith_K0 I.kIn kC ?_
  show wpAny _ _ (call (.ref C) []) _ _ _
  obtain ⟨bm, N, nm, qn, bs, hdct, sn, sub, ab, col, dd, k0, k1, k2, k3, k5, mN, hC, hN, hni, T⟩ := exc_obj I.kIn q
  refine wpAny_call_exc_subT F T hC hN hni (fun h' e hm => ?_) (Nat.zero_le _)
  exact mk_of I hm r h (I.hok.gone hm.new)
end
/-- an own exception class over ValueError -/
structure ExOk (K : PySem.W.Frag) (mg : Str → Option Value) (x : Str) (C : Addr) : Prop where
  ex : PySem.W.excIn K C [.type "ValueError", .type "Exception", .type "BaseException", .type "object"] "ValueError.__new__" = true
  g : mg x = some (.ref C)
  kp : PySem.W.keepIn K (.ref C) = true
  bp : PySem.W.subIn K (.ref C) (.type "BaseException") = some true
  tp : PySem.W.typeIn K (.ref C) = some (.type "type")
  hd : PySem.W.hasDictIn K C = true
theorem ExOk.exm {K : PySem.W.Frag} {mg : Str → Option Value} {x : Str} {C : Addr} {cls : Value} {b : Bool} (e : ExOk K mg x C) (h : PySem.W.subIn K cls (.ref C) = some b) : PySem.W.exmOne K cls (.ref C) = some b := PySem.W.exm_ref e.bp e.hd e.tp h
theorem pmk_ok {X : Cx} {x : Str} {C : Addr} {p pos : Pos} (e : ExOk X.K X.mg x C) (hg : Gl X x) (hdb : (x == ("__debug__" : Str)) = false := by decide) : PMk X (.Call (.Name x p) [] [] pos) (fun _ H Q => Q (.ref C) none H) :=
  pmk_own0 PySem.F.excBase_ValueError e.ex e.g e.kp (raises_own e.bp e.tp) hg hdb
/-! the promises of such defs -/
structure CalX (P : Program) (w : World) (K : PySem.W.Frag) (mg : Str → Option Value) (base : Heap) (k : Nat) (x : Str) (sp : Sp) : Prop where
  ex : ∃ (f : Addr) (fd : FuncData) (ps : List Str), FnOk P w K mg base (L2.CX P w) k f fd ps sp ∧ mg x = some (.ref f) ∧ PySem.W.keepIn K (.ref f) = true ∧ Binds K fd ps []
structure MetX (P : Program) (w : World) (K : PySem.W.Frag) (mg : Str → Option Value) (base : Heap) (k : Nat) (C : Addr) (m : Str) (sp : Sp) : Prop where
  ex : ∃ (f : Addr) (fd : FuncData) (ps : List Str), Cls K C ∧ Meth K C m f ∧ FnOk P w K mg base (L2.CX P w) k f fd ps sp ∧ Binds K fd ps []
structure MakX (P : Program) (w : World) (K : PySem.W.Frag) (mg : Str → Option Value) (base : Heap) (k : Nat) (x : Str) (C : Addr) (sp : Sp) : Prop where
  ex : ∃ (f : Addr) (fd : FuncData) (ps : List Str), Mk K C f ∧ FnOk P w K mg base (L2.CX P w) k f fd ps sp ∧ mg x = some (.ref C) ∧ Binds K fd ps []
section
variable {P : Program} {w : World} {K : PySem.W.Frag} {mg : Str → Option Value} {base : Heap}
theorem calX {x : Str} {st : Stmt} {N ps : List Str} {k : Nat} {sp : Sp} (D : DefOk K mg x st ps) (S : FnScope N ps (defScope st)) (len : ∀ vs H Q E, sp vs H Q E → vs.length = ps.length)
    (hbody : ∀ (f : Addr) (cdv : Value) (A : Around) (outer : List Env) (s : Shared) (H : Hp) (vs : List V) (Q : VK) (E : XK), Room k (A.deeper (envOfC x (defScope st) s.heap.objs.size f cdv)) → sp vs H Q E →
      ∃ t, PSs (cxOf (L2.CX P w) P w K mg base N x (defScope st) f cdv A outer s H E) (defBody st) t ∧ t { nx := fun _ H' => Q .non H', rt := Q } (start N vs) H) : CalX P w K mg base (k + 1) x sp := by
  obtain ⟨f, fd, F, hm, b⟩ := D.ex
  exact ⟨f, fd, ps, F.okX S len (fun cdv A outer s H vs Q E hr h => hbody f cdv A outer s H vs Q E hr h), hm, F.kp, b⟩
theorem metX {C : Addr} {m qual : Str} {st : Stmt} {N ps : List Str} {k : Nat} {sp : Sp} (c : Cls K C) (D : MethOk K C m qual st ps) (S : FnScope N ps (defScope st)) (len : ∀ vs H Q E, sp vs H Q E → vs.length = ps.length)
    (hbody : ∀ (f : Addr) (cdv : Value) (A : Around) (outer : List Env) (s : Shared) (H : Hp) (vs : List V) (Q : VK) (E : XK), Room k (A.deeper (envOfC qual (defScope st) s.heap.objs.size f cdv)) → sp vs H Q E →
      ∃ t, PSs (cxOf (L2.CX P w) P w K mg base N qual (defScope st) f cdv A outer s H E) (defBody st) t ∧ t { nx := fun _ H' => Q .non H', rt := Q } (start N vs) H) : MetX P w K mg base (k + 1) C m sp := by
  obtain ⟨f, fd, M, F, b⟩ := D.ex
  exact ⟨f, fd, ps, c, M, F.okX S len (fun cdv A outer s H vs Q E hr h => hbody f cdv A outer s H vs Q E hr h), b⟩
theorem makX {C : Addr} {x qual : Str} {st : Stmt} {N ps : List Str} {k : Nat} {sp : Sp} (hm : mg x = some (.ref C)) (D : MakOk K C qual st ps) (S : FnScope N ps (defScope st)) (len : ∀ vs H Q E, sp vs H Q E → vs.length = ps.length)
    (hbody : ∀ (f : Addr) (cdv : Value) (A : Around) (outer : List Env) (s : Shared) (H : Hp) (vs : List V) (Q : VK) (E : XK), Room k (A.deeper (envOfC qual (defScope st) s.heap.objs.size f cdv)) → sp vs H Q E →
      ∃ t, PSs (cxOf (L2.CX P w) P w K mg base N qual (defScope st) f cdv A outer s H E) (defBody st) t ∧ t { nx := fun _ H' => Q .non H', rt := Q } (start N vs) H) : MakX P w K mg base (k + 1) x C sp := by
  obtain ⟨f, fd, M, F, b⟩ := D.ex
  exact ⟨f, fd, ps, M, F.okX S len (fun cdv A outer s H vs Q E hr h => hbody f cdv A outer s H vs Q E hr h), hm, b⟩
end
/-! their calls: E tells at the slots what is wished of an error -/
section
variable {X : Cx} {k j : Nat} {C : Addr} {x m : Str} {sp : Sp} {p pos apos : Pos} {e o : Expr} {es : List Expr} {ta : TE} {t : TA} {E : L2.St → XK}
theorem pe_cX (c : CalX X.prog X.w X.K X.mg X.base k x sp) (hr : Room j X.A) (hk : k ≤ j) (hg : Gl X x) (hx : ∀ σ, PassesAt (L2.CX X.prog X.w) X σ (E σ)) (ha : PA X (e :: es) t)
    (hdb : (x == ("__debug__" : Str)) = false := by decide) (he : starEach (e :: es) X.env = (false, eval e X.env) :: starEach es X.env := by rfl) (hpl : (backTo pos (starEach es X.env)).any (·.1) = false := by rfl) :
    PE X (.Call (.Name x p) (e :: es) [] pos) (tCallS sp E t) := by
  obtain ⟨f, fd, ps, F, hm, kp, b⟩ := c.ex
  exact pe_callS F (hr.mono hk) hg hm kp b hx ha hdb he hpl
/-- where nothing is raised -/
theorem pe_cXn (c : CalX X.prog X.w X.K X.mg X.base k x sp) (hr : Room j X.A) (hk : k ≤ j) (hg : Gl X x) (ha : PA X (e :: es) t)
    (hdb : (x == ("__debug__" : Str)) = false := by decide) (he : starEach (e :: es) X.env = (false, eval e X.env) :: starEach es X.env := by rfl) (hpl : (backTo pos (starEach es X.env)).any (·.1) = false := by rfl) :
    PE X (.Call (.Name x p) (e :: es) [] pos) (tCall sp [] L2.E0 t) := by
  obtain ⟨f, fd, ps, F, hm, kp, b⟩ := c.ex
  exact pe_call F (hr.mono hk) hg hm kp b .nil passL ha hdb he hpl
def tMethX (C : Addr) (m : Str) (sp : Sp) (E : L2.St → XK) (ta : TE) (t : TA) : TE := fun σ H Q => ta σ H fun x H1 => ∃ a dx fs, x = .ref a ∧ H1 a = some (.ins C dx fs) ∧ fs.lookup m = none ∧ t σ H1 fun vs H2 => sp (.ref a :: vs) H2 Q (E σ)
theorem pe_mtX {pl : Sem Bool} (c : MetX X.prog X.w X.K X.mg X.base k C m sp) (hr : Room j X.A) (hk : k ≤ j) (hx : ∀ σ, PassesAt (L2.CX X.prog X.w) X σ (E σ)) (he : PE X o ta) (ha : PA X (e :: es) t)
    (hst : starEach (e :: es) X.env = (false, eval e X.env) :: starEach es X.env := by rfl) (hpl : (backTo pos (starEach es X.env)).any (·.1) = false := by rfl)
    (ht : eval (.Call (.Attribute o m apos) (e :: es) [] pos) X.env = (do
      let ov ← eval o X.env
      standAt apos.atName
      let (f, first) ← holding [ov] (getMethod ov m pl)
      callWith pos f first (backTo pos (starEach (e :: es) X.env)) (backToKw pos (keywordEach [] X.env))) := by rfl) :
    PE X (.Call (.Attribute o m apos) (e :: es) [] pos) (tMethX C m sp E ta t) := by
  obtain ⟨f, fd, ps, hc, hm, F, b⟩ := c.ex
  refine ⟨fun pins s σ H Q I h => ?_⟩
  refine PySem.W.methodCall_KW (pl := pl) (thn (he.run pins s σ H _ I h) fun u s1 ⟨x, H1, I1, rx, a, dx, fs, ex, ea, l, q⟩ => ?_) ht
  subst ex
  obtain rfl : u = Value.ref a := rx
  refine getmeth_ok I1 ea hc hm l ?_
  refine PySem.W.callWith_K (first := [.ref a]) (h₀ := X.base) I.ok.mod.kin hm.kp (thn (ha.run pos pins s1 σ H1 _ I1 q) fun us s2 ⟨vs, H2, I2, r, q2⟩ => ⟨I2.kIn, ?_⟩) hst hpl
  exact run_fnS (us := .ref a :: us) (vs := .ref a :: vs) F (hr.mono hk) b (hx σ) I2 (.cons rfl r) q2
theorem pe_mtX0 {pl : Sem Bool} (c : MetX X.prog X.w X.K X.mg X.base k C m sp) (hr : Room j X.A) (hk : k ≤ j) (hx : ∀ σ, PassesAt (L2.CX X.prog X.w) X σ (E σ)) (he : PE X o ta)
    (ht : eval (.Call (.Attribute o m apos) [] [] pos) X.env = (do
      let ov ← eval o X.env
      standAt apos.atName
      let (f, first) ← holding [ov] (getMethod ov m pl)
      callWith pos f first (backTo pos (starEach [] X.env)) (backToKw pos (keywordEach [] X.env))) := by rfl) :
    PE X (.Call (.Attribute o m apos) [] [] pos) (tMethX C m sp E ta tNil) := by
  obtain ⟨f, fd, ps, hc, hm, F, b⟩ := c.ex
  refine ⟨fun pins s σ H Q I h => ?_⟩
  refine PySem.W.methodCall_KW (pl := pl) (thn (he.run pins s σ H _ I h) fun u s1 ⟨x, H1, I1, rx, a, dx, fs, ex, ea, l, q⟩ => ?_) ht
  subst ex
  obtain rfl : u = Value.ref a := rx
  refine getmeth_ok I1 ea hc hm l ?_
  exact PySem.W.callWith_K0 (first := [.ref a]) I1.kIn hm.kp (run_fnS (us := [.ref a]) (vs := [.ref a]) F (hr.mono hk) b (hx σ) I1 (.cons rfl .nil) q)
def tMakeX (C : Addr) (sp : Sp) (E : L2.St → XK) (t : TA) : TE := fun σ H Q => t σ H fun vs H1 => ∀ x dx, H1 x = none → H1 dx = none → dx ≠ x → sp (.ref x :: vs) (upd (upd H1 dx (.own x)) x (.ins C dx [])) (fun v H2 => v = .non ∧ Q (.ref x) H2) (E σ)
theorem run_makeX {CX : CXT} {f : Addr} {fd : FuncData} {ps : List Str} {pins : List (Addr × Obj)} {σ : L2.St} {H : Hp} {s : Shared} {Q : VK} {us : List Value} {vs : List V} {Eσ : XK} (M : Mk X.K C f) (F : FnOk X.prog X.w X.K X.mg X.base CX k f fd ps sp) (hr : Room (k + 1) X.A) (hb : Binds X.K fd ps [])
    (hx : PassesAt CX X σ Eσ) (I : Inv X pins σ H s) (r : Vals vs us)
    (h : ∀ x dx, H x = none → H dx = none → dx ≠ x → sp (.ref x :: vs) (upd (upd H dx (.own x)) x (.ins C dx [])) (fun v H2 => v = .non ∧ Q (.ref x) H2) Eσ) :
    wpAny (model X.prog X.w) X.A (call (.ref C) us) (EP X pins σ Q) X.xe s := by
  have hq := h (s.heap.objs.size + 1) s.heap.objs.size (I.hok.fresh (Nat.le_succ _)) (I.hok.fresh (Nat.le_refl _)) (Nat.ne_of_lt (Nat.lt_succ_self _))
  have I2 := Inv.made (C := C) I
  have r2 : Vals (V.ref (s.heap.objs.size + 1) :: vs) (Value.ref (s.heap.objs.size + 1) :: us) := .cons rfl r
  have hl : (Value.ref (s.heap.objs.size + 1) :: us ++ ([] : List Value)).length = ps.length := by
    have e := r2.length
    rw [F.len _ _ _ _ hq] at e
    rw [List.append_nil]
    exact e.symm
  have hb' := hb _ (Value.ref (s.heap.objs.size + 1) :: us) I2.kIn hl
  rw [List.append_nil] at hb'
  refine wpAny_call (make_map (f := f) I.kIn M.makes M.init (beq_iff_eq.mp M.fn) (codeAny_mono (F.run _ X.stack _ _ ⟨Value.ref (s.heap.objs.size + 1) :: us, []⟩ (Value.ref (s.heap.objs.size + 1) :: us) _ _ Eσ (hr.make C us [])
    (I2.env0.make C us []) hb' r2 hq) fun r s' hq' => ?_))
  cases r with
  | error e => exact hx pins _ _ e s' I2 hq'
  | ok fl =>
    cases fl with
    | ret u =>
      obtain ⟨v, H', I3, rv, ev, q3⟩ := I2.after hq'
      subst ev
      exact ⟨rv, ⟨V.ref (s.heap.objs.size + 1), H', I3, rfl, q3⟩⟩
    | next => exact False.elim hq'
    | brk => exact False.elim hq'
    | cont => exact False.elim hq'
theorem pe_mkX (c : MakX X.prog X.w X.K X.mg X.base k x C sp) (hr : Room j X.A) (hk : k + 1 ≤ j) (hg : Gl X x) (hx : ∀ σ, PassesAt (L2.CX X.prog X.w) X σ (E σ)) (ha : PA X (e :: es) t)
    (hdb : (x == ("__debug__" : Str)) = false := by decide) (he : starEach (e :: es) X.env = (false, eval e X.env) :: starEach es X.env := by rfl) (hpl : (backTo pos (starEach es X.env)).any (·.1) = false := by rfl) :
    PE X (.Call (.Name x p) (e :: es) [] pos) (tMakeX C sp E t) := by
  obtain ⟨f, fd, ps, M, F, hm, b⟩ := c.ex
  refine ⟨fun pins s σ H Q I h => ?_⟩
  refine wpAny_Call_Name_kw (ld_glob I hg hm ?_ hdb)
  refine PySem.W.callWith_K (h₀ := X.base) I.ok.mod.kin M.kp (thn (ha.run pos pins s σ H _ I h) fun us s1 ⟨vs, H1, I1, r, q⟩ => ⟨I1.kIn, ?_⟩) he hpl
  exact run_makeX M F (hr.mono hk) b (hx σ) I1 r q
/-- where nothing is let out: for the calls above in a def without errors -/
theorem no_pass : ∀ σ : L2.St, PassesAt (L2.CX X.prog X.w) X σ ((fun _ => L2.E0) σ) := fun σ pins H s e s' I c => passL pins σ H s e s' I c
end
/-- a for's body that is one try: kept together, so that for_it can name it -/
def tBody (t : TS) : TS := t
theorem pss_body {X : Cx} {b : List Stmt} {t : TS} (h : PSs X b t) : PSs X b (tBody t) := h


def topS (i : Nat) : Stmt := PySem.Challenge.pw_oathledger_k36_may_vote.main.body.getD i (.Pass ⟨0, 0, 0, 0⟩)
abbrev s_last_number : Stmt := topS 5
theorem sc_last_number : FnScope ["last", "client"] ["last", "client"] (defScope s_last_number) := ⟨rfl, rfl, rfl, by decide +kernel, rfl, by decide +kernel, by decide +kernel⟩
abbrev s_all_fresh : Stmt := topS 6
theorem sc_all_fresh : FnScope ["last", "commands", "client", "number", "_"] ["last", "commands"] (defScope s_all_fresh) := ⟨rfl, rfl, rfl, by decide +kernel, rfl, by decide +kernel, by decide +kernel⟩
abbrev s_numbers_after : Stmt := topS 7
theorem sc_numbers_after : FnScope ["last", "commands", "numbers", "client", "number", "_"] ["last", "commands"] (defScope s_numbers_after) := ⟨rfl, rfl, rfl, by decide +kernel, rfl, by decide +kernel, by decide +kernel⟩
abbrev s_Ballot____init__ : Stmt := inClass (topS 9) 0
theorem sc_Ballot____init__ : FnScope ["self", "blocks", "block"] ["self", "blocks"] (defScope s_Ballot____init__) := ⟨rfl, rfl, rfl, by decide +kernel, rfl, by decide +kernel, by decide +kernel⟩
abbrev s_Ballot__last : Stmt := inClass (topS 9) 1
theorem sc_Ballot__last : FnScope ["self"] ["self"] (defScope s_Ballot__last) := ⟨rfl, rfl, rfl, by decide +kernel, rfl, by decide +kernel, by decide +kernel⟩
abbrev s_Ballot__floor : Stmt := inClass (topS 9) 2
theorem sc_Ballot__floor : FnScope ["self"] ["self"] (defScope s_Ballot__floor) := ⟨rfl, rfl, rfl, by decide +kernel, rfl, by decide +kernel, by decide +kernel⟩
abbrev s_Ballot__restore : Stmt := inClass (topS 9) 3
theorem sc_Ballot__restore : FnScope ["self", "epoch", "floor"] ["self", "epoch", "floor"] (defScope s_Ballot__restore) := ⟨rfl, rfl, rfl, by decide +kernel, rfl, by decide +kernel, by decide +kernel⟩
abbrev s_Ballot__record : Stmt := inClass (topS 9) 4
theorem sc_Ballot__record : FnScope ["self", "block"] ["self", "block"] (defScope s_Ballot__record) := ⟨rfl, rfl, rfl, by decide +kernel, rfl, by decide +kernel, by decide +kernel⟩
abbrev s_Ballot__blocks : Stmt := inClass (topS 9) 5
theorem sc_Ballot__blocks : FnScope ["self"] ["self"] (defScope s_Ballot__blocks) := ⟨rfl, rfl, rfl, by decide +kernel, rfl, by decide +kernel, by decide +kernel⟩
abbrev s_numbers_along : Stmt := topS 10
theorem sc_numbers_along : FnScope ["numbers", "path", "reached", "block"] ["numbers", "path"] (defScope s_numbers_along) := ⟨rfl, rfl, rfl, by decide +kernel, rfl, by decide +kernel, by decide +kernel⟩
abbrev s_may_vote : Stmt := topS 11
theorem sc_may_vote : FnScope ["block", "epoch", "chain", "ballot", "known", "numbers", "parent"] ["block", "epoch", "chain", "ballot", "known", "numbers"] (defScope s_may_vote) := ⟨rfl, rfl, rfl, by decide +kernel, rfl, by decide +kernel, by decide +kernel⟩
abbrev s_all_known : Stmt := topS 12
theorem sc_all_known : FnScope ["known", "commands", "table", "command"] ["known", "commands"] (defScope s_all_known) := ⟨rfl, rfl, rfl, by decide +kernel, rfl, by decide +kernel, by decide +kernel⟩
abbrev s_Chain____init__ : Stmt := inClass (topS 14) 0
theorem sc_Chain____init__ : FnScope ["self", "root"] ["self", "root"] (defScope s_Chain____init__) := ⟨rfl, rfl, rfl, by decide +kernel, rfl, by decide +kernel, by decide +kernel⟩
abbrev s_Chain__insert : Stmt := inClass (topS 14) 1
theorem sc_Chain__insert : FnScope ["self", "block", "epoch"] ["self", "block"] (defScope s_Chain__insert) := ⟨rfl, rfl, rfl, by decide +kernel, rfl, by decide +kernel, by decide +kernel⟩
abbrev s_Chain__connected : Stmt := inClass (topS 14) 2
theorem sc_Chain__connected : FnScope ["self", "epoch"] ["self", "epoch"] (defScope s_Chain__connected) := ⟨rfl, rfl, rfl, by decide +kernel, rfl, by decide +kernel, by decide +kernel⟩
abbrev s_Chain__tip : Stmt := inClass (topS 14) 3
theorem sc_Chain__tip : FnScope ["self"] ["self"] (defScope s_Chain__tip) := ⟨rfl, rfl, rfl, by decide +kernel, rfl, by decide +kernel, by decide +kernel⟩
abbrev s_Chain__path : Stmt := inClass (topS 14) 4
theorem sc_Chain__path : FnScope ["self", "epoch", "blocks", "block"] ["self", "epoch"] (defScope s_Chain__path) := ⟨rfl, rfl, rfl, by decide +kernel, rfl, by decide +kernel, by decide +kernel⟩
abbrev s_Chain___connect_waiting : Stmt := inClass (topS 14) 7
theorem sc_Chain___connect_waiting : FnScope ["self", "reached", "epochs", "epoch", "block"] ["self"] (defScope s_Chain___connect_waiting) := ⟨rfl, rfl, rfl, by decide +kernel, rfl, by decide +kernel, by decide +kernel⟩
abbrev s_has_parent : Stmt := topS 15
theorem sc_has_parent : FnScope ["connected", "block", "parent"] ["connected", "block"] (defScope s_has_parent) := ⟨rfl, rfl, rfl, by decide +kernel, rfl, by decide +kernel, by decide +kernel⟩
abbrev s_place : Stmt := topS 16
theorem sc_place : FnScope ["block"] ["block"] (defScope s_place) := ⟨rfl, rfl, rfl, by decide +kernel, rfl, by decide +kernel, by decide +kernel⟩
abbrev s_highest : Stmt := topS 17
theorem sc_highest : FnScope ["blocks"] ["blocks"] (defScope s_highest) := ⟨rfl, rfl, rfl, by decide +kernel, rfl, by decide +kernel, by decide +kernel⟩
abbrev s__law_cell : Stmt := topS 19
theorem sc__law_cell : FnScope ["script", "k"] ["script", "k"] (defScope s__law_cell) := ⟨rfl, rfl, rfl, by decide +kernel, rfl, by decide +kernel, by decide +kernel⟩
abbrev s__law_draws : Stmt := topS 20
theorem sc__law_draws : FnScope ["script", "start", "most", "draws", "cell", "number", "mixed", "k"] ["script", "start", "most"] (defScope s__law_draws) := ⟨rfl, rfl, rfl, by decide +kernel, rfl, by decide +kernel, by decide +kernel⟩
abbrev s__law_commands : Stmt := topS 21
theorem sc__law_commands : FnScope ["draw", "commands", "client"] ["draw"] (defScope s__law_commands) := ⟨rfl, rfl, rfl, by decide +kernel, rfl, by decide +kernel, by decide +kernel⟩
abbrev s__law_build : Stmt := topS 22
theorem sc__law_build : FnScope ["draws", "blocks", "epoch", "draw", "parents", "parent"] ["draws"] (defScope s__law_build) := ⟨rfl, rfl, rfl, by decide +kernel, rfl, by decide +kernel, by decide +kernel⟩
abbrev s__law_numbers : Stmt := topS 23
theorem sc__law_numbers : FnScope ["blocks", "start", "epoch", "last", "path", "block", "command", "row"] ["blocks", "start", "epoch"] (defScope s__law_numbers) := ⟨rfl, rfl, rfl, by decide +kernel, rfl, by decide +kernel, by decide +kernel⟩
abbrev s__law_expected : Stmt := topS 24
theorem sc__law_expected : FnScope ["block", "epoch", "blocks", "last", "floor", "known", "start", "parents", "top", "numbers", "command", "row"] ["block", "epoch", "blocks", "last", "floor", "known", "start"] (defScope s__law_expected) := ⟨rfl, rfl, rfl, by decide +kernel, rfl, by decide +kernel, by decide +kernel⟩
abbrev s_law : Stmt := topS 25
theorem sc_law : FnScope ["script", "draws", "blocks", "chain", "row", "cell", "start", "tops", "parent", "epoch", "numbers", "pick", "commands", "client", "step", "block", "known", "ballot", "floor", "last", "current", "actual"] ["script"] (defScope s_law) := ⟨rfl, rfl, rfl, by decide +kernel, rfl, by decide +kernel, by decide +kernel⟩
structure Txt (K : PySem.W.Frag) (mg : Str → Option Value) (C_Ballot : Addr) (C_Chain : Addr) (C_BadBlock : Addr) : Prop where
  d_last_number : DefOk K mg "last_number" s_last_number ["last", "client"]
  d_all_fresh : DefOk K mg "all_fresh" s_all_fresh ["last", "commands"]
  d_numbers_after : DefOk K mg "numbers_after" s_numbers_after ["last", "commands"]
  d_numbers_along : DefOk K mg "numbers_along" s_numbers_along ["numbers", "path"]
  d_may_vote : DefOk K mg "may_vote" s_may_vote ["block", "epoch", "chain", "ballot", "known", "numbers"]
  d_all_known : DefOk K mg "all_known" s_all_known ["known", "commands"]
  d_has_parent : DefOk K mg "has_parent" s_has_parent ["connected", "block"]
  d_place : DefOk K mg "place" s_place ["block"]
  d_highest : DefOk K mg "highest" s_highest ["blocks"]
  d__law_cell : DefOk K mg "_law_cell" s__law_cell ["script", "k"]
  d__law_draws : DefOk K mg "_law_draws" s__law_draws ["script", "start", "most"]
  d__law_commands : DefOk K mg "_law_commands" s__law_commands ["draw"]
  d__law_build : DefOk K mg "_law_build" s__law_build ["draws"]
  d__law_numbers : DefOk K mg "_law_numbers" s__law_numbers ["blocks", "start", "epoch"]
  d__law_expected : DefOk K mg "_law_expected" s__law_expected ["block", "epoch", "blocks", "last", "floor", "known", "start"]
  d_law : DefOk K mg "law" s_law ["script"]
  cl_Ballot : Cls K C_Ballot
  g_Ballot : mg "Ballot" = some (.ref C_Ballot)
  na_Ballot__blocks : NoAttr K C_Ballot "_blocks"
  na_Ballot__last : NoAttr K C_Ballot "_last"
  na_Ballot__floor : NoAttr K C_Ballot "_floor"
  mk_Ballot : MakOk K C_Ballot "Ballot.__init__" s_Ballot____init__ ["self", "blocks"]
  me_Ballot__last : MethOk K C_Ballot "last" "Ballot.last" s_Ballot__last ["self"]
  me_Ballot__floor : MethOk K C_Ballot "floor" "Ballot.floor" s_Ballot__floor ["self"]
  me_Ballot__restore : MethOk K C_Ballot "restore" "Ballot.restore" s_Ballot__restore ["self", "epoch", "floor"]
  me_Ballot__record : MethOk K C_Ballot "record" "Ballot.record" s_Ballot__record ["self", "block"]
  me_Ballot__blocks : MethOk K C_Ballot "blocks" "Ballot.blocks" s_Ballot__blocks ["self"]
  cl_Chain : Cls K C_Chain
  g_Chain : mg "Chain" = some (.ref C_Chain)
  na_Chain_root : NoAttr K C_Chain "root"
  na_Chain__connected : NoAttr K C_Chain "_connected"
  na_Chain__waiting : NoAttr K C_Chain "_waiting"
  mk_Chain : MakOk K C_Chain "Chain.__init__" s_Chain____init__ ["self", "root"]
  me_Chain__insert : MethOk K C_Chain "insert" "Chain.insert" s_Chain__insert ["self", "block"]
  me_Chain__connected : MethOk K C_Chain "connected" "Chain.connected" s_Chain__connected ["self", "epoch"]
  me_Chain__tip : MethOk K C_Chain "tip" "Chain.tip" s_Chain__tip ["self"]
  me_Chain__path : MethOk K C_Chain "path" "Chain.path" s_Chain__path ["self", "epoch"]
  me_Chain___connect_waiting : MethOk K C_Chain "_connect_waiting" "Chain._connect_waiting" s_Chain___connect_waiting ["self"]
  x_BadBlock : ExOk K mg "BadBlock" C_BadBlock
  u_BadBlock_BadBlock : PySem.W.subIn K (.ref C_BadBlock) (.ref C_BadBlock) = some true
  z_abs : mg "abs" = none
  z_all : mg "all" = none
  z_dict : mg "dict" = none
  z_int : mg "int" = none
  z_len : mg "len" = none
  z_list : mg "list" = none
  z_max : mg "max" = none
  z_range : mg "range" = none
  z_sorted : mg "sorted" = none
  z_str : mg "str" = none
  z_tuple : mg "tuple" = none
set_option pp.maxSteps 150
/-! ### sorted(xs, key=f), f an own def that gives a pair of ints -/
section
open PyProof.Rows PySem.Calls
/-- the order of the keys -/
def LexP (a b : Int × Int) : Prop := a.1 < b.1 ∨ (a.1 = b.1 ∧ a.2 ≤ b.2)
def rSortBy (K : PySem.W.Frag) (kp : Addr) (sp : Sp) : List V → List V → Hp → VK → Prop := fun vs zs H Q => ∃ (l : Addr) (xs : List (V × (Int × Int))), vs = [.ref l] ∧ zs = [.ref kp] ∧ SqL K H l (xs.map (·.1)) ∧ xs.length ≤ 1000 ∧
  (∀ x ∈ xs, ∀ H1, Same H H1 → ∀ Q1 : VK, (∀ t H2, Same H1 H2 → H1 t = none → H2 t = some (.tup [.int x.2.1, .int x.2.2]) → Q1 (.ref t) H2) → sp [x.1] H1 Q1 E0) ∧
  ∀ (H1 : Hp) (ys : List (V × (Int × Int))) (p : Addr), Same H H1 → ys.Perm xs → ys.Pairwise (fun x y => LexP x.2 y.2) → H1 p = none → Q (.ref p) (upd H1 p (.lst (ys.map (·.1))))
theorem each_zip {α β γ δ : Type} {R : α → β → Prop} {f : γ → α} {k : δ → β} : ∀ (ts : List γ) (xs : List δ), ts.length = xs.length → (∀ (j : Nat) (t : γ) (x : δ), ts[j]? = some t → xs[j]? = some x → R (f t) (k x)) → PySem.W.EachIs R (ts.map f) (xs.map k)
  | [], [], _, _ => .nil
  | [], _ :: _, h, _ => by simp at h
  | _ :: _, [], h, _ => by simp at h
  | t :: ts, x :: xs, h, hr => .cons (hr 0 t x rfl rfl) (each_zip ts xs (by simpa using h) fun j t x h1 h2 => hr (j + 1) t x h1 h2)
theorem each_vals {α : Type} {f : α → V} : ∀ {xs : List α} {its : List Value}, Vals (xs.map f) its → PySem.W.EachIs (fun v x => RelV (f x) v) its xs
  | [], _, .nil => .nil
  | _ :: _, _, .cons h r => .cons h (each_vals r)
theorem vals_each {α : Type} {f : α → V} : ∀ {its : List Value} {xs : List α}, PySem.W.EachIs (fun v x => RelV (f x) v) its xs → Vals (xs.map f) its
  | _, _, .nil => .nil
  | _, _, .cons h r => .cons h (vals_each r)
theorem freed_none {h : Heap} {b : Addr} {o : Obj} (e : h.get? b = some o) : (h.update b fun o => { o with data := .freed }).get? b = none := by
  obtain ⟨objs, l⟩ := h
  unfold Heap.get? Heap.update at *
  simp only at e ⊢
  rw [Array.getElem?_modify, if_pos rfl]
  cases q : objs[b]? with
  | none => rfl
  | some u => rfl
variable {X : Cx}
theorem cr_sortBy {k : Nat} {kp : Addr} {sp : Sp} (c : C8.CalAt X.prog X.w X.K X.mg X.base k kp sp) (hr : Room (k + 2) X.A) : CallRK X (.builtin "sorted") [Str.ofString "key"] (rSortBy X.K kp sp) := by
  intro pins s σ H vs zs us ws Q I r rz h
  obtain ⟨l, xs, rfl, rfl, hs, hlen', hk, q⟩ := h
  obtain rfl := Vals.ref1 r
  obtain ⟨w1, rfl, e1⟩ := vals1 rz
  obtain rfl : w1 = Value.ref kp := e1
  obtain ⟨its, rv, hl, hz⟩ := I.list hs
  obtain ⟨fd, ps, F, kin, bi⟩ := c.ex
  have FR := F.raw bi .nil
  have ln := rv.length
  rw [List.length_map] at ln
  have hsz : its.length ≤ sizeLine := by rw [← ln]; exact Nat.le_trans hlen' (by rw [sizeLine_eq]; decide)
  show wpAny _ _ (call (.builtin "sorted") [.ref l] [(Str.ofString "key", .ref kp)]) _ _ _
  refine PySem.W.sorted_of_sort hl.isList hsz (PyProof.Rows.ksk_s1 _ _) (fun _ => PyProof.Rows.ksk_l1 _ _) fun E' => ?_
  rw [PyProof.Rows.ksk_t1]
  generalize ha : s.heap.objs.size + 1 = a
  have hla : s.heap.objs.size ≤ a := by omega
  have ho : (PySem.W.copyHeap s.heap its).get? a = some (seqObj "list" its.toArray 0) := by rw [← ha]; exact PySem.W.copyHeap_at s.heap its
  have hold : ∀ b o, s.heap.get? b = some o → b ≠ a ∧ (PySem.W.copyHeap s.heap its).get? b = some o := fun b o e => ⟨Nat.ne_of_lt (Nat.lt_of_lt_of_le (Heap.lt_size e) hla), PySem.W.copyHeap_old e⟩
  generalize PySem.W.copyHeap s.heap its = h0 at ho hold
  obtain ⟨e1, ho1⟩ : ∃ e1, (h0.update a (Obj.mapSeq fun _ => (#[] : Array Value))).get? a = some (seqObj "list" #[] e1) := ⟨_, get?_update_seq ho fun _ => #[]⟩
  have sz0 := Heap.lt_size ho
  unfold ksk_tree
  refine wpAny_bind (listItems_at ho rfl ?_)
  refine wpAny_bind (listUpdate_at ho rfl ?_ (by rw [List.size_toArray]; exact hsz) (Nat.zero_le _))
  refine wpAny_bind (seqEpoch_at ho1 rfl ?_)
  refine wpAny_bind (wpAny_newTuple ?_ (by show its.length ≤ _; exact hsz))
  refine wpAny_bind (wpAny_newList ?_ (Nat.zero_le _))
  refine wpAny_holding ?_
  have old4 : ∀ b o, s.heap.get? b = some o → (PySem.W.sortingHeap h0 a its).get? b = some o := fun b o e => PySem.W.sortingHeap_old (hold b o e).1 (hold b o e).2
  generalize hkS : ((h0.update a (Obj.mapSeq fun _ => (#[] : Array Value))).push (seqObj "tuple" its.toArray 0)).objs.size = kS
  have lkS : a < kS := by rw [← hkS, size_push', Heap.size_update]; exact Nat.lt_succ_of_lt sz0
  have nk4 : (PySem.W.sortingHeap h0 a its).get? kS = some (seqObj "list" #[] 0) := by rw [← hkS]; exact Heap.get?_push_size _ rfl
  have na4 : (PySem.W.sortingHeap h0 a its).get? a = some (seqObj "list" #[] e1) := Heap.get?_push_of_some _ (Heap.get?_push_of_some _ ho1)
  show wpAny _ _ (ksk_rest a (.ref kp) false its.toArray e1 (.ref kS)) _ _ { s with heap := PySem.W.sortingHeap h0 a its }
  have I4 : Inv X pins σ H { s with heap := PySem.W.sortingHeap h0 a its } := I.kept (t' := s.toks) old4
  generalize PySem.W.sortingHeap h0 a its = h4 at nk4 na4 I4
  have hka : kS ≠ a := Nat.ne_of_gt lkS
  have fpa : ∀ {H' : Hp}, H' a = none → FpOk X pins H' a := fun z => I.fpOk hla z
  have fpk : ∀ {H' : Hp}, H' kS = none → FpOk X pins H' kS := fun z => I.fpOk (Nat.le_trans hla (Nat.le_of_lt lkS)) z
  have Ha : H a = none := I.hok.fresh hla
  have HkS : H kS = none := I.hok.fresh (Nat.le_trans hla (Nat.le_of_lt lkS))
  have nst : ∀ b, s.heap.objs.size ≤ b → b ∉ frs X.stack := fun b hb z => by
    have f := I.fpOk (H' := H) hb (I.hok.fresh hb)
    rcases List.mem_cons.mp (I.stkSub b z) with e | e
    · exact f.2.1 e
    · exact f.2.2.1 e
  unfold ksk_rest
  refine wpAny_bind (wpAny_rule ?_)
  first
    | rw [List.forIn_toArray]
    | (rw [← Array.forIn_toList]; simp only [List.toList_toArray])
    | rw [← Array.forIn_toList]
  refine wpAny_bind (ksk_fold (fun i s' => ∃ (H' : Hp) (kA : Array Value) (e : Nat) (ts : List Addr), Same H H' ∧ Inv X pins σ H' s' ∧ s'.heap.get? kS = some (seqObj "list" kA e) ∧ s'.heap.get? a = some (seqObj "list" #[] e1) ∧ H' kS = none ∧ H' a = none ∧ kA.toList = ts.map Value.ref ∧ ts.length = i ∧ ∀ (j : Nat) (t : Addr) (x : V × (Int × Int)), ts[j]? = some t → xs[j]? = some x → H' t = some (.tup [.int x.2.1, .int x.2.2])) its 0 { s with heap := h4 }
    ⟨H, #[], 0, [], Same.refl _, I4, nk4, na4, HkS, Ha, rfl, rfl, fun j t x e => by rw [List.getElem?_nil] at e; cases e⟩ ?step ?done)
  case step =>
    rintro j v s' hv ⟨H', kA, e, ts, sm, I', nk, na, hk0, ha0, ek, el, hts⟩
    simp only [Nat.zero_add] at el ⊢
    have hj : j < its.length := (List.getElem?_eq_some_iff.mp hv).1
    obtain ⟨x, hx⟩ : ∃ x, xs[j]? = some x := ⟨_, List.getElem?_eq_getElem (by omega)⟩
    obtain ⟨v', hv', rx⟩ := rv.get (show (xs.map (·.1))[j]? = some x.1 by rw [List.getElem?_map, hx]; rfl)
    have ev : v' = v := Option.some.inj (hv'.symm.trans hv)
    rw [ev] at rx
    have hsp := hk x (List.mem_of_getElem? hx) H' sm (fun y H2 => ∃ t, y = .ref t ∧ Same H' H2 ∧ H' t = none ∧ H2 t = some (.tup [.int x.2.1, .int x.2.2])) (fun t H2 s2 t0 et => ⟨t, rfl, s2, t0, et⟩)
    have e0 : Env0 X.prog X.w X.K X.mg X.base X.A.in1.in1 X.stack s' H' := I'.env0.in1.in1
    refine wpAny_bind (wpAny_attempt (wpAny_call (codeAny_mono (FR X.A.in1.in1 X.stack s' H' [v] [x.1] _ E0 hr.in1.in1 e0 (.cons rx .nil) hsp) fun r s'' hq => ?_)))
    cases r with
    | error e => exact False.elim hq
    | ok fl =>
      cases fl with
      | next => exact False.elim hq
      | brk => exact False.elim hq
      | cont => exact False.elim hq
      | ret u =>
        obtain ⟨y, H2, os, bare, un, hok, ry, t, ey, s2, t0, et⟩ := hq
        subst ey
        obtain rfl : u = Value.ref t := ry
        have I2 : Inv X pins σ H2 s'' := I'.call' (ch := []) os un hok bare (fun b z => absurd z (by simp))
        have nk2 := un.keep kS _ nk hk0 (nst kS (Nat.le_trans hla (Nat.le_of_lt lkS))) (by simp)
        have na2 := un.keep a _ na ha0 (nst a hla) (by simp)
        have hk2 := un.free kS _ nk hk0 (by simp)
        have ha2 := un.free a _ na ha0 (by simp)
        have hz2 : kA.size ≤ its.length := by rw [← Array.length_toList, ek, List.length_map]; omega
        have s1 := Heap.SameBut.update s''.heap kS (Obj.mapSeq (·.push (Value.ref t)))
        obtain ⟨c2, hc2⟩ : ∃ c2, (s''.heap.update kS (Obj.mapSeq (·.push (Value.ref t)))).get? kS = some (seqObj "list" (kA.push (Value.ref t)) c2) := ⟨_, get?_update_seq nk2 (·.push (Value.ref t))⟩
        have nts : ts.length < 2 ^ 62 := by rw [el]; have := Nat.lt_of_lt_of_le hj hsz; rw [sizeLine_eq] at this; omega
        refine wpAny_bind (listUpdate_at nk2 rfl ?_ (Nat.le_trans hz2 hsz) (Nat.le_trans (Nat.le_of_eq (Array.size_push ..)) (Nat.succ_le_succ (Nat.le_trans hz2 hsz))))
        refine wpAny_pure ⟨rfl, H2, kA.push (Value.ref t), c2, ts ++ [t], sm.trans s2, ?_, hc2, (s1.2 a hka.symm).trans na2, hk2, ha2, by rw [Array.toList_push, ek, List.map_append]; rfl, by rw [List.length_append, el]; rfl, fun i u z hu hz => ?_⟩
        · exact I2.turnedL (t' := s''.toks) (ch := [kS]) (fun b o hb e => (s1.2 b (fun q => hb (List.mem_singleton.mpr q))).trans e) (fun b hb => by rw [List.mem_singleton.mp hb]; exact fpk hk2)
        · by_cases hi : i < ts.length
          · rw [List.getElem?_append_left hi] at hu
            exact s2 _ _ (hts i u z hu hz)
          · rw [List.getElem?_append_right (by omega)] at hu
            have hu2 := List.getElem?_eq_some_iff.mp hu
            obtain ⟨h1, h2⟩ := hu2
            have h1 : i - ts.length < 1 := h1
            have z0 : i - ts.length = 0 := by omega
            have ij : i = j := by omega
            simp only [z0] at h2
            have h2 : t = u := h2
            rw [ij, hx] at hz
            rw [← h2, ← Option.some.inj hz]
            exact et
  case done =>
    rintro s' ⟨H', kA, e, ts, sm, I', nk, na, hk0, ha0, ek, el, hts⟩
    have el : ts.length = its.length := by omega
    refine wpAny_bind (listItems_at nk rfl ?_)
    have kz : PySem.W.EachIs (fun v k => ∃ as, Reads s'.heap v k as) kA.toList (xs.map fun x => PyData.tuple [.int x.2.1, .int x.2.2]) := by
      rw [ek]
      refine each_zip ts xs (by omega) fun j t x h1 h2 => ?_
      exact Dp.reads I' _ (.ref t) (.ref t) (.tup (SqT.of (hts j t x h1 h2)) (.cons (.int _) (.cons (.int _) .nil))) rfl
    have gone : (s'.heap.update kS fun o => { o with data := .freed }).get? kS = none := freed_none nk
    have hal : PySem.W.AllAlike (xs.map fun x => PyData.tuple [.int x.2.1, .int x.2.2]) := PySem.W.AllAlike.of fun _ _ => by simp [PySem.W.alike, PySem.W.alikeAll]
    have s3 := Heap.SameBut.update s'.heap kS fun o => { o with data := .freed }
    have hlen : kA.size = its.length := by rw [← Array.length_toList, ek, List.length_map, el]
    refine PySem.W.keyH_end (κ := PySem.W.dataKind s'.heap (xs.map fun x => PyData.tuple [.int x.2.1, .int x.2.2])) (h₁ := s'.heap.update kS fun o => { o with data := .freed }) (fun b o hb e => ?_) gone nk na hka (PySem.W.SortsAt.data kz ?_ ?_ ?_) hlen hsz fun h3 tk3 c3 k3 n3 => ⟨rfl, ?_⟩
    · by_cases z : b = kS
      · rw [z, gone] at e; cases e
      · rw [← s3.2 b z]; exact e
    · exact hal
    · exact PySem.W.Sortable.tuples fun _ => ⟨_, _, rfl⟩
    · intro d hd
      obtain ⟨x, _, rfl⟩ := List.mem_map.mp hd
      have hd : (PyData.tuple [.int x.2.1, .int x.2.2]).depth = 1 := by simp [PyData.depth, PyData.depthAll]
      have := hr.in1.in1.units
      omega
    · have ev := PySem.W.keyedOut_each (rev := false) (fun x : V × (Int × Int) => PyData.tuple [.int x.2.1, .int x.2.2]) ⟨s'.heap, kA.toList, hal, rfl, kz⟩ (each_vals rv)
      rw [PySem.W.dataLe_ii (β := V × (Int × Int)) (fun x => x.2.1) (fun x => x.2.2)] at ev
      have ro := vals_each ev
      have pe := List.mergeSort_perm xs (fun p q => decide (p.2.1 < q.2.1 ∨ (p.2.1 = q.2.1 ∧ p.2.2 ≤ q.2.2)))
      have so := List.pairwise_mergeSort (le := fun p q => decide (p.2.1 < q.2.1 ∨ (p.2.1 = q.2.1 ∧ p.2.2 ≤ q.2.2))) (fun a b c h1 h2 => by
        have h1 := of_decide_eq_true h1
        have h2 := of_decide_eq_true h2
        exact decide_eq_true (by omega)) (fun a b => by
        by_cases h : a.2.1 < b.2.1 ∨ (a.2.1 = b.2.1 ∧ a.2.2 ≤ b.2.2)
        · rw [decide_eq_true h]; rfl
        · rw [decide_eq_true (show b.2.1 < a.2.1 ∨ (b.2.1 = a.2.1 ∧ b.2.2 ≤ a.2.2) by omega), Bool.or_true]) xs
      generalize xs.mergeSort (fun p q => decide (p.2.1 < q.2.1 ∨ (p.2.1 = q.2.1 ∧ p.2.2 ≤ q.2.2))) = ys at ro pe so
      have I5 : Inv X pins σ H' { s' with heap := h3, toks := tk3 } := I'.turnedL (ch := [kS, a]) (fun b o hb e => k3 b o (fun z => hb (by simp [z])) ((s3.2 b (fun z => hb (by simp [z]))).trans e)) (fun b hb => by
        simp only [List.mem_cons, List.not_mem_nil, or_false] at hb
        rcases hb with rfl | rfl
        · exact fpk hk0
        · exact fpa ha0)
      have I6 := I5.take (it := a) (o := .lst (ys.map (·.1))) (h' := h3) (t' := tk3) (fun _ _ _ e => e) (fpa ha0) ⟨by rw [List.length_map, pe.length_eq]; exact Nat.le_trans hlen' (by rw [sizeLine_eq]; decide), _, c3, ro, n3⟩
      exact ⟨.ref a, upd H' a (.lst (ys.map (·.1))), I6, rfl, q H' ys a sm pe (so.imp fun h => of_decide_eq_true h) ha0⟩
end

/-! ### t > u of pairs of ints; max(xs, key=f), f an own def that gives a pair of ints -/
section
open PyProof.Rows PySem.Calls
variable {X : Cx}
theorem pair_gt {pins : List (Addr × Obj)} {σ : L2.St} {H : Hp} {s : Shared} {A : Around} (I : Inv X pins σ H s) {x y : Addr} {a b c d : Int} (hx : H x = some (.tup [.int a, .int b])) (hy : H y = some (.tup [.int c, .int d])) (hu : A.units < cLine) :
    Ob.RcOp .Gt A s (.ref x) (.ref y) (decide (c < a ∨ (c = a ∧ d < b))) := by
  obtain ⟨its, r1, p1, _⟩ := I.tuple (SqT.of hx)
  obtain ⟨its2, r2, p2, _⟩ := I.tuple (SqT.of hy)
  have i1 : IntsAre its [a, b] := Vals.ints (ns := [a, b]) r1
  have i2 : IntsAre its2 [c, d] := Vals.ints (ns := [c, d]) r2
  have e1 : its.toArray.size = 2 := by rw [List.size_toArray]; exact i1.length
  have e2 : its2.toArray.size = 2 := by rw [List.size_toArray]; exact i2.length
  have at1 : ∀ j (h1 : j < its.toArray.size), ∃ t, its.toArray[j] = .int (([a, b] : List Int).getD j 0) t := fun j h1 => PyProof.Rows.IntsAre.int_at i1 _ _ (by simp at h1; simp [h1])
  have at2 : ∀ j (h1 : j < its2.toArray.size), ∃ t, its2.toArray[j] = .int (([c, d] : List Int).getD j 0) t := fun j h1 => PyProof.Rows.IntsAre.int_at i2 _ _ (by simp at h1; simp [h1])
  have R := Ob.RcOp.tuples_gt (A := A) (s := s) (e := fun j => decide (([a, b] : List Int).getD j 0 = ([c, d] : List Int).getD j 0)) (r := fun j => decide (([c, d] : List Int).getD j 0 < ([a, b] : List Int).getD j 0)) p1 p2 hu (fun j h1 h2 => by
    obtain ⟨t, et⟩ := at1 j h1
    obtain ⟨t', et'⟩ := at2 j h2
    rw [et, et']
    have z : (([a, b] : List Int).getD j 0 == ([c, d] : List Int).getD j 0) = decide (([a, b] : List Int).getD j 0 = ([c, d] : List Int).getD j 0) := by
      by_cases q : ([a, b] : List Int).getD j 0 = ([c, d] : List Int).getD j 0
      · rw [decide_eq_true q]; exact beq_iff_eq.mpr q
      · rw [decide_eq_false q]; exact beq_eq_false_iff_ne.mpr q
    rw [← z]
    exact SeqAt.EqAt.int_int _ _ _ _) (fun j h1 h2 _ => by
    obtain ⟨t, et⟩ := at1 j h1
    obtain ⟨t', et'⟩ := at2 j h2
    rw [et, et']
    exact Ob.RcOp.gt_int _ _ _ _)
  rw [e1, e2] at R
  have e : Ob.lexAt (fun j => decide (([a, b] : List Int).getD j 0 = ([c, d] : List Int).getD j 0)) (fun j => decide (([c, d] : List Int).getD j 0 < ([a, b] : List Int).getD j 0)) (decide (2 > 2)) 0 (min 2 2) = decide (c < a ∨ (c = a ∧ d < b)) := by
    show (if decide (a = c) = true then (if decide (b = d) = true then false else decide (d < b)) else decide (c < a)) = _
    by_cases h1 : a = c
    · rw [if_pos (decide_eq_true h1)]
      by_cases h2 : b = d
      · rw [if_pos (decide_eq_true h2)]; exact (decide_eq_false (by omega)).symm
      · rw [if_neg (by simp [h2])]
        by_cases h3 : d < b
        · rw [decide_eq_true h3]; exact (decide_eq_true (by omega)).symm
        · rw [decide_eq_false h3]; exact (decide_eq_false (by omega)).symm
    · rw [if_neg (by simp [h1])]
      by_cases h3 : c < a
      · rw [decide_eq_true h3]; exact (decide_eq_true (by omega)).symm
      · rw [decide_eq_false h3]; exact (decide_eq_false (by omega)).symm
  rw [e] at R
  exact R
def rGtP : R2 := fun x y H Q => ∃ (s t : Addr) (a b c d : Int), x = .ref s ∧ y = .ref t ∧ H s = some (.tup [.int a, .int b]) ∧ H t = some (.tup [.int c, .int d]) ∧ Q (.bl (decide (c < a ∨ (c = a ∧ d < b)))) H
theorem op_gtP (hu : X.A.units < cLine) : OpR X (compareOp .Gt) rGtP := by
  intro pins s σ H x y v u Q I rx ry h
  obtain ⟨p, t, a, b, c, d, rfl, rfl, hx, hy, q⟩ := h
  cases rx
  cases ry
  have z : wpAny (model X.prog X.w) X.A (compareOp .Gt (.ref p) (.ref t)) (EP X pins σ Q) X.xe s := pair_gt I hx hy hu X.prog X.w X.xe (EP X pins σ Q) ⟨.bl _, H, I, rfl, q⟩
  exact z
def rMaxBy (K : PySem.W.Frag) (kp : Addr) (sp : Sp) : List V → List V → Hp → VK → Prop := fun vs zs H Q => ∃ (l : Addr) (xs : List (V × (Int × Int))), vs = [.ref l] ∧ zs = [.ref kp] ∧ SqL K H l (xs.map (·.1)) ∧ 0 < xs.length ∧
  (∀ x ∈ xs, ∀ H1, Same H H1 → ∀ Q1 : VK, (∀ t H2, Same H1 H2 → H1 t = none → H2 t = some (.tup [.int x.2.1, .int x.2.2]) → Q1 (.ref t) H2) → sp [x.1] H1 Q1 E0) ∧
  ∀ (H1 : Hp) (x : V × (Int × Int)), Same H H1 → x ∈ xs → (∀ y ∈ xs, LexP y.2 x.2) → Q x.1 H1
theorem cr_maxBy {k : Nat} {kp : Addr} {sp : Sp} (c : C8.CalAt X.prog X.w X.K X.mg X.base k kp sp) (hr : Room (k + 1) X.A) : CallRK X (.builtin "max") [Str.ofString "key"] (rMaxBy X.K kp sp) := by
  intro pins s σ H vs zs us ws Q I r rz h
  obtain ⟨l, xs, rfl, rfl, hs, hne, hk, q⟩ := h
  obtain rfl := Vals.ref1 r
  obtain ⟨w1, rfl, e1⟩ := vals1 rz
  obtain rfl : w1 = Value.ref kp := e1
  obtain ⟨its0, rv0, hl0, hz0⟩ := I.list hs
  obtain ⟨fd, ps, F, kin, bi⟩ := c.ex
  have FR := F.raw bi .nil
  show wpAny _ _ (call (.builtin "max") [.ref l] [(Str.ofString "key", .ref kp)]) _ _ _
  have hname : (toString "max" ++ toString ".loop" : String) = "max.loop" := by decide
  refine kmk_tree PySem.F.kind_max PySem.F.plain_max PySem.F.entry_max (kmk_max_key _ _) ?_
  show wpAny _ X.A.in1 (Builtin.Builtins.bindParams "max" ["key", "default"] 0 ⟨[], [(Str.ofString "key", .ref kp)]⟩ >>= _) _ _ s
  refine wpAny_bind (wpAny_of_eq (show Builtin.Builtins.bindParams "max" ["key", "default"] 0 ⟨[], [(Str.ofString "key", .ref kp)]⟩ = pure [some (.ref kp), none] from rfl) ?_)
  refine wpAny_bind (wpAny_pure ?_)
  refine wpAny_bind (wpAny_pyIter_list hl0.isList ?_)
  refine wpAny_bind (wpAny_newList ?_ (Nat.zero_le _))
  rw [hname]
  generalize hI0 : s.heap.objs.size = I0
  generalize hh1 : s.heap.push { cls := .type "list_iterator", data := .fields #[.ref l, .int 0 0] } = h1
  have hS0 : h1.objs.size = I0 + 1 := by rw [← hh1, ← hI0]; exact size_push' ..
  generalize hS : h1.objs.size = S at hS0
  have hIS : I0 ≠ S := by omega
  have gI : (h1.push (seqObj "list" #[] 0)).get? I0 = some { cls := .type "list_iterator", data := .fields #[.ref l, .int 0 0] } := by
    refine Heap.get?_push_of_some _ ?_
    rw [← hh1, ← hI0]; exact Heap.get?_push_size _ rfl
  have gS : (h1.push (seqObj "list" #[] 0)).get? S = some (seqObj "list" #[] 0) := by rw [← hS]; exact Heap.get?_push_size _ rfl
  have old : ∀ b o, s.heap.get? b = some o → (h1.push (seqObj "list" #[] 0)).get? b = some o := fun b o e => by
    refine Heap.get?_push_of_some _ ?_
    rw [← hh1]; exact Heap.get?_push_of_some _ e
  have I1 : Inv X pins σ H { s with heap := h1.push (seqObj "list" #[] 0) } := I.kept (t' := s.toks) old
  generalize h1.push (seqObj "list" #[] 0) = h2 at gI gS I1
  have leI : s.heap.objs.size ≤ I0 := by omega
  have leS : s.heap.objs.size ≤ S := by omega
  have fpI : ∀ {H' : Hp}, H' I0 = none → FpOk X pins H' I0 := fun z => I.fpOk leI z
  have fpS : ∀ {H' : Hp}, H' S = none → FpOk X pins H' S := fun z => I.fpOk leS z
  have nst : ∀ b, s.heap.objs.size ≤ b → b ∉ frs X.stack := fun b hb z => by
    have f := I.fpOk (H' := H) hb (I.hok.fresh hb)
    rcases List.mem_cons.mp (I.stkSub b z) with e | e
    · exact f.2.1 e
    · exact f.2.2.1 e
  have HI : H I0 = none := I.hok.fresh leI
  have HS : H S = none := I.hok.fresh leS
  have room1 : X.A.in1.units < cLine := hr.in1.units0
  have step : ∀ (s' : Shared) (H' : Hp) (v : Value) (x : V × (Int × Int)) (oS oI : Obj), Same H H' → Inv X pins σ H' s' → H' S = none → H' I0 = none → x ∈ xs → RelV x.1 v → s'.heap.get? S = some oS → s'.heap.get? I0 = some oI →
      ∀ (Qc : Value → Shared → Prop) (Ec : Value → Shared → Prop), (∀ t H2 s'', Same H' H2 → Inv X pins σ H2 s'' → H2 S = none → H2 I0 = none → s''.heap.get? S = some oS → s''.heap.get? I0 = some oI → H2 t = some (.tup [.int x.2.1, .int x.2.2]) → Qc (.ref t) s'') →
      wpAny (model X.prog X.w) X.A.in1 (call (.ref kp) [v]) Qc Ec s' := by
    intro s' H' v x oS oI sm I' hS' hI' mx rx gS' gI' Qc Ec fin
    have hsp := hk x mx H' sm (fun y H2 => ∃ t, y = .ref t ∧ Same H' H2 ∧ H' t = none ∧ H2 t = some (.tup [.int x.2.1, .int x.2.2])) (fun t H2 s2 t0 et => ⟨t, rfl, s2, t0, et⟩)
    have e0 : Env0 X.prog X.w X.K X.mg X.base X.A.in1 X.stack s' H' := I'.env0.in1
    refine wpAny_call (codeAny_mono (FR X.A.in1 X.stack s' H' [v] [x.1] _ E0 hr.in1 e0 (.cons rx .nil) hsp) fun r s'' hq => ?_)
    cases r with
    | error e => exact False.elim hq
    | ok fl =>
      cases fl with
      | next => exact False.elim hq
      | brk => exact False.elim hq
      | cont => exact False.elim hq
      | ret u =>
        obtain ⟨y, H2, os, bare, un, hok, ry, t, ey, s2, t0, et⟩ := hq
        subst ey
        obtain rfl : u = Value.ref t := ry
        have I2 : Inv X pins σ H2 s'' := I'.call' (ch := []) os un hok bare (fun b z => absurd z (by simp))
        exact fin t H2 s'' s2 I2 (un.free S _ gS' hS' (by simp)) (un.free I0 _ gI' hI' (by simp)) (un.keep S _ gS' hS' (nst S leS) (by simp)) (un.keep I0 _ gI' hI' (nst I0 leI) (by simp)) et
  have loop : ∀ (r j i : Nat) (s' : Shared) (H' : Hp) (vb : Value) (t : Addr) (cc : Nat) (x : V × (Int × Int)), xs.length - (j + 1) = r → j + 1 ≤ xs.length → Same H H' → Inv X pins σ H' s' → H' S = none → H' I0 = none →
      s'.heap.get? S = some (seqObj "list" #[vb, .ref t] cc) → s'.heap.IsListIter I0 l (j + 1) → xs[i]? = some x → RelV x.1 vb → H' t = some (.tup [.int x.2.1, .int x.2.2]) → (∀ j' y, j' ≤ j → xs[j']? = some y → LexP y.2 x.2) →
      codeAny (model X.prog X.w) X.A (.builtin "max.loop" ⟨[.ref I0, .ref kp, .ref S], []⟩) (fun r s' => match r with | .ok (.ret v) => EP X pins σ Q v s' | .ok _ => False | .error e => X.xe e s') s' := by
    intro r
    induction r with
    | zero =>
      intro j i s' H' vb t cc x hr0 hj sm I' hS' hI' gS' hit gx rx et best
      obtain ⟨its, rv, hl, hz⟩ := I'.list (sm.seq hs)
      have ln := rv.length
      rw [List.length_map] at ln
      refine codeAny_builtin PySem.F.entry_max_loop ?_
      rw [Around.under_plainId PySem.F.plain_max_loop _]
      show wpAny _ X.A.in1 (seqItems? (.ref S) >>= _) _ _ _
      refine wpAny_bind (wpAny_seqItems gS' rfl ?_)
      show wpAny _ X.A.in1 (tryCatch (pyNext (.ref I0)) _ >>= _) _ _ _
      refine wpAny_bind (wpAny_tryCatch (wpAny_pyNext_list_end hr.in1.hd hit hl.isList (by simp; omega) fun h3 he => ?_))
      have gS3 : h3.get? S = some (seqObj "list" #[vb, .ref t] cc) := he S _ (fun z => hIS z.symm) gS'
      have I3 : Inv X pins σ H' { s' with heap := h3, toks := s'.toks } := I'.turnedL (ch := [I0]) (fun b o hb e => he b o (fun z => hb (List.mem_singleton.mpr z)) e) (fun b hb => by rw [List.mem_singleton.mp hb]; exact fpI hI')
      show wpAny _ X.A.in1 (updateSeq S (fun _ => #[]) >>= _) _ _ _
      refine wpAny_bind ?_
      refine wpAny_updateSeq gS3 rfl (wpAny_bind (wpAny_letGo (wpAny_pure ?_)))
      have s1 := Heap.SameBut.update h3 S (Obj.mapSeq fun _ => (#[] : Array Value))
      refine ⟨x.1, H', I3.turnedL (ch := [S]) (fun b o hb e => (s1.2 b (fun q => hb (List.mem_singleton.mpr q))).trans e) (fun b hb => by rw [List.mem_singleton.mp hb]; exact fpS hS'), rx, q H' x sm (List.mem_of_getElem? gx) (fun y my => ?_)⟩
      obtain ⟨j', hj', rfl⟩ := List.getElem_of_mem my
      exact best j' _ (by omega) (List.getElem?_eq_getElem hj')
    | succ r ih =>
      intro j i s' H' vb t cc x hr0 hj sm I' hS' hI' gS' hit gx rx et best
      obtain ⟨its, rv, hl, hz⟩ := I'.list (sm.seq hs)
      have ln := rv.length
      rw [List.length_map] at ln
      have hlt : j + 1 < xs.length := by omega
      obtain ⟨y, gy⟩ : ∃ y, xs[j + 1]? = some y := ⟨_, List.getElem?_eq_getElem hlt⟩
      obtain ⟨v, hv, ry⟩ := rv.get (show (xs.map (·.1))[j + 1]? = some y.1 by rw [List.getElem?_map, gy]; rfl)
      refine codeAny_builtin PySem.F.entry_max_loop ?_
      rw [Around.under_plainId PySem.F.plain_max_loop _]
      show wpAny _ X.A.in1 (seqItems? (.ref S) >>= _) _ _ _
      refine wpAny_bind (wpAny_seqItems gS' rfl ?_)
      show wpAny _ X.A.in1 (tryCatch (pyNext (.ref I0)) _ >>= _) _ _ _
      refine wpAny_bind (wpAny_tryCatch (wpAny_pyNext_list_item hit hl.isList (x := v) (by simpa using hv) fun h3 hit3 sb => ?_))
      have gS3 : h3.get? S = some (seqObj "list" #[vb, .ref t] cc) := (sb.2 S (fun z => hIS z.symm)).trans gS'
      have I3 : Inv X pins σ H' { s' with heap := h3, toks := s'.toks } := I'.turnedL (ch := [I0]) (fun b o hb e => (sb.2 b (fun z => hb (List.mem_singleton.mpr z))).trans e) (fun b hb => by rw [List.mem_singleton.mp hb]; exact fpI hI')
      obtain ⟨oI, goI, coI, doI⟩ := id hit3
      show wpAny _ X.A.in1 (tryCatch (holding [v] (call (.ref kp) [v])) _ >>= _) _ _ _
      refine wpAny_bind (wpAny_tryCatch (wpAny_holding (step _ H' v y _ oI sm I3 hS' hI' (List.mem_of_getElem? gy) ry gS3 goI _ _ fun t2 H2 s'' s2 I2 hS2 hI2 gS2 goI2 et2 => ?_)))
      have gt := pair_gt (A := X.A.in1) I2 et2 (s2 _ _ et) room1
      show wpAny _ X.A.in1 (tryCatch (holding [v, .ref t2] (richCompare .Gt (.ref t2) (.ref t) >>= _)) _ >>= _) _ _ _
      refine wpAny_bind (wpAny_tryCatch (wpAny_holding (wpAny_bind (gt _ _ _ _ ?_))))
      refine wpAny_bind (wpAny_holding (wpAny_truthy_bool ?_))
      refine wpAny_bind (wpAny_letGo (wpAny_pure ?_))
      by_cases hg : x.2.1 < y.2.1 ∨ (x.2.1 = y.2.1 ∧ x.2.2 < y.2.2)
      · rw [decide_eq_true hg]
        simp only [if_true]
        refine wpAny_bind ?_
        refine wpAny_updateSeq gS2 rfl (wpAny_bind (wpAny_letGo ?_))
        rw [hname]
        have s1 := Heap.SameBut.update s''.heap S (Obj.mapSeq fun _ => #[v, .ref t2])
        obtain ⟨c2, hc2⟩ : ∃ c2, (s''.heap.update S (Obj.mapSeq fun _ => #[v, .ref t2])).get? S = some (seqObj "list" #[v, .ref t2] c2) := ⟨_, get?_update_seq gS2 fun _ => #[v, .ref t2]⟩
        have I4 : Inv X pins σ H2 { s'' with heap := s''.heap.update S (Obj.mapSeq fun _ => #[v, .ref t2]), toks := s''.toks } := I2.turnedL (ch := [S]) (fun b o hb e => (s1.2 b (fun q => hb (List.mem_singleton.mpr q))).trans e) (fun b hb => by rw [List.mem_singleton.mp hb]; exact fpS hS2)
        refine wpAny_pure ⟨plainId_quiet PySem.F.plain_max_loop _, ih (j + 1) (j + 1) _ H2 v t2 c2 y (by omega) hlt (sm.trans s2) I4 hS2 hI2 hc2 ⟨oI, (s1.2 _ hIS).trans goI2, coI, doI⟩ gy ry et2 fun j' z hj' gz => ?_⟩
        rcases Nat.lt_or_ge j' (j + 1) with l1 | l1
        · have := best j' z (by omega) gz
          unfold LexP at *
          omega
        · have e : j' = j + 1 := by omega
          rw [e, gy] at gz
          cases gz
          exact .inr ⟨rfl, Int.le_refl _⟩
      · rw [decide_eq_false hg]
        simp only [Bool.false_eq_true, if_false]
        refine wpAny_bind (wpAny_letGo ?_)
        rw [hname]
        refine wpAny_pure ⟨plainId_quiet PySem.F.plain_max_loop _, ih (j + 1) i s'' H2 vb t cc x (by omega) hlt (sm.trans s2) I2 hS2 hI2 gS2 ⟨oI, goI2, coI, doI⟩ gx rx (s2 _ _ et) fun j' z hj' gz => ?_⟩
        rcases Nat.lt_or_ge j' (j + 1) with l1 | l1
        · exact best j' z (by omega) gz
        · have e : j' = j + 1 := by omega
          rw [e, gy] at gz
          cases gz
          unfold LexP
          omega
  obtain ⟨x0, g0⟩ : ∃ y, xs[0]? = some y := ⟨_, List.getElem?_eq_getElem hne⟩
  refine wpAny_pure ⟨plainId_quiet PySem.F.plain_max_loop _, ?_⟩
  obtain ⟨its, rv, hl, hz⟩ := I1.list hs
  obtain ⟨v, hv, rx0⟩ := rv.get (show (xs.map (·.1))[0]? = some x0.1 by rw [List.getElem?_map, g0]; rfl)
  refine codeAny_builtin PySem.F.entry_max_loop ?_
  rw [Around.under_plainId PySem.F.plain_max_loop _]
  show wpAny _ X.A.in1 (seqItems? (.ref S) >>= _) _ _ _
  refine wpAny_bind (wpAny_seqItems gS rfl ?_)
  show wpAny _ X.A.in1 (tryCatch (pyNext (.ref I0)) _ >>= _) _ _ _
  refine wpAny_bind (wpAny_tryCatch (wpAny_pyNext_list_item (i := 0) ⟨_, gI, rfl, rfl⟩ hl.isList (x := v) (by simpa using hv) fun h3 hit3 sb => ?_))
  have gS3 : h3.get? S = some (seqObj "list" #[] 0) := (sb.2 S (fun z => hIS z.symm)).trans gS
  have I3 : Inv X pins σ H { ({ s with heap := h2 } : Shared) with heap := h3, toks := s.toks } := I1.turnedL (ch := [I0]) (fun b o hb e => (sb.2 b (fun z => hb (List.mem_singleton.mpr z))).trans e) (fun b hb => by rw [List.mem_singleton.mp hb]; exact fpI HI)
  obtain ⟨oI, goI, coI, doI⟩ := id hit3
  show wpAny _ X.A.in1 (tryCatch (holding [v] (call (.ref kp) [v])) _ >>= _) _ _ _
  refine wpAny_bind (wpAny_tryCatch (wpAny_holding (step _ H v x0 _ oI (Same.refl _) I3 HS HI (List.mem_of_getElem? g0) rx0 gS3 goI _ _ fun t2 H2 s'' s2 I2 hS2 hI2 gS2 goI2 et2 => ?_)))
  show wpAny _ X.A.in1 (updateSeq S (fun _ => #[v, .ref t2]) >>= _) _ _ _
  refine wpAny_bind ?_
  refine wpAny_updateSeq gS2 rfl ?_
  rw [hname]
  have s1 := Heap.SameBut.update s''.heap S (Obj.mapSeq fun _ => #[v, .ref t2])
  obtain ⟨c2, hc2⟩ : ∃ c2, (s''.heap.update S (Obj.mapSeq fun _ => #[v, .ref t2])).get? S = some (seqObj "list" #[v, .ref t2] c2) := ⟨_, get?_update_seq gS2 fun _ => #[v, .ref t2]⟩
  have I4 : Inv X pins σ H2 { s'' with heap := s''.heap.update S (Obj.mapSeq fun _ => #[v, .ref t2]), toks := s''.toks } := I2.turnedL (ch := [S]) (fun b o hb e => (s1.2 b (fun q => hb (List.mem_singleton.mpr q))).trans e) (fun b hb => by rw [List.mem_singleton.mp hb]; exact fpS hS2)
  refine wpAny_pure ⟨plainId_quiet PySem.F.plain_max_loop _, loop _ 0 0 _ H2 v t2 c2 x0 rfl hne s2 I4 hS2 hI2 hc2 ⟨oI, (s1.2 _ hIS).trans goI2, coI, doI⟩ g0 rx0 et2 fun j' z hj' gz => ?_⟩
  have e : j' = 0 := by omega
  rw [e, g0] at gz
  cases gz
  exact .inr ⟨rfl, Int.le_refl _⟩
end

/-! ### list(d.values()).count(x): rules -/
section
variable {X : Cx}
theorem mt_dvals : MtR X "dict.values" (fun x xs H Q => ∃ (a : Addr) (kvs : List (Key × V)), x = .ref a ∧ xs = [] ∧ H a = some (.dK kvs) ∧ ∀ p, H p = none → Q (.ref p) (upd H p (viewO "dict_values" p a))) := by
  intro pins s σ H x xs v us Q I rx rxs h
  obtain ⟨a, kvs, rfl, rfl, ha, q⟩ := h
  cases rx
  cases rxs
  obtain ⟨_, hsys, vs, rel, dof⟩ := dk_of I.hok ha
  obtain ⟨ep, dat⟩ := dof.dictAt
  have dat' := dat
  obtain ⟨ob, es, ho, ex, hdat, hko, hpr, hnd⟩ := dat'
  refine call_meetsIn F.slot_dict_values ⟨ob, ho, ex.1⟩ F.entry_dict_values (F.args_dict_values_1 _) (meets_dict_values (mixKind X.prog X.w) a hsys) ⟨⟨vs, dof⟩, ?_⟩
  exact ⟨.ref s.heap.objs.size, _, I.laid (t' := s.toks) (fun b o q => Heap.get?_push_of_some _ q) (Nat.le_refl _) (viewO_ok (Heap.get?_push_size _ rfl)), rfl, q _ (I.hok.fresh (Nat.le_refl _))⟩
theorem call_listVals (hcalm : X.calm = true) : CallR X (.type "list") (fun xs H Q => ∃ (p a : Addr) (kvs : List (Key × V)), xs = [.ref p] ∧ H p = some (viewO "dict_values" p a) ∧ H a = some (.dK kvs) ∧ ∀ l, H l = none → Q (.ref l) (upd H l (.lst (kvs.map (·.2))))) := by
  intro pins s σ H xs us Q I r q
  obtain ⟨p, a, kvs, ex, hp, hd, q⟩ := q
  subst ex
  obtain ⟨u, eu, rx⟩ := vals1 r
  subst eu
  cases rx
  obtain ⟨z, lo, vs, rel, dd⟩ := dk_of I.hok hd
  obtain ⟨ep, hat⟩ := dd.dictAt
  have hv : s.heap.get? p = some (DSub.viewOb "dict_values" a) := (show ObjOk X.prog X.w H s.heap p (viewO "dict_values" p a) from I.hok p _ hp).1
  refine PySem.W.kdl_call (PySem.W.kdl_values (knd := mixKind X.prog X.w) (kvs := vs) (ep := ep)) (I.ok.hd hcalm) ⟨⟨_, hv, rfl, rfl⟩, hat⟩ (by rw [← rel.length]; exact z) fun h' tk acc c' hk hD hacc => ?_
  have hvv : Vals (kvs.map (·.2)) acc.toList := vals_of_at (by have e1 := hacc.1; have e2 := rel.length; rw [List.length_map, Array.length_toList]; exact e2.trans e1.symm) fun j x u hx hu => by
    obtain ⟨k, hk⟩ := hacc.2 j u (by rw [← Array.getElem?_toList]; exact hu)
    obtain ⟨y, h1, h2⟩ := KV.at' rel hk
    rw [List.getElem?_map, h1] at hx
    cases hx
    exact h2
  exact ⟨.ref s.heap.objs.size, upd H s.heap.objs.size (.lst (kvs.map (·.2))), I.laid (t' := tk) hk (Nat.le_refl _)
    (show ObjOk X.prog X.w _ _ _ (.lst (kvs.map (·.2))) from ⟨by rw [List.length_map]; exact z, acc.toList, c', hvv, by rw [Array.toArray_toList]; exact hD⟩), rfl, q _ (I.hok.fresh (Nat.le_refl _))⟩
def rCountD (K : PySem.W.Frag) : V → List V → Hp → VK → Prop := fun x xs H Q => ∃ (a : Addr) (y : V) (d : PyData) (ds : List PyData), x = V.ref a ∧ xs = [y] ∧ Dp K H (V.ref a) (.list ds) ∧ Dp K H y d ∧
  SeqAt.shaped (.list ds) = true ∧ SeqAt.shaped d = true ∧ Q (.int ((ds.countP fun z => PyData.eqv z d : Nat) : Int)) H
theorem mt_lcountD (hu : X.A.units + 65 < cLine) : MtR X "list.count" (rCountD X.K) := by
  intro pins s σ H x xs v us Q I rx rxs h
  obtain ⟨a, y, d, ds, rfl, rfl, hl, hy, sl, sd, q⟩ := h
  cases rx
  cases rxs with
  | cons ry rt =>
    rename_i uy ut
    cases rt
    obtain ⟨bs, r1⟩ := Dp.reads I d y uy hy ry
    have hxs : PyData.canLayAll0 ds = true := SeqAt.canLay_of_shaped sl
    have hroom : X.A.units + 1 + min (PyData.depthAll ds) d.depth < cLine := room_in_shaped sd hu
    cases hl with
    | lst hs ha =>
      obtain ⟨its, rv, ⟨⟨cls, dd, data, sls⟩, n, ho, hc, hdn, hdt⟩, hlen⟩ := I.list hs
      simp only at hc hdt
      subst hc hdt
      obtain ⟨as, h4⟩ := Dp.readsAll I ds _ its ha rv
      have hmap : its.map (SeqAt.readOf s.heap) = ds := SeqAt.readsAll_map ds its as hxs h4
      refine call_meets PySem.F.slot_list_count ⟨_, ho, rfl⟩ PySem.F.entry_list_count (PySem.F.args_list_count_2 _ _)
        (SeqAt.list_countAt a its.toArray n dd sls uy (fun u => PyData.eqv (SeqAt.readOf s.heap u) d)) ⟨ho, SeqAt.items_eqAt (vs := its.toArray) (show ReadsAll s.heap its.toArray.toList ds as from h4) r1 hxs (SeqAt.canLay_of_shaped sd) hroom, ?_⟩
      have ec : its.toArray.toList.countP (fun u => PyData.eqv (SeqAt.readOf s.heap u) d) = ds.countP fun z => PyData.eqv z d := by
        rw [← hmap, List.countP_map]; rfl
      refine ⟨.int ((ds.countP fun z => PyData.eqv z d : Nat) : Int), H, I.tok _, ⟨s.toks, ?_⟩, q⟩
      show Value.int ((its.toArray.toList.countP (fun u => PyData.eqv (SeqAt.readOf s.heap u) d) : Nat) : Int) s.toks = Value.int _ s.toks
      rw [ec]
end

/-! ### the draws of a script -/
def Dr (H : Hp) (D A : Addr) : Prop := D ≠ A ∧ ∃ (ds : List Int) (n : Nat), H D = some (.lst (ds.map V.int)) ∧ H A = some (.lst [.int n]) ∧ (∀ d ∈ ds, 0 ≤ d ∧ d < 1000) ∧ ds.length ≤ 2520
/-- all that was tracked but A is as it was -/
def Mod (A : Addr) (H H' : Hp) : Prop := ∀ b o, b ≠ A → H b = some o → H' b = some o
theorem Mod.refl {A : Addr} {H : Hp} : Mod A H H := fun _ _ _ h => h
theorem Mod.trans {A : Addr} {H H1 H2 : Hp} (a : Mod A H H1) (b : Mod A H1 H2) : Mod A H H2 := fun c o n h => b c o n (a c o n h)
theorem Same.mod {A : Addr} {H H' : Hp} (s : Same H H') : Mod A H H' := fun b o _ h => s b o h
theorem Mod.new {A p : Addr} {o : HO} {H H' : Hp} (s : Mod A H H') (h : H' p = none) : Mod A H (upd H' p o) := fun b u n e => by
  rw [upd_ne (ne_of_none (s b u n e) h)]
  exact s b u n e
theorem Dr.new {D A p : Addr} {o : HO} {H : Hp} (d : Dr H D A) (h : H p = none) : Dr (upd H p o) D A := by
  obtain ⟨ne, ds, n, h1, h2, h3⟩ := d
  exact ⟨ne, ds, n, by rw [upd_ne (ne_of_none h1 h)]; exact h1, by rw [upd_ne (ne_of_none h2 h)]; exact h2, h3⟩
theorem Dr.same {D A : Addr} {H H' : Hp} (d : Dr H D A) (s : Same H H') : Dr H' D A := by
  obtain ⟨ne, ds, n, h1, h2, h3⟩ := d
  exact ⟨ne, ds, n, s _ _ h1, s _ _ h2, h3⟩
/-- an object that is neither D nor A is changed -/
theorem Dr.put {D A p : Addr} {o : HO} {H : Hp} (d : Dr H D A) (h1 : p ≠ D) (h2 : p ≠ A) : Dr (upd H p o) D A := by
  obtain ⟨ne, ds, n, e1, e2, h3⟩ := d
  exact ⟨ne, ds, n, by rw [upd_ne h1.symm]; exact e1, by rw [upd_ne h2.symm]; exact e2, h3⟩
theorem Dr.freshA {D A p : Addr} {H : Hp} (d : Dr H D A) (h : H p = none) : p ≠ A := by
  obtain ⟨_, _, _, _, e, _⟩ := d
  exact (ne_of_none e h).symm
theorem Dr.freshD {D A p : Addr} {H : Hp} (d : Dr H D A) (h : H p = none) : p ≠ D := by
  obtain ⟨_, _, _, e, _⟩ := d
  exact (ne_of_none e h).symm
theorem Mod.free {A p : Addr} {H H' : Hp} (s : Mod A H H') (d : ∃ o, H' A = some o) (h : H' p = none) : H p = none := by
  cases e : H p with
  | none => rfl
  | some o =>
    by_cases hp : p = A
    · subst hp
      obtain ⟨o', e'⟩ := d
      rw [e'] at h; cases h
    · rw [s p o hp e] at h; cases h
theorem Dr.A_in {D A : Addr} {H : Hp} (d : Dr H D A) : ∃ o, H A = some o := by
  obtain ⟨_, _, _, _, e, _⟩ := d
  exact ⟨_, e⟩
theorem rng_app {ds : List Int} {x : Int} (h : ∀ d ∈ ds, 0 ≤ d ∧ d < 1000) (h0 : 0 ≤ x) (h1 : x < 1000) : ∀ d ∈ ds ++ [x], 0 ≤ d ∧ d < 1000 := fun d hd => by
  rcases List.mem_append.mp hd with hd | hd
  · exact h d hd
  · rw [List.mem_singleton.mp hd]; exact ⟨h0, h1⟩

/-! ### drawn numbers and strings -/
def prC (c : Nat) : Bool := decide (32 ≤ c) && decide (c ≤ 126) && decide (c ≠ 37)
def isPr (z : Str) : Bool := z.cps.toList.all prC
theorem app_tl (a b : Str) : (a ++ b).cps.toList = a.cps.toList ++ b.cps.toList := by
  show (a.cps ++ b.cps).toList = _
  rw [Array.toList_append]
theorem len_tl (z : Str) : z.cps.toList.length = z.length := Array.length_toList
theorem isPr_app (a b : Str) : isPr (a ++ b) = (isPr a && isPr b) := by
  unfold isPr
  rw [app_tl, List.all_append]

/-! ### values as data: what stands at them does not change -/
def TupAt (K : PySem.W.Frag) (H : Hp) (a : Addr) (xs : List V) : Prop := H a = some (.tup xs) ∨ KTup K a xs
section
variable {K : PySem.W.Frag}
theorem TupAt.sq {H : Hp} {a : Addr} {xs : List V} (h : TupAt K H a xs) : SqT K H a xs := h.elim SqT.of .inr
theorem TupAt.ty {H : Hp} {a : Addr} {xs : List V} (h : TupAt K H a xs) : TyX K H (.ref a) (.type "tuple") := h.elim (fun h => .base (.tup h)) (fun ⟨_, _, _, h1, h2, _⟩ => .kTuple h1 h2)
theorem TupAt.same {H H' : Hp} {a : Addr} {xs : List V} (h : TupAt K H a xs) (s : Same H H') : TupAt K H' a xs := h.imp (s _ _) id
/-- none of those at A (none: no matter) -/
def NeA (A : Option Addr) (a : Addr) : Prop := match A with | some b => a ≠ b | none => True
mutual
/-- v is the data d; the lists in it are none of those at A -/
inductive Dt (K : PySem.W.Frag) (H : Hp) (A : Option Addr) : V → PyData → Prop
  | non : Dt K H A .non .none
  | bl (b : Bool) : Dt K H A (.bl b) (.bool b)
  | int (i : Int) : Dt K H A (.int i) (.int i)
  | str (z : Str) (h : z.length ≤ 1000000) : Dt K H A (.str z) (.str z)
  | lst {a : Addr} {xs : List V} {ds : List PyData} : NeA A a → H a = some (.lst xs) → DtAll K H A xs ds → Dt K H A (.ref a) (.list ds)
  | tup {a : Addr} {xs : List V} {ds : List PyData} : TupAt K H a xs → DtAll K H A xs ds → Dt K H A (.ref a) (.tuple ds)
inductive DtAll (K : PySem.W.Frag) (H : Hp) (A : Option Addr) : List V → List PyData → Prop
  | nil : DtAll K H A [] []
  | cons {v : V} {vs : List V} {d : PyData} {ds : List PyData} : Dt K H A v d → DtAll K H A vs ds → DtAll K H A (v :: vs) (d :: ds)
end
theorem DtAll.length {H : Hp} {A : Option Addr} : ∀ {xs : List V} {ds : List PyData}, DtAll K H A xs ds → xs.length = ds.length
  | _, _, .nil => rfl
  | _, _, .cons _ r => by rw [List.length_cons, List.length_cons, r.length]
theorem DtAll.get {H : Hp} {A : Option Addr} : ∀ {xs : List V} {ds : List PyData} {i : Nat} {x : V}, DtAll K H A xs ds → xs[i]? = some x → ∃ d, ds[i]? = some d ∧ Dt K H A x d
  | _, _, _, _, .nil, e => by simp at e
  | _, _, 0, x, .cons h _, e => by simp at e; subst e; exact ⟨_, rfl, h⟩
  | _, _, i + 1, x, .cons _ r, e => by
    obtain ⟨d, h1, h2⟩ := r.get (i := i) (x := x) (by simpa using e)
    exact ⟨d, by simpa using h1, h2⟩
theorem DtAll.getD {H : Hp} {A : Option Addr} {xs : List V} {ds : List PyData} {i : Nat} {d : PyData} (h : DtAll K H A xs ds) (e : ds[i]? = some d) : ∃ x, xs[i]? = some x ∧ Dt K H A x d := by
  have hi : i < ds.length := (List.getElem?_eq_some_iff.mp e).1
  have hi' : i < xs.length := by rw [h.length]; exact hi
  obtain ⟨d', h1, h2⟩ := h.get (List.getElem?_eq_getElem hi')
  rw [e] at h1
  cases h1
  exact ⟨_, List.getElem?_eq_getElem hi', h2⟩
mutual
theorem Dt.mod {H H' : Hp} {A D : Addr} (s : Mod A H H') (dr : Dr H D A) : ∀ (d : PyData) (v : V), Dt K H (some A) v d → Dt K H' (some A) v d
  | .none, _, h => by cases h; exact .non
  | .bool b, _, h => by cases h; exact .bl b
  | .int i, _, h => by cases h; exact .int i
  | .str z, _, h => by cases h with | str _ hz => exact .str z hz
  | .list ds, _, h => by cases h with | lst hn ha hd => exact .lst hn (s _ _ hn ha) (DtAll.mod s dr ds _ hd)
  | .tuple ds, _, h => by
    cases h with
    | tup ha hd =>
      obtain ⟨_, _, _, _, e, _⟩ := id dr
      exact .tup (ha.imp (fun ha => s _ _ (ne_of ha e (by intro z; cases z)) ha) id) (DtAll.mod s dr ds _ hd)
  | .dict _, _, h => by cases h
theorem DtAll.mod {H H' : Hp} {A D : Addr} (s : Mod A H H') (dr : Dr H D A) : ∀ (ds : List PyData) (xs : List V), DtAll K H (some A) xs ds → DtAll K H' (some A) xs ds
  | [], _, h => by cases h; exact .nil
  | d :: ds, _, h => by cases h with | cons h1 h2 => exact .cons (Dt.mod s dr d _ h1) (DtAll.mod s dr ds _ h2)
end
mutual
theorem Dt.same {H H' : Hp} {A : Option Addr} (s : Same H H') : ∀ (d : PyData) (v : V), Dt K H A v d → Dt K H' A v d
  | .none, _, h => by cases h; exact .non
  | .bool b, _, h => by cases h; exact .bl b
  | .int i, _, h => by cases h; exact .int i
  | .str z, _, h => by cases h with | str _ hz => exact .str z hz
  | .list ds, _, h => by cases h with | lst hn ha hd => exact .lst hn (s _ _ ha) (DtAll.same s ds _ hd)
  | .tuple ds, _, h => by cases h with | tup ha hd => exact .tup (ha.same s) (DtAll.same s ds _ hd)
  | .dict _, _, h => by cases h
theorem DtAll.same {H H' : Hp} {A : Option Addr} (s : Same H H') : ∀ (ds : List PyData) (xs : List V), DtAll K H A xs ds → DtAll K H' A xs ds
  | [], _, h => by cases h; exact .nil
  | d :: ds, _, h => by cases h with | cons h1 h2 => exact .cons (Dt.same s d _ h1) (DtAll.same s ds _ h2)
end
mutual
/-- data for a comparison -/
theorem Dt.dp {H : Hp} {A : Option Addr} : ∀ (d : PyData) (v : V), Dt K H A v d → Dp K H v d
  | .none, _, h => by cases h; exact .non
  | .bool b, _, h => by cases h; exact .bl b
  | .int i, _, h => by cases h; exact .int i
  | .str z, _, h => by cases h; exact .str z
  | .list ds, _, h => by cases h with | lst hn ha hd => exact .lst (SqL.of ha) (DtAll.dp ds _ hd)
  | .tuple ds, _, h => by cases h with | tup ha hd => exact .tup ha.sq (DtAll.dp ds _ hd)
  | .dict _, _, h => by cases h
theorem DtAll.dp {H : Hp} {A : Option Addr} : ∀ (ds : List PyData) (xs : List V), DtAll K H A xs ds → DpAll K H xs ds
  | [], _, h => by cases h; exact .nil
  | d :: ds, _, h => by cases h with | cons h1 h2 => exact .cons (Dt.dp d _ h1) (DtAll.dp ds _ h2)
end
theorem Dt.on {H H' : Hp} {A : Option Addr} {v : V} {d : PyData} (h : Dt K H A v d) (s : Same H H') : Dt K H' A v d := Dt.same s d v h
theorem DtAll.on {H H' : Hp} {A : Option Addr} {xs : List V} {ds : List PyData} (h : DtAll K H A xs ds) (s : Same H H') : DtAll K H' A xs ds := DtAll.same s ds xs h
theorem Dt.by {H H' : Hp} {A D : Addr} {v : V} {d : PyData} (h : Dt K H (some A) v d) (s : Mod A H H') (dr : Dr H D A) : Dt K H' (some A) v d := Dt.mod s dr d v h
theorem DtAll.by {H H' : Hp} {A D : Addr} {xs : List V} {ds : List PyData} (h : DtAll K H (some A) xs ds) (s : Mod A H H') (dr : Dr H D A) : DtAll K H' (some A) xs ds := DtAll.mod s dr ds xs h
theorem Dt.two {H : Hp} {A : Option Addr} {v : V} {d : PyData} (h : Dt K H A v d) : (∃ a xs ds, v = .ref a ∧ d = .tuple ds ∧ TupAt K H a xs ∧ DtAll K H A xs ds) ∨ (∃ T, TyX K H v (.type T) ∧ kitB T "tuple" = some false ∧ ∀ ds, d ≠ .tuple ds) := by
  cases h with
  | tup ha hx => exact .inl ⟨_, _, _, rfl, rfl, ha, hx⟩
  | str z hz => exact .inr ⟨_, .base (.str z), by decide +kernel, fun _ z => nomatch z⟩
  | int i => exact .inr ⟨_, .base (.int i), by decide +kernel, fun _ z => nomatch z⟩
  | non => exact .inr ⟨_, .base .non, by decide +kernel, fun _ z => nomatch z⟩
  | bl b => exact .inr ⟨_, .base (.bl b), by decide +kernel, fun _ z => nomatch z⟩
  | lst _ ha _ => exact .inr ⟨_, .base (.lst ha), by decide +kernel, fun _ z => nomatch z⟩
/-- the kind of a value -/
def dTy : PyData → String
  | .none => "NoneType" | .bool _ => "bool" | .int _ => "int" | .str _ => "str" | .list _ => "list" | .tuple _ => "tuple" | .dict _ => "dict"
theorem Dt.ty {H : Hp} {A : Option Addr} {v : V} {d : PyData} (h : Dt K H A v d) : TyX K H v (.type (dTy d)) := by
  cases h with
  | non => exact .base .non
  | bl b => exact .base (.bl b)
  | int i => exact .base (.int i)
  | str z _ => exact .base (.str z)
  | lst _ ha _ => exact .base (.lst ha)
  | tup ha _ => exact ha.ty
/-! the predicates of the program, upon data -/
def dInt (lo hi : Int) : PyData → Bool
  | .int i => decide (lo ≤ i ∧ i ≤ hi)
  | _ => false
def dShort (m : Int) : PyData → Bool
  | .str z => isPr z && decide ((z.length : Int) ≤ m)
  | _ => false
def dCmd : PyData → Bool
  | .tuple [c, n, t] => dInt (-100) (-1) c && dInt 1 1000000000000 n && dShort 240 t
  | _ => false
def dClient : PyData → Int
  | .tuple (.int c :: _) => c
  | _ => 0
def dAfter : Option Int → PyData → Bool
  | some k, d => decide (k < dClient d)
  | none, _ => true
def befV : Option Int → V
  | some k => .int k
  | none => .non
def dCmdsFrom : Option Int → List PyData → Bool
  | _, [] => true
  | b, d :: r => dCmd d && dAfter b d && dCmdsFrom (some (dClient d)) r
theorem dCmdsFrom_cons (b : Option Int) (d : PyData) (r : List PyData) : dCmdsFrom b (d :: r) = (dCmd d && dAfter b d && dCmdsFrom (some (dClient d)) r) := by cases b <;> rfl
theorem dCmdsFrom_nil (b : Option Int) : dCmdsFrom b [] = true := by cases b <;> rfl
def dCmds : PyData → Bool
  | .tuple ds => dCmdsFrom none ds
  | _ => false
def dHeight (parent : Int) (h : PyData) : Bool := if parent = 0 then dInt 1 1 h else dInt 2 (parent + 1) h
def dBlock4 (e p h cs : PyData) : Bool := match e, p with
  | .int e, .int p => dInt 1 1000000000000 (.int e) && dInt 0 (e - 1) (.int p) && dHeight p h && dCmds cs
  | _, _ => false
def dBlock : PyData → Bool
  | .tuple [e, p, h, cs] => dBlock4 e p h cs
  | _ => false
def dEmpty : PyData → Bool
  | .tuple [] => true
  | _ => false
def dGen : PyData → Bool
  | .tuple [e, p, h, cs] => dInt 0 0 e && dInt 0 0 p && dInt 0 0 h && dEmpty cs
  | _ => false
theorem DtAll.four {H : Hp} {A : Option Addr} {xs : List V} {ds : List PyData} (h : DtAll K H A xs ds) (hl : xs.length = 4) :
    ∃ x1 x2 x3 x4 d1 d2 d3 d4, xs = [x1, x2, x3, x4] ∧ ds = [d1, d2, d3, d4] ∧ Dt K H A x1 d1 ∧ Dt K H A x2 d2 ∧ Dt K H A x3 d3 ∧ Dt K H A x4 d4 := by
  match xs, ds, h with
  | [_, _, _, _], _, .cons h1 (.cons h2 (.cons h3 (.cons h4 .nil))) => exact ⟨_, _, _, _, _, _, _, _, rfl, rfl, h1, h2, h3, h4⟩
theorem dBlock4_e1 {e p h cs : PyData} (z : dInt 1 1000000000000 e = false) : dBlock4 e p h cs = false := by
  unfold dBlock4
  split
  · rw [z]; rfl
  · rfl
theorem dBlock4_e2 {e : Int} {p h cs : PyData} (z : dInt 0 (e - 1) p = false) : dBlock4 (.int e) p h cs = false := by
  unfold dBlock4
  split
  · rename_i h1
    cases h1
    rw [z, Bool.and_false]; rfl
  · rfl
/-- a predicate of one value, kept by growing heaps -/
def spPred (K : PySem.W.Frag) (A : Option Addr) (f : PyData → Bool) : Sp := fun vs H Q _ => ∃ (v : V) (d : PyData), vs = [v] ∧ Dt K H A v d ∧ ∀ H', Same H H' → Q (.bl (f d)) H'
def spIntD (K : PySem.W.Frag) (A : Option Addr) : Sp := fun vs H Q _ => ∃ (v : V) (d : PyData) (lo hi : Int), vs = [v, .int lo, .int hi] ∧ Dt K H A v d ∧ Q (.bl (dInt lo hi d)) H
def spShortD (K : PySem.W.Frag) (A : Option Addr) : Sp := fun vs H Q _ => ∃ (v : V) (d : PyData) (m : Int), vs = [v, .int m] ∧ Dt K H A v d ∧ ∀ H', Same H H' → Q (.bl (dShort m d)) H'
theorem dInt_inv {lo hi : Int} {d : PyData} (h : dInt lo hi d = true) : ∃ i, d = .int i ∧ lo ≤ i ∧ i ≤ hi := by
  cases d with
  | int i =>
    have h : decide (lo ≤ i ∧ i ≤ hi) = true := h
    exact ⟨i, rfl, (of_decide_eq_true h).1, (of_decide_eq_true h).2⟩
  | none => cases h
  | bool b => cases h
  | str z => cases h
  | list ds => cases h
  | tuple ds => cases h
  | dict k => cases h
theorem dShort_inv {m : Int} {d : PyData} (h : dShort m d = true) : ∃ z : Str, d = .str z ∧ isPr z = true ∧ (z.length : Int) ≤ m := by
  cases d with
  | str z =>
    have h : (isPr z && decide ((z.length : Int) ≤ m)) = true := h
    obtain ⟨h1, h2⟩ := Bool.and_eq_true_iff.mp h
    exact ⟨z, rfl, h1, of_decide_eq_true h2⟩
  | none => cases h
  | bool b => cases h
  | int i => cases h
  | list ds => cases h
  | tuple ds => cases h
  | dict k => cases h
theorem dCmd_inv {d : PyData} (h : dCmd d = true) : ∃ (c n : Int) (t : Str), d = .tuple [.int c, .int n, .str t] ∧ -100 ≤ c ∧ c ≤ -1 ∧ 1 ≤ n ∧ n ≤ 1000000000000 ∧ isPr t = true ∧ (t.length : Int) ≤ 240 := by
  unfold dCmd at h
  split at h
  · rename_i c n t
    rw [Bool.and_eq_true, Bool.and_eq_true] at h
    obtain ⟨⟨h1, h2⟩, h3⟩ := h
    obtain ⟨c, rfl, c0, c1⟩ := dInt_inv h1
    obtain ⟨n, rfl, n0, n1⟩ := dInt_inv h2
    obtain ⟨t, rfl, t0, t1⟩ := dShort_inv h3
    exact ⟨c, n, t, rfl, c0, c1, n0, n1, t0, t1⟩
  · cases h
/-- what a tuple of three ints, ints, texts stands for -/
theorem Dt.three {H : Hp} {A : Option Addr} {v : V} {d1 d2 d3 : PyData} (h : Dt K H A v (.tuple [d1, d2, d3])) : ∃ a x1 x2 x3, v = .ref a ∧ TupAt K H a [x1, x2, x3] ∧ Dt K H A x1 d1 ∧ Dt K H A x2 d2 ∧ Dt K H A x3 d3 := by
  cases h with
  | tup ha hd =>
    cases hd with
    | cons h1 hd =>
      cases hd with
      | cons h2 hd =>
        cases hd with
        | cons h3 hd =>
          cases hd
          exact ⟨_, _, _, _, rfl, ha, h1, h2, h3⟩
mutual
theorem Dt.any {H : Hp} {A : Option Addr} : ∀ (d : PyData) (v : V), Dt K H A v d → Dt K H none v d
  | .none, _, h => by cases h; exact .non
  | .bool b, _, h => by cases h; exact .bl b
  | .int i, _, h => by cases h; exact .int i
  | .str z, _, h => by cases h with | str _ hz => exact .str z hz
  | .list ds, _, h => by cases h with | lst hn ha hd => exact .lst trivial ha (DtAll.any ds _ hd)
  | .tuple ds, _, h => by cases h with | tup ha hd => exact .tup ha (DtAll.any ds _ hd)
  | .dict _, _, h => by cases h
theorem DtAll.any {H : Hp} {A : Option Addr} : ∀ (ds : List PyData) (xs : List V), DtAll K H A xs ds → DtAll K H none xs ds
  | [], _, h => by cases h; exact .nil
  | d :: ds, _, h => by cases h with | cons h1 h2 => exact .cons (Dt.any d _ h1) (DtAll.any ds _ h2)
end
theorem Dt.an {H : Hp} {A : Option Addr} {v : V} {d : PyData} (h : Dt K H A v d) : Dt K H none v d := Dt.any d v h
/-! data without lists -/
mutual
def noL : PyData → Bool
  | .list _ => false
  | .tuple ds => noLs ds
  | _ => true
def noLs : List PyData → Bool
  | [] => true
  | d :: r => noL d && noLs r
end
/-- tracked tuples stay -/
def Tp (H H' : Hp) : Prop := ∀ a xs, H a = some (.tup xs) → H' a = some (.tup xs)
mutual
theorem Dt.keep {H H' : Hp} {A B : Option Addr} (t : Tp H H') : ∀ (d : PyData) (v : V), noL d = true → Dt K H A v d → Dt K H' B v d
  | .none, _, _, h => by cases h; exact .non
  | .bool b, _, _, h => by cases h; exact .bl b
  | .int i, _, _, h => by cases h; exact .int i
  | .str z, _, _, h => by cases h with | str _ hz => exact .str z hz
  | .list ds, _, n, _ => by cases n
  | .tuple ds, _, n, h => by cases h with | tup ha hd => exact .tup (ha.imp (t _ _) id) (DtAll.keep t ds _ n hd)
  | .dict _, _, _, h => by cases h
theorem DtAll.keep {H H' : Hp} {A B : Option Addr} (t : Tp H H') : ∀ (ds : List PyData) (xs : List V), noLs ds = true → DtAll K H A xs ds → DtAll K H' B xs ds
  | [], _, _, h => by cases h; exact .nil
  | d :: ds, _, n, h => by
    have n : (noL d && noLs ds) = true := n
    rw [Bool.and_eq_true] at n
    cases h with | cons h1 h2 => exact .cons (Dt.keep t d _ n.1 h1) (DtAll.keep t ds _ n.2 h2)
end
theorem DtAll.snoc {H : Hp} {A : Option Addr} : ∀ {xs : List V} {ds : List PyData} {x : V} {d : PyData}, DtAll K H A xs ds → Dt K H A x d → DtAll K H A (xs ++ [x]) (ds ++ [d])
  | _, _, _, _, .nil, h => .cons h .nil
  | _, _, _, _, .cons h r, h2 => .cons h (r.snoc h2)
theorem TupAt.tp {H H' : Hp} {a : Addr} {xs : List V} (h : TupAt K H a xs) (t : Tp H H') : TupAt K H' a xs := h.imp (t _ _) id
theorem Same.tp {H H' : Hp} (s : Same H H') : Tp H H' := fun _ _ h => s _ _ h
theorem Mod.tp {H H' : Hp} {A D : Addr} (s : Mod A H H') (dr : Dr H D A) : Tp H H' := fun a xs h => by
  obtain ⟨_, _, _, _, e, _⟩ := id dr
  exact s _ _ (ne_of h e (by intro z; cases z)) h
theorem tp_put {H : Hp} {l : Addr} {xs ys : List V} (h : H l = some (.lst xs)) : Tp H (upd H l (.lst ys)) := fun a zs e => by
  rw [upd_ne (ne_of e h (by intro z; cases z))]; exact e
theorem dCmd_noL {d : PyData} (h : dCmd d = true) : noL d = true := by
  obtain ⟨c, n, t, rfl, _⟩ := dCmd_inv h
  rfl
theorem dCmdsFrom_noL : ∀ {ds : List PyData} {b : Option Int}, dCmdsFrom b ds = true → noLs ds = true
  | [], _, _ => rfl
  | d :: r, b, h => by
    rw [dCmdsFrom_cons, Bool.and_eq_true, Bool.and_eq_true] at h
    show (noL d && noLs r) = true
    rw [dCmd_noL h.1.1, dCmdsFrom_noL h.2]; rfl
theorem dCmdsFrom_all : ∀ {ds : List PyData} {b : Option Int}, dCmdsFrom b ds = true → ∀ d ∈ ds, dCmd d = true
  | [], _, _, _, m => nomatch m
  | d :: r, b, h, e, m => by
    rw [dCmdsFrom_cons, Bool.and_eq_true, Bool.and_eq_true] at h
    rcases List.mem_cons.mp m with rfl | m
    · exact h.1.1
    · exact dCmdsFrom_all h.2 e m
def lastC : Option Int → List PyData → Option Int
  | b, [] => b
  | _, d :: r => lastC (some (dClient d)) r
theorem lastC_snoc : ∀ (ds : List PyData) (b : Option Int) (d : PyData), lastC b (ds ++ [d]) = some (dClient d)
  | [], _, _ => rfl
  | _ :: r, _, d => lastC_snoc r _ d
theorem dCmdsFrom_snoc : ∀ (ds : List PyData) (b : Option Int) (d : PyData), dCmdsFrom b (ds ++ [d]) = (dCmdsFrom b ds && (dCmd d && dAfter (lastC b ds) d))
  | [], b, d => by
    show dCmdsFrom b [d] = _
    rw [dCmdsFrom_cons, dCmdsFrom_nil, dCmdsFrom_nil, Bool.and_true, Bool.true_and]; rfl
  | e :: r, b, d => by
    show dCmdsFrom b (e :: (r ++ [d])) = _
    rw [dCmdsFrom_cons, dCmdsFrom_snoc r, dCmdsFrom_cons, Bool.and_assoc, Bool.and_assoc, Bool.and_assoc]; rfl
end
theorem noLs_all : ∀ {ds : List PyData}, (∀ d ∈ ds, noL d = true) → noLs ds = true
  | [], _ => rfl
  | d :: r, h => by
    show (noL d && noLs r) = true
    rw [h d List.mem_cons_self, noLs_all (fun e he => h e (List.mem_cons_of_mem _ he))]; rfl

/-! ### slices and sums of tuples, as data -/
def cutD (ds : List PyData) (lo hi : Option Int) : List PyData := (ds.drop (HT.sIx ds.length 0 lo)).take (HT.sIx ds.length ds.length hi - HT.sIx ds.length 0 lo)
theorem DtAll.drop {K : PySem.W.Frag} {H : Hp} {A : Option Addr} : ∀ {xs : List V} {ds : List PyData} (n : Nat), DtAll K H A xs ds → DtAll K H A (xs.drop n) (ds.drop n)
  | _, _, 0, h => h
  | _, _, _ + 1, .nil => .nil
  | _, _, n + 1, .cons _ r => r.drop n
theorem DtAll.take {K : PySem.W.Frag} {H : Hp} {A : Option Addr} : ∀ {xs : List V} {ds : List PyData} (n : Nat), DtAll K H A xs ds → DtAll K H A (xs.take n) (ds.take n)
  | _, _, 0, _ => by rw [List.take_zero, List.take_zero]; exact .nil
  | _, _, _ + 1, .nil => .nil
  | _, _, n + 1, .cons h r => .cons h (r.take n)
theorem DtAll.app {K : PySem.W.Frag} {H : Hp} {A : Option Addr} : ∀ {xs ys : List V} {ds es : List PyData}, DtAll K H A xs ds → DtAll K H A ys es → DtAll K H A (xs ++ ys) (ds ++ es)
  | _, _, _, _, .nil, h => h
  | _, _, _, _, .cons h r, h2 => .cons h (r.app h2)
theorem sl_dt {K : PySem.W.Frag} {H : Hp} {b : Addr} {xs : List V} {ds : List PyData} {lo hi : Option Int} {Q : VK} (ha : TupAt K H b xs) (hx : DtAll K H none xs ds) (q : ∀ H' v, Same H H' → Dt K H' none v (.tuple (cutD ds lo hi)) → Q v H') : rSlA K (.ref b) lo hi H Q := by
  have hl := hx.length
  refine ⟨b, xs, rfl, ha.sq, fun hw => q _ _ (Same.refl H) ?_, fun _ p hp => q _ _ (same_upd hp) (.tup (.inl upd_same) ?_)⟩
  · have e : cutD ds lo hi = ds := by
      unfold cutD
      rw [← hl, hw.1, hw.2, List.drop_zero, Nat.sub_zero, hl, List.take_of_length_le (Nat.le_refl _)]
    rw [e]
    exact .tup ha hx
  · unfold cutV cutD
    rw [← hl]
    exact ((hx.drop _).take _).on (same_upd hp)
theorem cat_dt {K : PySem.W.Frag} {H : Hp} {v u : V} {ds es : List PyData} {Q : VK} (hv : Dt K H none v (.tuple ds)) (hu : Dt K H none u (.tuple es)) (hl : ds.length + es.length ≤ 100000) (q : ∀ H' v', Same H H' → Dt K H' none v' (.tuple (ds ++ es)) → Q v' H') : rCatA K v u H Q := by
  cases hv with
  | tup ha hx =>
    cases hu with
    | tup hb hy =>
      rename_i a xs b ys
      have l1 := hx.length
      have l2 := hy.length
      refine ⟨a, b, xs, ys, rfl, rfl, ha.sq, hb.sq, sz1000 (by omega), fun e => q _ _ (Same.refl H) ?_, fun _ e => q _ _ (Same.refl H) ?_, fun _ _ p hp => q _ _ (same_upd hp) (.tup (.inl upd_same) ((hx.app hy).on (same_upd hp)))⟩
      · rw [e] at l1
        rw [List.length_eq_zero_iff.mp l1.symm]
        exact .tup hb hy
      · rw [e] at l2
        rw [List.length_eq_zero_iff.mp l2.symm, List.append_nil]
        exact .tup ha hx
theorem cutD_take (ds : List PyData) (j : Nat) : cutD ds none (some (j : Int)) = ds.take j := by
  unfold cutD
  rw [HT.sIx_nat, HT.sIx_none, List.drop_zero, Nat.sub_zero]
  rcases Nat.le_total j ds.length with h | h
  · rw [Nat.min_eq_left h]
  · rw [Nat.min_eq_right h, List.take_of_length_le (Nat.le_refl _), List.take_of_length_le h]
theorem cutD_drop (ds : List PyData) (j : Nat) : cutD ds (some (j : Int)) none = ds.drop j := by
  unfold cutD
  rw [HT.sIx_nat, HT.sIx_none]
  rcases Nat.le_total j ds.length with h | h
  · rw [Nat.min_eq_left h, List.take_of_length_le (by rw [List.length_drop]; exact Nat.le_refl _)]
  · rw [Nat.min_eq_right h, Nat.sub_self, List.take_zero, List.drop_of_length_le h]

theorem atI_lt {α : Type} {xs : List α} {i : Int} (h0 : 0 ≤ i) (h1 : i < xs.length) : ∃ v, v ∈ xs ∧ atI xs i = some v := by
  obtain ⟨j, rfl⟩ := Int.eq_ofNat_of_zero_le h0
  have hj : j < xs.length := Int.ofNat_lt.mp h1
  exact ⟨xs[j], List.getElem_mem hj, atI_nat (List.getElem?_eq_getElem hj)⟩

/-! ### dicts as lists of pairs -/
section
variable {κ α : Type} [DecidableEq κ]
def gA (ks : List (κ × α)) (c : κ) : Option α := (ks.find? fun k => decide (k.1 = c)).map (·.2)
def pA (ks : List (κ × α)) (c : κ) (x : α) : List (κ × α) := if (ks.any fun k => decide (k.1 = c)) = true then ks.map (fun k => if k.1 = c then (k.1, x) else k) else ks ++ [(c, x)]
/-- the pairs as they stand in a dict -/
def kvs (em : κ → Key) (f : α → V) (ks : List (κ × α)) : List (Key × V) := ks.map fun k => (em k.1, f k.2)
def kOk (ks : List (κ × α)) : Prop := (ks.map (·.1)).Nodup
theorem gA_kvs {em : κ → Key} (inj : ∀ a b, em a = em b → a = b) (f : α → V) : ∀ (ks : List (κ × α)) (c : κ), valV (kvs em f ks) (em c) = (gA ks c).map f
  | [], _ => rfl
  | k :: r, c => by
    have ih := gA_kvs inj f r c
    unfold kvs valV gA at ih ⊢
    rw [List.map_cons, List.find?_cons, List.find?_cons]
    by_cases h : k.1 = c
    · have h1 : decide (em k.1 = em c) = true := decide_eq_true (by rw [h])
      rw [h1, decide_eq_true h]; rfl
    · have h1 : decide (em k.1 = em c) = false := decide_eq_false (fun z => h (inj _ _ z))
      rw [h1, decide_eq_false h]; exact ih
theorem pA_kvs {em : κ → Key} (inj : ∀ a b, em a = em b → a = b) (f : α → V) (ks : List (κ × α)) (c : κ) (x : α) : putK (kvs em f ks) (em c) (f x) = kvs em f (pA ks c x) := by
  have e : ∀ k : κ × α, decide (em k.1 = em c) = decide (k.1 = c) := fun k => decide_eq_decide.mpr ⟨fun z => inj _ _ z, fun z => by rw [z]⟩
  unfold putK pA kvs
  rw [List.any_map, show ((fun kv : Key × V => decide (kv.1 = em c)) ∘ fun k : κ × α => (em k.1, f k.2)) = fun k => decide (k.1 = c) from funext e]
  split
  · rw [List.map_map, List.map_map]
    refine List.map_congr_left fun k _ => ?_
    show (if em k.1 = em c then (em k.1, f x) else (em k.1, f k.2)) = (fun k : κ × α => (em k.1, f k.2)) (if k.1 = c then (k.1, x) else k)
    by_cases h : k.1 = c
    · rw [if_pos h, if_pos (by rw [h])]
    · rw [if_neg h, if_neg (fun z => h (inj _ _ z))]
  · rw [List.map_append]; rfl
theorem pA_len (ks : List (κ × α)) (c : κ) (x : α) : (pA ks c x).length ≤ ks.length + 1 := by
  unfold pA
  split
  · rw [List.length_map]; omega
  · rw [List.length_append]; exact Nat.le_refl _
theorem kvs_len (em : κ → Key) (f : α → V) (ks : List (κ × α)) : (kvs em f ks).length = ks.length := List.length_map _
theorem any_mem {ks : List (κ × α)} {c : κ} : (ks.any fun k => decide (k.1 = c)) = true ↔ c ∈ ks.map (·.1) := by
  rw [List.any_eq_true, List.mem_map]
  constructor
  · rintro ⟨k, hk, e⟩; exact ⟨k, hk, of_decide_eq_true e⟩
  · rintro ⟨k, hk, e⟩; exact ⟨k, hk, decide_eq_true e⟩
theorem pA_keys (ks : List (κ × α)) (c : κ) (x : α) : (pA ks c x).map (·.1) = if c ∈ ks.map (·.1) then ks.map (·.1) else ks.map (·.1) ++ [c] := by
  unfold pA
  by_cases h : c ∈ ks.map (·.1)
  · rw [if_pos (any_mem.mpr h), if_pos h, List.map_map]
    refine List.map_congr_left fun k _ => ?_
    show (if k.1 = c then (k.1, x) else k).1 = k.1
    split <;> rfl
  · rw [if_neg (fun z => h (any_mem.mp z)), if_neg h, List.map_append]; rfl
theorem pA_ok {ks : List (κ × α)} (c : κ) (x : α) (h : kOk ks) : kOk (pA ks c x) := by
  unfold kOk at *
  rw [pA_keys]
  split
  · exact h
  · rename_i hn
    rw [List.nodup_append]
    refine ⟨h, by simp, fun a ha b hb => ?_⟩
    have hb : b = c := by simpa using hb
    rw [hb]
    intro e
    exact hn (e ▸ ha)
theorem gA_none {ks : List (κ × α)} {c : κ} : gA ks c = none ↔ c ∉ ks.map (·.1) := by
  unfold gA
  rw [Option.map_eq_none_iff, List.find?_eq_none]
  constructor
  · intro h m
    obtain ⟨k, hk, e⟩ := List.mem_map.mp m
    exact h k hk (decide_eq_true e)
  · intro h k hk e
    exact h (List.mem_map.mpr ⟨k, hk, of_decide_eq_true e⟩)
theorem gA_mem : ∀ {ks : List (κ × α)} {k : κ × α}, kOk ks → k ∈ ks → gA ks k.1 = some k.2
  | q :: r, k, h, m => by
    unfold kOk at h
    rw [List.map_cons, List.nodup_cons] at h
    unfold gA
    rw [List.find?_cons]
    rcases List.mem_cons.mp m with rfl | m
    · rw [decide_eq_true rfl]; rfl
    · by_cases e : q.1 = k.1
      · exact absurd (e ▸ List.mem_map_of_mem (f := (·.1)) m) h.1
      · rw [decide_eq_false e]
        exact gA_mem (ks := r) h.2 m
theorem gA_some {ks : List (κ × α)} {c : κ} {x : α} (h : gA ks c = some x) : (c, x) ∈ ks := by
  unfold gA at h
  rw [Option.map_eq_some_iff] at h
  obtain ⟨k, h1, rfl⟩ := h
  have h2 := List.find?_some h1
  have h3 := List.mem_of_find?_eq_some h1
  have : k.1 = c := of_decide_eq_true h2
  rw [← this]; exact h3
theorem pA_mem {ks : List (κ × α)} {c : κ} {x : α} {k : κ × α} (h : k ∈ pA ks c x) : k = (c, x) ∨ (k ∈ ks ∧ k.1 ≠ c) := by
  unfold pA at h
  split at h
  · obtain ⟨q, hq, e⟩ := List.mem_map.mp h
    by_cases hc : q.1 = c
    · rw [if_pos hc] at e; exact .inl (by rw [← e, hc])
    · rw [if_neg hc] at e; subst e; exact .inr ⟨hq, hc⟩
  · rename_i hn
    rcases List.mem_append.mp h with h | h
    · exact .inr ⟨h, fun e => hn (any_mem.mpr (List.mem_map.mpr ⟨k, h, e⟩))⟩
    · exact .inl (List.mem_singleton.mp h)
theorem gA_put {ks : List (κ × α)} (h : kOk ks) (c d : κ) (x : α) : gA (pA ks c x) d = if d = c then some x else gA ks d := by
  have h2 := pA_ok c x h
  by_cases e : d = c
  · subst e
    rw [if_pos rfl]
    have hm : d ∈ (pA ks d x).map (·.1) := by
      rw [pA_keys]; split
      · assumption
      · exact List.mem_append_right _ (List.mem_singleton.mpr rfl)
    obtain ⟨k, hk, ek⟩ := List.mem_map.mp hm
    have := gA_mem h2 hk
    rw [ek] at this
    rw [this]
    rcases pA_mem hk with e | ⟨_, e⟩
    · rw [e]
    · exact absurd ek e
  · rw [if_neg e]
    cases g : gA ks d with
    | none =>
      rw [gA_none] at g ⊢
      rw [pA_keys]
      split
      · exact g
      · intro m
        rcases List.mem_append.mp m with m | m
        · exact g m
        · exact e (List.mem_singleton.mp m)
    | some y =>
      have hm := gA_some g
      have : (d, y) ∈ pA ks c x := by
        unfold pA
        split
        · exact List.mem_map.mpr ⟨(d, y), hm, if_neg e⟩
        · exact List.mem_append_left _ hm
      exact gA_mem h2 this
theorem kvs_keys {em : κ → Key} {f : α → V} {ks : List (κ × α)} : (kvs em f ks).map (·.1) = (ks.map (·.1)).map em := by
  unfold kvs
  rw [List.map_map, List.map_map]; rfl
end
theorem inlI : ∀ a b : Int, (Sum.inl a : Key) = Sum.inl b → a = b := fun _ _ z => Sum.inl.inj z
theorem inrI : ∀ a b : Str, (Sum.inr a : Key) = Sum.inr b → a = b := fun _ _ z => Sum.inr.inj z

/-! ### data for comparisons: shape and depth -/
def Ly (k : Nat) (d : PyData) : Prop := d.canLay0 = true ∧ d.depth ≤ k
theorem ly_all {k : Nat} : ∀ {ds : List PyData}, (∀ d ∈ ds, Ly k d) → PyData.canLayAll0 ds = true ∧ PyData.depthAll ds ≤ k
  | [], _ => ⟨by simp [PyData.canLayAll0], by simp [PyData.depthAll]⟩
  | d :: r, h => by
    obtain ⟨i1, i2⟩ := ly_all fun z hz => h z (List.mem_cons_of_mem _ hz)
    obtain ⟨l1, l2⟩ := h d List.mem_cons_self
    constructor
    · rw [PyData.canLayAll0, i1, l1]; rfl
    · rw [PyData.depthAll]; omega
theorem ly_tup {k : Nat} {ds : List PyData} (h : ∀ d ∈ ds, Ly k d) : Ly (k + 1) (.tuple ds) := by
  obtain ⟨a, b⟩ := ly_all h
  exact ⟨by rw [PyData.canLay0]; exact a, by rw [PyData.depth]; omega⟩
theorem ly_lst {k : Nat} {ds : List PyData} (h : ∀ d ∈ ds, Ly k d) : Ly (k + 1) (.list ds) := by
  obtain ⟨a, b⟩ := ly_all h
  exact ⟨by rw [PyData.canLay0]; exact a, by rw [PyData.depth]; omega⟩
theorem ly_int {k : Nat} (i : Int) : Ly k (.int i) := ⟨by simp [PyData.canLay0], by simp [PyData.depth]⟩
theorem ly_non {k : Nat} : Ly k .none := ⟨by simp [PyData.canLay0], by simp [PyData.depth]⟩
theorem ly_bl {k : Nat} (b : Bool) : Ly k (.bool b) := ⟨by simp [PyData.canLay0], by simp [PyData.depth]⟩
theorem ly_str {k : Nat} {z : Str} (h : PyData.strOk z = true) : Ly k (.str z) := ⟨by simp [PyData.canLay0, h], by simp [PyData.depth]⟩
theorem Ly.mono {k j : Nat} {d : PyData} (h : Ly k d) (le : k ≤ j) : Ly j d := ⟨h.1, Nat.le_trans h.2 le⟩
theorem ly_nil {k : Nat} : ∀ d ∈ ([] : List PyData), Ly k d := fun _ m => nomatch m
theorem ly_cons {k : Nat} {d : PyData} {r : List PyData} (h : Ly k d) (hr : ∀ d ∈ r, Ly k d) : ∀ e ∈ d :: r, Ly k e := fun e m => by
  rcases List.mem_cons.mp m with rfl | m
  · exact h
  · exact hr e m
theorem ly_app {k : Nat} {r s : List PyData} (hr : ∀ d ∈ r, Ly k d) (hs : ∀ d ∈ s, Ly k d) : ∀ e ∈ r ++ s, Ly k e := fun e m => by
  rcases List.mem_append.mp m with m | m
  · exact hr e m
  · exact hs e m
theorem shpL {d : PyData} (h : Ly 20 d) : SeqAt.shaped d = true ∧ PyData.eqv d d = true := by
  refine ⟨?_, SeqAt.eqv_refl _ h.1⟩
  unfold SeqAt.shaped
  rw [h.1, decide_eq_true (by have := h.2; omega)]; rfl

theorem unlock_same {H H' : Hp} {d : Addr} {od : Obj} {u : HO} (hd : H d = some u) (s : Same (upd H d (.frz od u)) H') : Same H (upd H' d u) := fun b o e => by
  by_cases h : b = d
  · subst h; rw [upd_same]; rw [hd] at e; exact e
  · rw [upd_ne h]; exact s _ _ (by rw [upd_ne h]; exact e)
theorem tp_unlock {H' : Hp} {d : Addr} {od : Obj} {u v : HO} (hd : H' d = some (.frz od v)) : Tp H' (upd H' d u) := fun a xs e => by
  rw [upd_ne (ne_of e hd (by intro z; cases z))]; exact e
theorem tp_lockT {H : Hp} {d : Addr} {od : Obj} {kv : List (List Key × V)} {u : HO} (hd : H d = some (.dT kv)) : Tp H (upd H d u) := fun a xs e => by
  rw [upd_ne (ne_of e hd (by intro z; cases z))]; exact e

theorem inV_int (a : Int) (ys : List Int) : inV (.int a) (ys.map V.int) = decide (a ∈ ys) := by
  unfold inV
  rw [List.any_map]
  induction ys with
  | nil => rfl
  | cons y r ih =>
    rw [List.any_cons, ih]
    by_cases h : y = a
    · subst h
      simp [eqV]
    · have h' : ¬ a = y := fun e => h e.symm
      simp [eqV, h, h']
theorem flat_ints (ys : List Int) : (ys.map V.int).all flatV = true := by
  rw [List.all_map, List.all_eq_true]
  intro x _
  rfl

/-! ### comprehensions over a list or a range, as data -/
section
variable {K : PySem.W.Frag}
theorem filterMap_take {α β : Type} (F : α → Option β) (ds : List α) {i : Nat} {d : α} (h : ds[i]? = some d) : (ds.take (i + 1)).filterMap F = (ds.take i).filterMap F ++ (F d).toList := by
  rw [List.take_add_one, h, List.filterMap_append]
  congr 1
theorem noLs_app {xs ys : List PyData} (h1 : noLs xs = true) (h2 : noLs ys = true) : noLs (xs ++ ys) = true := noLs_all fun d hd => by
  rcases List.mem_append.mp hd with h | h
  · exact noLs_mem' h1 h
  · exact noLs_mem' h2 h
where noLs_mem' : ∀ {ds : List PyData} {d : PyData}, noLs ds = true → d ∈ ds → noL d = true
  | e :: r, d, h, m => by
    have h : (noL e && noLs r) = true := h
    rw [Bool.and_eq_true] at h
    rcases List.mem_cons.mp m with rfl | m
    · exact h.1
    · exact noLs_mem' h.2 m
/-- over a walk whose items are told by P -/
theorem lc_walk {α : Type} {J : It} {n : Nat} {G : Hp → Prop} {Y : Nat → Hp → V → Hp → Prop} (w : Walk J n G Y) {g : TG} {tt : TT} {te : TE} {vs : List Nat} {σ : L2.St} {H1 : Hp} {D : Addr} {Qd : Hp → Prop} (hD : H1 D = none) (ds : List α) (hl : ds.length = n) (hn : n ≤ 100000) (F : α → Option PyData)
    (hF : ∀ d e, d ∈ ds → F d = some e → noL e = true)
    (hG : ∀ H', Same H1 H' → G H') (hY : ∀ i H x H', Y i H x H' → H' = H)
    (hs : ∀ i x d H7, i < n → ds[i]? = some d → Same H1 H7 → Y i H7 x H7 → ∀ (R : V → Hp → Prop) (R0 : Hp → Prop), (∀ e, F d = some e → ∀ y H8, Same H7 H8 → Dt K H8 none y e → R y H8) → (F d = none → ∀ H8, Same H7 H8 → R0 H8) →
      g x (wipe σ vs) H7 fun σ2 H2 => wipe σ2 vs = wipe σ vs ∧ tt σ2 H2 fun b H3 => if b = true then te σ2 H3 R else R0 H3)
    (hd : ∀ H' xs', Same H1 H' → H' D = some (.lst xs') → DtAll K H' none xs' (ds.filterMap F) → Qd H') :
    ∃ W : Nat → Nat → Hp → Prop, (∃ m, W 0 m (upd H1 D (.lst []))) ∧ ∀ i m H, W i m H →
      (J.stop i H ∧ Qd H) ∨ (J.go i H ∧ ∃ Nx : Hp → Prop, (∀ H', Nx H' → ∃ m', m' < m ∧ W (i + 1) m' H') ∧ ∀ x H', J.yld i H x H' → g x (wipe σ vs) H' fun σ2 H2 => wipe σ2 vs = wipe σ vs ∧ tt σ2 H2 fun b H3 =>
        if b = true then te σ2 H3 fun y H4 => ∃ acc, H4 D = some (.lst acc) ∧ acc.length < sizeLine ∧ Nx (upd H4 D (.lst (acc ++ [y]))) else Nx H3) := by
  refine lc_it w (Pv := fun i H' => ∃ xs', Same H1 H' ∧ H' D = some (.lst xs') ∧ DtAll K H' none xs' ((ds.take i).filterMap F)) ⟨[], same_upd hD, upd_same, .nil⟩ (fun i H _ h => by obtain ⟨_, h, _⟩ := h; exact hG _ h) (fun i x H6 H7 hi hp hy => ?_) (fun H6 hp => ?_)
  · obtain ⟨xs', s6, hD6, hx6⟩ := hp
    obtain rfl := hY i H6 x H7 hy
    obtain ⟨d, gd⟩ : ∃ d, ds[i]? = some d := ⟨_, List.getElem?_eq_getElem (by omega)⟩
    have hx7 := filterMap_take F ds gd
    have hnl : noLs ((ds.take i).filterMap F) = true := noLs_all fun e he => by
      obtain ⟨d', hd', e'⟩ := List.mem_filterMap.mp he
      exact hF d' e (List.mem_of_mem_take hd') e'
    have hll : xs'.length ≤ i := by
      rw [hx6.length]
      have := List.length_filterMap_le F (ds.take i)
      rw [List.length_take] at this
      omega
    refine hs i x d H7 hi gd s6 hy _ _ (fun e he y H8 s8 hdy => ?_) (fun he H8 s8 => ?_)
    · have hD8 := s8 _ _ hD6
      refine ⟨xs', hD8, sz1000' (by omega), xs' ++ [y], same_mut (s6.trans s8) hD, upd_same, ?_⟩
      rw [hx7, he]
      have hne := hF d e (List.mem_of_getElem? gd) he
      exact DtAll.keep (A := none) (tp_put hD8) _ _ (noLs_app hnl (by show (noL e && true) = true; rw [hne]; rfl)) ((hx6.on s8).snoc hdy)
    · refine ⟨xs', s6.trans s8, s8 _ _ hD6, ?_⟩
      rw [hx7, he]
      show DtAll K H8 none xs' (_ ++ [])
      rw [List.append_nil]
      exact hx6.on s8
  · obtain ⟨xs', s6, hD6, hx6⟩ := hp
    rw [List.take_of_length_le (by omega)] at hx6
    exact hd _ _ s6 hD6 hx6
/-- over a list of data -/
theorem lc_list_dt {g : TG} {tt : TT} {te : TE} {vs : List Nat} {σ : L2.St} {H1 : Hp} {D a : Addr} {xs : List V} {ds : List PyData} {Qd : Hp → Prop} (hD : H1 D = none) (hq : SqL K H1 a xs) (hx : DtAll K H1 none xs ds) (hn : xs.length ≤ 100000) (F : PyData → Option PyData)
    (hF : ∀ d e, d ∈ ds → F d = some e → noL e = true)
    (hs : ∀ x d H7, d ∈ ds → Same H1 H7 → Dt K H7 none x d → ∀ (R : V → Hp → Prop) (R0 : Hp → Prop), (∀ e, F d = some e → ∀ y H8, Same H7 H8 → Dt K H8 none y e → R y H8) → (F d = none → ∀ H8, Same H7 H8 → R0 H8) →
      g x (wipe σ vs) H7 fun σ2 H2 => wipe σ2 vs = wipe σ vs ∧ tt σ2 H2 fun b H3 => if b = true then te σ2 H3 R else R0 H3)
    (hd : ∀ H' xs', Same H1 H' → H' D = some (.lst xs') → DtAll K H' none xs' (ds.filterMap F) → Qd H') :
    ∃ W : Nat → Nat → Hp → Prop, (∃ m, W 0 m (upd H1 D (.lst []))) ∧ ∀ i m H, W i m H →
      ((Itl K a).stop i H ∧ Qd H) ∨ ((Itl K a).go i H ∧ ∃ Nx : Hp → Prop, (∀ H', Nx H' → ∃ m', m' < m ∧ W (i + 1) m' H') ∧ ∀ x H', (Itl K a).yld i H x H' → g x (wipe σ vs) H' fun σ2 H2 => wipe σ2 vs = wipe σ vs ∧ tt σ2 H2 fun b H3 =>
        if b = true then te σ2 H3 fun y H4 => ∃ acc, H4 D = some (.lst acc) ∧ acc.length < sizeLine ∧ Nx (upd H4 D (.lst (acc ++ [y]))) else Nx H3) :=
  lc_walk (K := K) walk_list hD ds hx.length.symm hn F hF (fun _ s => s.seq hq) (fun _ _ _ _ y => y.1) (fun i x d H7 hi gd s7 hy R R0 => hs x d H7 (List.mem_of_getElem? gd) s7 (by
    obtain ⟨d', g', hd'⟩ := hx.get hy.2
    rw [gd] at g'
    cases g'
    exact hd'.on s7) R R0) hd
/-- over a range -/
theorem lc_range_dt {g : TG} {tt : TT} {te : TE} {vs : List Nat} {σ : L2.St} {H1 : Hp} {D : Addr} {lo : Int} {n : Nat} {Qd : Hp → Prop} (hD : H1 D = none) (hn : n ≤ 100000) (F : Nat → Option PyData)
    (hF : ∀ d e, d < n → F d = some e → noL e = true)
    (hs : ∀ i H7, i < n → Same H1 H7 → ∀ (R : V → Hp → Prop) (R0 : Hp → Prop), (∀ e, F i = some e → ∀ y H8, Same H7 H8 → Dt K H8 none y e → R y H8) → (F i = none → ∀ H8, Same H7 H8 → R0 H8) →
      g (.int (lo + i)) (wipe σ vs) H7 fun σ2 H2 => wipe σ2 vs = wipe σ vs ∧ tt σ2 H2 fun b H3 => if b = true then te σ2 H3 R else R0 H3)
    (hd : ∀ H' xs', Same H1 H' → H' D = some (.lst xs') → DtAll K H' none xs' ((List.range n).filterMap F) → Qd H') :
    ∃ W : Nat → Nat → Hp → Prop, (∃ m, W 0 m (upd H1 D (.lst []))) ∧ ∀ i m H, W i m H →
      ((Itr lo n).stop i H ∧ Qd H) ∨ ((Itr lo n).go i H ∧ ∃ Nx : Hp → Prop, (∀ H', Nx H' → ∃ m', m' < m ∧ W (i + 1) m' H') ∧ ∀ x H', (Itr lo n).yld i H x H' → g x (wipe σ vs) H' fun σ2 H2 => wipe σ2 vs = wipe σ vs ∧ tt σ2 H2 fun b H3 =>
        if b = true then te σ2 H3 fun y H4 => ∃ acc, H4 D = some (.lst acc) ∧ acc.length < sizeLine ∧ Nx (upd H4 D (.lst (acc ++ [y]))) else Nx H3) :=
  lc_walk (K := K) walk_range hD (List.range n) List.length_range hn F (fun d e hd he => hF d e (List.mem_range.mp hd) he) (fun _ _ => trivial) (fun _ _ _ _ y => y.1) (fun i x d H7 hi gd s7 hy R R0 h1 h2 => by
    obtain ⟨_, rfl⟩ := hy
    rw [List.getElem?_range hi] at gd
    cases gd
    exact hs i H7 hi s7 R R0 h1 h2) hd
end

/-! ### the draws of a script, by its cells -/
def cellA (ns : List Int) (k : Nat) : Int := ((ns.getD k 0).natAbs : Int)
theorem cellA_nonneg (ns : List Int) (k : Nat) : 0 ≤ cellA ns k := Int.natCast_nonneg _
def spCellA (K : PySem.W.Frag) : Sp := fun vs H Q _ => ∃ (a : Addr) (ns : List Int) (k : Nat), vs = [.ref a, .int k] ∧ SqL K H a (ns.map V.int) ∧ Q (.int (cellA ns k)) H
def spDraws2 (K : PySem.W.Frag) : Sp := fun vs H Q _ => ∃ (a : Addr) (ns : List Int) (st most : Nat), vs = [.ref a, .int st, .int most] ∧ SqL K H a (ns.map V.int) ∧ ns.length ≤ 63 ∧
  ∀ (H' : Hp) (D : Addr) (ds : List Int), Same H H' → H D = none → H' D = some (.lst (ds.map V.int)) → (∀ d ∈ ds, 0 ≤ d ∧ d < 1000000000000000000) → ds.length ≤ most → Q (.ref D) H'
theorem same_none {H H' : Hp} {p : Addr} (s : Same H H') (h : H' p = none) : H p = none := by
  cases e : H p with
  | none => rfl
  | some o => rw [s p o e] at h; cases h

theorem abs_natAbs (i : Int) : (if i < 0 then -i else i) = (i.natAbs : Int) := by split <;> omega
theorem rng_app2 {ds : List Int} {x : Int} (h : ∀ d ∈ ds, 0 ≤ d ∧ d < 1000000000000000000) (h0 : 0 ≤ x) (h1 : x < 1000000000000000000) : ∀ d ∈ ds ++ [x], 0 ≤ d ∧ d < 1000000000000000000 := fun d hd => by
  rcases List.mem_append.mp hd with hd | hd
  · exact h d hd
  · rw [List.mem_singleton.mp hd]; exact ⟨h0, h1⟩
theorem cutV_map {α : Type} (f : α → V) (xs : List α) (lo hi : Option Int) : ∃ ys : List α, cutV (xs.map f) lo hi = ys.map f ∧ ys.length ≤ xs.length ∧ (∀ y ∈ ys, y ∈ xs) := by
  refine ⟨(xs.drop (HT.sIx xs.length 0 lo)).take (HT.sIx xs.length xs.length hi - HT.sIx xs.length 0 lo), ?_, ?_, ?_⟩
  · unfold cutV
    rw [List.length_map, List.map_take, List.map_drop]
  · rw [List.length_take, List.length_drop]; omega
  · intro y hy
    exact List.mem_of_mem_drop (List.mem_of_mem_take hy)
theorem cutV_most (xs : List Int) (m : Nat) : ∃ ys : List Int, cutV (xs.map V.int) none (some (m : Int)) = ys.map V.int ∧ ys.length ≤ m ∧ (∀ y ∈ ys, y ∈ xs) := by
  obtain ⟨ys, e, _, h⟩ := cutV_map V.int xs none (some (m : Int))
  refine ⟨ys, e, ?_, h⟩
  have hl := congrArg List.length e
  rw [List.length_map] at hl
  rw [← hl]
  unfold cutV
  rw [List.length_take, List.length_drop]
  have : HT.sIx (xs.map V.int).length (xs.map V.int).length (some (m : Int)) ≤ m := by
    rw [HT.sIx_nat]
    exact Nat.min_le_left _ _
  omega
section
variable {P : Program} {w : World} {K : PySem.W.Frag} {mg : Str → Option Value} {base : Heap}
theorem c__law_cell {C_Ballot : Addr} {C_Chain : Addr} {C_BadBlock : Addr} (T : Txt K mg C_Ballot C_Chain C_BadBlock) : Cal P w K mg base 1 "_law_cell" (spCellA K) [] := by
  refine cal T.d__law_cell sc__law_cell (fun vs H Q E h => ?_) (fun f cdv A outer s H vs Q E hr h => ?_)
  · obtain ⟨a, ns, k, rfl, _⟩ := h; rfl
  obtain ⟨a, ns, k, rfl, hS, q⟩ := h
  refine ⟨_, (pss_cons (ps_if (pt_cmpR op_lt (pv 1) (pe_callB (klen (K := K)) (by rfl) T.z_len (by decide +kernel) (pa_cons (pv 0) pa_nil)) (nomark _)) (pss_one (ps_ret (pe_callB call_abs (by rfl) T.z_abs (by decide +kernel) (pa_cons (pe_callTy call_int1 (by rfl) T.z_int (by decide +kernel) (pa_cons (pe_ix (kixl (K := K)) (pv 0) (pv 1) (fun _ _ => rfl)) pa_nil)) pa_nil)))) pss_nil)
      (pss_one (ps_ret pe_int))), ?_⟩
  refine ⟨.int k, rfl, .ref a, rfl, a, _, rfl, .inl hS, _, _, rfl, rfl, _, rfl, ite2 (fun e => ?_) (fun e => ?_)⟩
  · have e := of_decide_eq_true e
    rw [List.length_map] at e
    have e1 : k < ns.length := by omega
    have g : (ns.map V.int)[k]? = some (.int (ns.getD k 0)) := by
      rw [List.getElem?_map, List.getD_eq_getElem?_getD, List.getElem?_eq_getElem e1]; rfl
    refine ⟨.ref a, rfl, .int k, rfl, a, _, _, _, rfl, rfl, hS, atI_nat g, ?_⟩
    walk_at "rds"
    rw [abs_natAbs]
    exact q
  · have e2 : ¬ ((k : Int) < ((ns.map V.int).length : Int)) := fun z => e (decide_eq_true z)
    rw [List.length_map] at e2
    have e1 : ns.getD k 0 = 0 := by
      rw [List.getD_eq_getElem?_getD, List.getElem?_eq_none (by omega)]; rfl
    unfold cellA at q
    rw [e1] at q
    exact q
theorem c__law_draws {C_Ballot : Addr} {C_Chain : Addr} {C_BadBlock : Addr} (T : Txt K mg C_Ballot C_Chain C_BadBlock) : Cal P w K mg base 1 "_law_draws" (spDraws2 K) [] := by
  refine cal T.d__law_draws sc__law_draws (fun vs H Q E h => ?_) (fun f cdv A outer s H vs Q E hr h => ?_)
  · obtain ⟨a, ns, st, most, rfl, _⟩ := h; rfl
  obtain ⟨a, ns, st, most, rfl, hS, hlen, q⟩ := h
  refine ⟨_, (pss_cons (ps_set (i := 3) sc__law_draws.nd rfl (Or.inl rfl) (pe_lst pa_nil))
      (pss_cons (ps_for PassesOwn.never rfl (pi_list (pe_slice (ksll (K := K)) (pv 0) (po_some (pv 1)) po_none)) (pg_name (i := 4) sc__law_draws.nd rfl (Or.inl rfl)) (pss_cons (ps_set (i := 5) sc__law_draws.nd rfl (Or.inl rfl) (pe_callB call_abs (by rfl) T.z_abs (by decide +kernel) (pa_cons (pe_callTy call_int1 (by rfl) T.z_int (by decide +kernel) (pa_cons (pv 4) pa_nil)) pa_nil)))
      (pss_one (ps_if (pt_cmpR op_lt (pv 5) (pe_op op_pow pe_int pe_int) (nomark _)) (pss_cons (ps_set (i := 6) sc__law_draws.nd rfl (Or.inl rfl) (pe_op op_mod (pe_callTy call_int1 (by rfl) T.z_int (by decide +kernel) (pa_cons (pe_op op_add (pe_op op_mul (pv 5) pe_int) pe_int) pa_nil)) pe_int))
      (pss_cons (ps_expr (pe_bm PySem.F.plainAttrs_list PySem.F.slot_list_append PySem.F.type_list_append mt_append (pv 3) (pa_cons (pv 5) pa_nil)))
      (pss_cons (ps_expr (pe_bm PySem.F.plainAttrs_list PySem.F.slot_list_append PySem.F.type_list_append mt_append (pv 3) (pa_cons (pe_op op_fdiv (pe_op op_mod (pe_callTy call_int1 (by rfl) T.z_int (by decide +kernel) (pa_cons (pe_op op_add (pe_op op_add (pe_op op_mul (pv 6) pe_int) (pe_op op_fdiv (pv 5) pe_int)) pe_int) pa_nil)) pe_int) pe_int) pa_nil)))
      (pss_one (ps_expr (pe_bm PySem.F.plainAttrs_list PySem.F.slot_list_append PySem.F.type_list_append mt_append (pv 3) (pa_cons (pe_op op_fdiv (pe_op op_mod (pe_callTy call_int1 (by rfl) T.z_int (by decide +kernel) (pa_cons (pe_op op_add (pe_op op_add (pe_op op_mul (pv 6) pe_int) (pe_op op_fdiv (pv 5) pe_int)) pe_int) pa_nil)) pe_int) pe_int) pa_nil))))))) (pss_one (ps_for PassesOwn.never rfl (pi_range1 (by rfl) T.z_range (pa_cons pe_int pa_nil)) (pg_name (i := 7) sc__law_draws.nd rfl (Or.inl rfl)) (pss_cons (ps_if (pt_cmpR op_gt (pv 5) pe_int (nomark _)) (pss_one (ps_expr (pe_bm PySem.F.plainAttrs_list PySem.F.slot_list_append PySem.F.type_list_append mt_append (pv 3) (pa_cons (pe_op op_mod (pe_callTy call_int1 (by rfl) T.z_int (by decide +kernel) (pa_cons (pv 5) pa_nil)) pe_int) pa_nil)))) pss_nil)
      (pss_one (ps_set (i := 5) sc__law_draws.nd rfl (Or.inl rfl) (pe_op op_fdiv (pv 5) pe_int))))))))))
      (pss_one (ps_ret (pe_slice (ksll (K := K)) (pv 3) po_none (po_some (pv 2))))))), ?_⟩
  refine ⟨by decide, fun D hD => ?_⟩
  walk_at "rds"
  refine ⟨a, _, rfl, (same_upd hD).seq hS, fun p hp => ?_⟩
  obtain ⟨cs, ecs, hcl, _⟩ := cutV_map V.int ns (some (st : Int)) none
  rw [ecs]
  have sp : Same H (upd (upd H D (.lst [])) p (.lst (cs.map V.int))) := (same_upd hD).trans (same_upd hp)
  have hpD : p ≠ D := fun e => by rw [e, upd_same] at hp; cases hp
  refine ⟨p, rfl, ⟨_, sq upd_same⟩, ?_⟩
  refine for_it (walk_list (K := K) (a := p) (xs := cs.map V.int)) (Pv := fun i σ H' => ∃ y4 y5 y6 y7 ds, σ = [some (.ref a), some (.int st), some (.int most), some (.ref D), y4, y5, y6, y7] ∧ Same H H' ∧ H' p = some (.lst (cs.map V.int)) ∧ H' D = some (.lst (ds.map V.int)) ∧ (∀ d ∈ ds, 0 ≤ d ∧ d < 1000000000000000000) ∧ ds.length ≤ 20 * i) ⟨none, none, none, none, [], rfl, sp, upd_same, by rw [upd_ne hpD.symm]; exact upd_same, by simp, by simp⟩ (fun i σ H' _ h => by obtain ⟨_, _, _, _, _, _, _, h, _⟩ := h; exact sq h) (fun i x σ H1 H2 hi hp' hy => ?_) (fun σ H1 hp' => ?_)
  · obtain ⟨y4, y5, y6, y7, ds, rfl, sm, hpp, hd, hrg, hl⟩ := hp'
    obtain ⟨rfl, gx⟩ := hy
    rw [List.length_map] at hi
    rw [List.getElem?_map, List.getElem?_eq_getElem hi] at gx
    obtain rfl : V.int cs[i] = x := Option.some.inj gx
    walk_at "rds"
    rw [abs_natAbs]
    have hc0 : 0 ≤ ((cs[i].natAbs : Nat) : Int) := Int.natCast_nonneg _
    generalize ((cs[i].natAbs : Nat) : Int) = c at hc0
    refine ite2 (fun e => ?_) (fun e => ?_)
    · have e : c < (10 : Int) ^ (18 : Int).toNat := of_decide_eq_true e
      have e18 : (10 : Int) ^ (18 : Int).toNat = 10 ^ 18 := rfl
      have hc1 : c < 1000000000000000000 := by omega
      walk_at "rds"
      refine ⟨.inl ⟨rfl, _, sq hd⟩, ?_⟩
      walk_at "rds"
      refine ⟨_, _, _, rfl, rfl, hd, by rw [List.length_map]; exact sz1000' (by omega), ?_⟩
      generalize c * 48271 + 11 = m0
      have hm0 : 0 ≤ m0 % 2147483647 := Int.emod_nonneg _ (by decide)
      have hm1 : m0 % 2147483647 < 2147483647 := Int.emod_lt_of_pos _ (by decide)
      have e1 : upd H2 D (.lst (ds.map V.int ++ [.int c])) D = some (.lst ((ds ++ [c]).map V.int)) := lst_app
      have s1 : Same H (upd H2 D (.lst (ds.map V.int ++ [.int c]))) := same_mut sm hD
      have p1 : (upd H2 D (.lst (ds.map V.int ++ [.int c]))) p = some (.lst (cs.map V.int)) := by rw [upd_ne hpD]; exact hpp
      have r1 := rng_app2 hrg hc0 hc1
      have l1 : (ds ++ [c]).length ≤ 20 * i + 1 := by rw [List.length_append, List.length_singleton]; omega
      generalize upd H2 D (.lst (ds.map V.int ++ [.int c])) = H3 at e1 s1 p1
      generalize ds ++ [c] = ds1 at e1 r1 l1
      walk_at "rds"
      refine ⟨.inl ⟨rfl, _, sq e1⟩, ?_⟩
      walk_at "rds"
      refine ⟨_, _, _, rfl, rfl, e1, by rw [List.length_map]; exact sz1000' (by omega), ?_⟩
      have e2 : upd H3 D (.lst (ds1.map V.int ++ [.int ((m0 % 2147483647 * 16807 + c / 9 + 3) % 2147483647 / 7)])) D = some (.lst ((ds1 ++ [((m0 % 2147483647 * 16807 + c / 9 + 3) % 2147483647 / 7)]).map V.int)) := lst_app
      have s2 : Same H (upd H3 D (.lst (ds1.map V.int ++ [.int ((m0 % 2147483647 * 16807 + c / 9 + 3) % 2147483647 / 7)]))) := same_mut s1 hD
      have p2 : (upd H3 D (.lst (ds1.map V.int ++ [.int ((m0 % 2147483647 * 16807 + c / 9 + 3) % 2147483647 / 7)]))) p = some (.lst (cs.map V.int)) := by rw [upd_ne hpD]; exact p1
      have r2 := rng_app2 (x := ((m0 % 2147483647 * 16807 + c / 9 + 3) % 2147483647 / 7)) r1 (by omega) (by omega)
      have l2 : (ds1 ++ [((m0 % 2147483647 * 16807 + c / 9 + 3) % 2147483647 / 7)]).length ≤ 20 * i + 2 := by rw [List.length_append, List.length_singleton]; omega
      generalize ds1 ++ [((m0 % 2147483647 * 16807 + c / 9 + 3) % 2147483647 / 7)] = ds2 at e2 r2 l2
      walk_at "rds"
      refine ⟨.inl ⟨rfl, _, sq e2⟩, ?_⟩
      walk_at "rds"
      refine ⟨_, _, _, rfl, rfl, e2, by rw [List.length_map]; exact sz1000' (by omega), ?_⟩
      refine ⟨_, _, _, _, ds2 ++ [_], rfl, same_mut s2 hD, by rw [upd_ne hpD]; exact p2, lst_app, rng_app2 r2 (by omega) (by omega), ?_⟩
      rw [List.length_append, List.length_singleton]; omega
    · walk_at "rds"
      refine for_it walk_range (Pv := fun j σ H' => ∃ y4 y6 y7 ds c, σ = [some (.ref a), some (.int st), some (.int most), some (.ref D), y4, some (.int c), y6, y7] ∧ Same H H' ∧ H' p = some (.lst (cs.map V.int)) ∧ H' D = some (.lst (ds.map V.int)) ∧ (∀ d ∈ ds, 0 ≤ d ∧ d < 1000000000000000000) ∧ ds.length ≤ 20 * i + j ∧ 0 ≤ c) ⟨_, y6, y7, ds, c, rfl, sm, hpp, hd, hrg, by omega, by omega⟩ (fun _ _ _ _ _ => trivial) (fun j x σ H3 H4 hj hp hy => ?_) (fun σ H3 hp => ?_)
      · obtain ⟨z4, z6, z7, ds, c, rfl, sm, hpp, hd, hrg, hl, hc0⟩ := hp
        obtain ⟨rfl, rfl⟩ := hy
        have hj' : j < 20 := hj
        walk_at "rds"
        refine ite2 (fun e => ?_) (fun e => ?_)
        · walk_at "rds"
          refine ⟨.inl ⟨rfl, _, sq hd⟩, ?_⟩
          walk_at "rds"
          refine ⟨_, _, _, rfl, rfl, hd, by rw [List.length_map]; exact sz1000' (by omega), ?_⟩
          walk_at "rds"
          refine ⟨_, _, _, ds ++ [_], _, rfl, same_mut sm hD, by rw [upd_ne hpD]; exact hpp, lst_app, rng_app2 hrg (by omega) (by omega), ?_, by omega⟩
          rw [List.length_append, List.length_singleton]; omega
        · walk_at "rds"
          exact ⟨_, _, _, ds, _, rfl, sm, hpp, hd, hrg, by omega, by omega⟩
      · obtain ⟨z4, z6, z7, ds, c, rfl, sm, hpp, hd, hrg, hl, hc0⟩ := hp
        exact ⟨_, _, _, _, ds, rfl, sm, hpp, hd, hrg, by have : (20 : Int).toNat = 20 := rfl; omega⟩
  · obtain ⟨y4, y5, y6, y7, ds, rfl, sm, hpp, hd, hrg, hl⟩ := hp'
    walk_at "rds"
    refine ⟨D, _, rfl, sq hd, fun r hr => ?_⟩
    obtain ⟨es, ees, hes, hm⟩ := cutV_most ds most
    rw [ees]
    exact q _ r es (sm.trans (same_upd hr)) (same_none sm hr) upd_same (fun d hd => hrg d (hm d hd)) hes
end

/-! ### pairs of ints, in order -/
def leP (a b : Int × Int) : Prop := a.1 < b.1 ∨ (a.1 = b.1 ∧ a.2 ≤ b.2)
def prD (p : Int × Int) : PyData := .tuple [.int p.1, .int p.2]
/-! ### pairs of ints -/
inductive PrL (H : Hp) : List V → List (Int × Int) → Prop
  | nil : PrL H [] []
  | cons {t : Addr} {a b : Int} {xs : List V} {ps : List (Int × Int)} : H t = some (.tup [.int a, .int b]) → PrL H xs ps → PrL H (.ref t :: xs) ((a, b) :: ps)
def prK (H : Hp) : V → Int × Int := fun v => match v with
  | .ref t => (match H t with
    | some (.tup [.int a, .int b]) => (a, b)
    | _ => (0, 0))
  | _ => (0, 0)
theorem prK_at {H : Hp} {t : Addr} {a b : Int} (h : H t = some (.tup [.int a, .int b])) : prK H (.ref t) = (a, b) := by
  unfold prK
  simp only [h]
theorem PrL.tp {H H' : Hp} (t : Tp H H') : ∀ {xs : List V} {ps : List (Int × Int)}, PrL H xs ps → PrL H' xs ps
  | _, _, .nil => .nil
  | _, _, .cons h r => .cons (t _ _ h) (r.tp t)
theorem PrL.on {H H' : Hp} {xs : List V} {ps : List (Int × Int)} (h : PrL H xs ps) (s : Same H H') : PrL H' xs ps := h.tp (Same.tp s)
theorem PrL.snoc {H : Hp} {t : Addr} {a b : Int} (h2 : H t = some (.tup [.int a, .int b])) : ∀ {xs : List V} {ps : List (Int × Int)}, PrL H xs ps → PrL H (xs ++ [.ref t]) (ps ++ [(a, b)])
  | _, _, .nil => .cons h2 .nil
  | _, _, .cons h r => .cons h (r.snoc h2)
theorem PrL.length {H : Hp} : ∀ {xs : List V} {ps : List (Int × Int)}, PrL H xs ps → xs.length = ps.length
  | _, _, .nil => rfl
  | _, _, .cons _ r => by rw [List.length_cons, List.length_cons, r.length]
theorem PrL.eq {H : Hp} : ∀ {xs : List V} {ps : List (Int × Int)}, PrL H xs ps → ps = xs.map (prK H)
  | _, _, .nil => rfl
  | _, _, .cons h r => by rw [List.map_cons, prK_at h, ← r.eq]
theorem PrL.mem {H : Hp} : ∀ {xs : List V} {ps : List (Int × Int)}, PrL H xs ps → ∀ x ∈ xs, ∃ t, x = V.ref t ∧ H t = some (.tup [.int (prK H x).1, .int (prK H x).2])
  | _, _, .nil, _, m => nomatch m
  | _, _, .cons h r, x, m => by
    rcases List.mem_cons.mp m with rfl | m
    · exact ⟨_, rfl, by rw [prK_at h]; exact h⟩
    · exact r.mem x m
theorem PrL.of {H : Hp} : ∀ (ys : List V), (∀ x ∈ ys, ∃ t, x = V.ref t ∧ H t = some (.tup [.int (prK H x).1, .int (prK H x).2])) → PrL H ys (ys.map (prK H))
  | [], _ => .nil
  | y :: r, h => by
    obtain ⟨t, e, ht⟩ := h y List.mem_cons_self
    subst e
    rw [List.map_cons]
    have := PrL.of r (fun z hz => h z (List.mem_cons_of_mem _ hz))
    obtain ⟨a, b, e2⟩ : ∃ a b, prK H (.ref t) = (a, b) := ⟨_, _, rfl⟩
    rw [e2] at ht ⊢
    exact .cons ht this
theorem PrL.dt {K : PySem.W.Frag} {H : Hp} : ∀ {xs : List V} {ps : List (Int × Int)}, PrL H xs ps → DtAll K H none xs (ps.map prD)
  | _, _, .nil => .nil
  | _, _, .cons h r => .cons (.tup (.inl h) (.cons (.int _) (.cons (.int _) .nil))) r.dt
/-- what sorted makes of such a list -/
theorem PrL.sorted {H : Hp} {xs ys : List V} {ps : List (Int × Int)} (h : PrL H xs ps) (hs : SrtO.Srtd (ltP (prK H)) ys) (hb : SrtO.Stb (ltP (prK H)) ys xs) : ∃ qs, PrL H ys qs ∧ qs.Perm ps ∧ qs.Pairwise leP := by
  refine ⟨ys.map (prK H), PrL.of ys (fun x hx => h.mem x (hb.perm.mem_iff.mp hx)), ?_, ?_⟩
  · rw [h.eq]; exact hb.perm.map _
  · rw [List.pairwise_map]
    refine hs.imp fun {x y} e => ?_
    have := SrtO.lexB_no.mp e
    unfold leP
    omega
theorem prs_shaped (ps : List (Int × Int)) : SeqAt.shaped (.list (ps.map prD)) = true ∧ PyData.eqv (.list (ps.map prD)) (.list (ps.map prD)) = true := by
  have key : ∀ ps : List (Int × Int), PyData.canLayAll0 (ps.map prD) = true ∧ PyData.depthAll (ps.map prD) ≤ 1 := by
    intro ps
    induction ps with
    | nil => exact ⟨by simp [PyData.canLayAll0], by simp [PyData.depthAll]⟩
    | cons p r ih =>
      rw [List.map_cons]
      constructor
      · rw [PyData.canLayAll0, ih.1]; simp [prD, PyData.canLay0, PyData.canLayAll0]
      · rw [PyData.depthAll]
        have : (prD p).depth ≤ 1 := by simp [prD, PyData.depth, PyData.depthAll]
        have := ih.2
        omega
  have l : (PyData.list (ps.map prD)).canLay0 = true := by rw [PyData.canLay0]; exact (key ps).1
  refine ⟨?_, SeqAt.eqv_refl _ l⟩
  unfold SeqAt.shaped
  rw [l, decide_eq_true (by rw [PyData.depth]; have := (key ps).2; omega)]; rfl

/-! ### max(xs), min(xs, default=None) of a list of data; sorted(xs) of data; x < y of data -/
theorem Vals.back {xs : List V} {us : List Value} (h : Vals xs us) {i : Nat} {u : Value} (e : us[i]? = some u) : ∃ x, xs[i]? = some x ∧ RelV x u := by
  have hi : i < us.length := (List.getElem?_eq_some_iff.mp e).1
  have hi' : i < xs.length := by rw [h.length]; exact hi
  obtain ⟨v, hv, r⟩ := h.get (List.getElem?_eq_getElem hi')
  rw [e] at hv
  cases hv
  exact ⟨_, List.getElem?_eq_getElem hi', r⟩
section
open PySem.W
variable {X : Cx}
def rMaxDt (K : PySem.W.Frag) : List V → Hp → VK → Prop := fun vs H Q => ∃ (l : Addr) (xs : List V) (d : PyData) (ds : List PyData), vs = [.ref l] ∧ SqL K H l xs ∧ DpAll K H xs (d :: ds) ∧ AlikeAll (d :: ds) ∧ PyData.depthAll (d :: ds) ≤ 60 ∧
  ∀ (i : Nat) v, xs[i]? = some v → (d :: ds)[i]? = some (maxD d ds) → Q v H
theorem cr_maxDt (hc : X.calm = true) (hu : X.A.units + 65 < cLine) : CallR X (.builtin "max") (rMaxDt X.K) := by
  intro pins s σ H vs us Q I r h
  obtain ⟨l, xs, d, ds, rfl, hs, hd, ha, hdep, q⟩ := h
  obtain ⟨its, rv, hl, hz⟩ := I.list hs
  rw [Vals.ref1 r]
  obtain ⟨as, hr⟩ := Dp.readsAll I _ _ _ hd rv
  have hr' : ReadsAll s.heap its.toArray.toList (d :: ds) as := hr
  have hn : its.toArray.size = ds.length + 1 := readsAll_len hr'
  refine call_max_walkH (iter_listW (A := X.A.in1) (I.ok.hd hc) hl.isList fun s₂ e W st hfp hw hk => ?_)
  refine ⟨_, _, _, _, _, _, _, s.heap, _, rfl, W, st, hfp, by omega, hw, hk, cmpIn_gt (A := X.A.in1) hr' ha (by show X.A.units + 1 + _ < _; omega), fun v s' hP m => ?_⟩
  obtain ⟨h', tk, rfl, hk'⟩ := moved_old e rfl m
  have e1 : its.toArray.size - 1 = ds.length := by omega
  obtain ⟨l1, e2⟩ := argBest_fold (fun a b => dataLt b a) PyData.none d ds ds.length (Nat.le_refl _)
  rw [List.take_length] at e2
  rw [e1] at hP
  obtain ⟨x, gx, rx⟩ := Vals.back rv (by rw [← Array.getElem?_toList] at hP; exact hP)
  refine ⟨x, H, I.kept hk', rx, q _ x gx ?_⟩
  rw [List.getD_eq_getElem?_getD] at e2
  have hlt : argBest (fun i j => (fun a b => dataLt b a) ((d :: ds).getD i .none) ((d :: ds).getD j .none)) ds.length < (d :: ds).length := Nat.lt_succ_of_le l1
  rw [List.getElem?_eq_getElem hlt] at e2
  exact (List.getElem?_eq_getElem hlt).trans (congrArg some e2)
/-- x < y of data -/
def rLtD (K : PySem.W.Frag) : R2 := fun x y H Q => ∃ d e, Dp K H x d ∧ Dp K H y e ∧ alike d e = true ∧ d ≠ .none ∧ d.depth ≤ 60 ∧ Q (.bl (dataLt d e)) H
theorem op_ltDt (hu : X.A.units + 65 < cLine) : OpR X (compareOp .Lt) (rLtD X.K) := by
  intro pins s σ H x y v u Q I rx ry h
  obtain ⟨d, e, hd, he, al, nn, dp, q⟩ := h
  obtain ⟨as, r1⟩ := Dp.reads I d x v hd rx
  obtain ⟨bs, r2⟩ := Dp.reads I e y u he ry
  have z := rcLt_alike d e X.A s v u as bs r1 r2 al nn (by have := Nat.min_le_left d.depth e.depth; omega) X.prog X.w X.xe (EP X pins σ Q) ⟨.bl _, H, I, rfl, q⟩
  exact z
end

/-! ### max of a list of pairs of ints -/
theorem maxD_pr : ∀ (ps : List (Int × Int)) (p : Int × Int), ∃ b, PySem.W.maxD (prD p) (ps.map prD) = prD b ∧ b ∈ p :: ps ∧ ∀ y ∈ p :: ps, leP y b
  | [], p => ⟨p, rfl, List.mem_cons_self, fun y m => by rw [List.mem_singleton.mp m]; exact .inr ⟨rfl, Int.le_refl _⟩⟩
  | q :: ps, p => by
    have e : PySem.W.maxD (prD p) ((q :: ps).map prD) = PySem.W.maxD (if PySem.W.dataLt (prD p) (prD q) then prD q else prD p) (ps.map prD) := rfl
    have l : PySem.W.dataLt (prD p) (prD q) = decide (p.1 < q.1 ∨ (p.1 = q.1 ∧ p.2 < q.2)) := PySem.W.dataLt_ii _ _ _ _
    by_cases h : p.1 < q.1 ∨ (p.1 = q.1 ∧ p.2 < q.2)
    · rw [l, if_pos (decide_eq_true h)] at e
      obtain ⟨b, e2, m, al⟩ := maxD_pr ps q
      refine ⟨b, e.trans e2, List.mem_cons_of_mem _ m, fun y my => ?_⟩
      rcases List.mem_cons.mp my with rfl | my
      · have := al q List.mem_cons_self
        unfold leP at *; omega
      · exact al y my
    · rw [l, if_neg (by rw [decide_eq_false h]; decide)] at e
      obtain ⟨b, e2, m, al⟩ := maxD_pr ps p
      refine ⟨b, e.trans e2, ?_, fun y my => ?_⟩
      · rcases List.mem_cons.mp m with rfl | m
        · exact List.mem_cons_self
        · exact List.mem_cons_of_mem _ (List.mem_cons_of_mem _ m)
      · rcases List.mem_cons.mp my with rfl | my
        · exact al y List.mem_cons_self
        · rcases List.mem_cons.mp my with rfl | my
          · have := al p List.mem_cons_self
            unfold leP at *; omega
          · exact al y (List.mem_cons_of_mem _ my)
theorem prs_alike (ps : List (Int × Int)) : PySem.W.AlikeAll (ps.map prD) := by
  refine ⟨fun x mx y my => ?_, fun x mx => ?_⟩
  · obtain ⟨a, _, rfl⟩ := List.mem_map.mp mx
    obtain ⟨b, _, rfl⟩ := List.mem_map.mp my
    simp [prD, PySem.W.alike, PySem.W.alikeAll]
  · obtain ⟨a, _, rfl⟩ := List.mem_map.mp mx
    unfold prD; intro z; cases z
theorem prs_depth : ∀ (ps : List (Int × Int)), PyData.depthAll (ps.map prD) ≤ 3
  | [] => by simp [PyData.depthAll]
  | p :: ps => by
    have := prs_depth ps
    rw [List.map_cons, PyData.depthAll]
    have : (prD p).depth ≤ 3 := by simp [prD, PyData.depth, PyData.depthAll]
    omega
theorem PrL.at_ {H : Hp} : ∀ {xs : List V} {ps : List (Int × Int)} {i : Nat} {v : V}, PrL H xs ps → xs[i]? = some v → ∃ t p, v = .ref t ∧ ps[i]? = some p ∧ H t = some (.tup [.int p.1, .int p.2])
  | _, _, _, _, .nil, e => by simp at e
  | _, _, 0, _, .cons h _, e => by simp at e; subst e; exact ⟨_, _, rfl, rfl, h⟩
  | _, _, i + 1, v, .cons _ r, e => by
    obtain ⟨t, p, h1, h2, h3⟩ := r.at_ (i := i) (v := v) (by simpa using e)
    exact ⟨t, p, h1, by simpa using h2, h3⟩
theorem max_pr {K : PySem.W.Frag} {H : Hp} {l : Addr} {xs : List V} {ps : List (Int × Int)} {Q : VK} (hl : H l = some (.lst xs)) (pk : PrL H xs ps) (n : 0 < ps.length) (q : ∀ t p, p ∈ ps → H t = some (.tup [.int p.1, .int p.2]) → (∀ y ∈ ps, leP y p) → Q (.ref t) H) : rMaxDt K [.ref l] H Q := by
  cases ps with
  | nil => exact absurd n (Nat.lt_irrefl _)
  | cons p ps =>
    refine ⟨l, xs, prD p, ps.map prD, rfl, sq hl, DtAll.dp _ _ (PrL.dt pk), prs_alike (p :: ps), Nat.le_trans (prs_depth (p :: ps)) (by decide), fun i v gx gd => ?_⟩
    obtain ⟨b, eb, mb, al⟩ := maxD_pr ps p
    obtain ⟨t, p2, rfl, g2, ht⟩ := pk.at_ gx
    rw [eb] at gd
    have gd : ((p :: ps).map prD)[i]? = some (prD b) := gd
    rw [List.getElem?_map, g2] at gd
    have e : prD p2 = prD b := Option.some.inj gd
    obtain rfl : p2 = b := by
      unfold prD at e
      injection e with e
      injection e with e1 e
      injection e with e2 _
      injection e1 with e1
      injection e2 with e2
      exact Prod.ext e1 e2
    exact q t p2 mb ht al
theorem cutV_take {α : Type} (f : α → V) (xs : List α) (n : Nat) : cutV (xs.map f) none (some (n : Int)) = (xs.take n).map f := by
  unfold cutV
  rw [HT.sIx_nat, HT.sIx_none, List.drop_zero, Nat.sub_zero, List.length_map, List.map_take]
  rcases Nat.le_total n xs.length with h | h
  · rw [Nat.min_eq_left h]
  · rw [Nat.min_eq_right h, List.take_of_length_le (by rw [List.length_map]; exact Nat.le_refl _), List.take_of_length_le (by rw [List.length_map]; exact h)]

/-! ### blocks as data, dicts of them -/
abbrev VD := V × PyData
abbrev Sub := List (Int × VD)
def subV (s : Sub) : List (Key × V) := kvs Sum.inl (fun x : VD => x.1) s
def IsB (d : PyData) : Prop := ∃ e n h r, d = .tuple [.int e, .int n, .int h, r]
def eD : PyData → Int
  | .tuple (.int e :: _) => e
  | _ => 0
def nD : PyData → Int
  | .tuple (_ :: .int e :: _) => e
  | _ => 0
def hD : PyData → Int
  | .tuple (_ :: _ :: .int e :: _) => e
  | _ => 0
/-- a block that may stand in a dict -/
structure OkB (K : PySem.W.Frag) (H : Hp) (x : VD) : Prop where
  dt : Dt K H none x.1 x.2
  nl : noL x.2 = true
  ly : Ly 6 x.2
  is : IsB x.2
theorem OkB.tp {K : PySem.W.Frag} {H H' : Hp} {x : VD} (h : OkB K H x) (t : Tp H H') : OkB K H' x := { h with dt := Dt.keep t _ _ h.nl h.dt }
theorem OkB.on {K : PySem.W.Frag} {H H' : Hp} {x : VD} (h : OkB K H x) (s : Same H H') : OkB K H' x := h.tp (Same.tp s)
theorem OkB.at_ {K : PySem.W.Frag} {H : Hp} {x : VD} (h : OkB K H x) : ∃ a r, x.1 = .ref a ∧ TupAt K H a [.int (eD x.2), .int (nD x.2), .int (hD x.2), r] := by
  obtain ⟨e, n, i, r, ed⟩ := h.is
  have hd := h.dt
  rw [ed] at hd ⊢
  obtain ⟨v, d⟩ := x
  have hd : Dt K H none v _ := hd
  cases hd with
  | tup ha hx =>
    cases hx with
    | cons h1 r1 => cases h1; cases r1 with
      | cons h2 r2 => cases h2; cases r2 with
        | cons h3 r3 => cases h3; cases r3 with
          | cons h4 r4 => cases r4; exact ⟨_, _, rfl, ha⟩
structure SubAt (K : PySem.W.Frag) (H : Hp) (a : Addr) (s : Sub) : Prop where
  at_ : H a = some (.dK (subV s))
  ok : ∀ x ∈ s, OkB K H x.2
  kk : kOk s
  ln : s.length ≤ 1000
theorem SubAt.keep {K : PySem.W.Frag} {H H' : Hp} {a : Addr} {s : Sub} (h : SubAt K H a s) (e : H' a = H a) (t : Tp H H') : SubAt K H' a s := { h with at_ := by rw [e]; exact h.at_, ok := fun x m => (h.ok x m).tp t }
def rm (s : Sub) (e : Int) : Sub := s.filter fun k => decide (k.1 ≠ e)
theorem dropK_rm (s : Sub) (e : Int) : dropK (subV s) (Sum.inl e) = subV (rm s e) := by
  unfold dropK subV kvs rm
  rw [List.filter_map]
  congr 1
  refine List.filter_congr fun k _ => ?_
  show decide ((Sum.inl k.1 : Key) ≠ Sum.inl e) = decide (k.1 ≠ e)
  by_cases h : k.1 = e <;> simp [h]
theorem gA_rm {s : Sub} (e c : Int) : gA (rm s e) c = if c = e then none else gA s c := by
  induction s with
  | nil => unfold rm gA; simp
  | cons k r ih =>
    unfold rm gA at ih ⊢
    rw [List.filter_cons]
    by_cases h : k.1 = e
    · rw [if_neg (by simp [h]), ih, List.find?_cons]
      by_cases hc : c = e
      · rw [if_pos hc, if_pos hc]
      · rw [if_neg hc, if_neg hc, decide_eq_false (fun z => hc (by rw [← z, h]))]
    · rw [if_pos (by simp [h]), List.find?_cons, List.find?_cons]
      by_cases hk : k.1 = c
      · rw [decide_eq_true hk, if_neg (fun z => h (by rw [hk, z]))]
      · rw [decide_eq_false hk]; exact ih
theorem rm_ok {s : Sub} {e : Int} (h : kOk s) : kOk (rm s e) := h.sublist (List.Sublist.map _ List.filter_sublist)
theorem rm_len (s : Sub) (e : Int) : (rm s e).length ≤ s.length := List.length_filter_le _ _
theorem gA_snoc {s : Sub} {e : Int} {b : VD} (c : Int) : gA (s ++ [(e, b)]) c = (gA s c).or (if c = e then some b else none) := by
  unfold gA
  rw [List.find?_append]
  cases s.find? (fun k => decide (k.1 = c)) with
  | some k => rfl
  | none =>
    rw [List.find?_cons]
    by_cases h : e = c
    · rw [decide_eq_true h, if_pos h.symm]; rfl
    · rw [decide_eq_false h, if_neg (fun z => h z.symm)]; rfl
theorem pA_new {s : Sub} {e : Int} {b : VD} (h : gA s e = none) : pA s e b = s ++ [(e, b)] := by
  unfold pA
  rw [if_neg (by intro z; exact gA_none.mp h (by simpa using z))]
theorem kOk_new {s : Sub} {e : Int} {b : VD} (k : kOk s) (h : gA s e = none) : kOk (s ++ [(e, b)]) := by
  have := pA_ok e b k
  rw [pA_new h] at this
  exact this
theorem decV (i j : Int) : decide (V.int i = V.int j) = decide (i = j) := by
  by_cases h : i = j
  · rw [h, decide_eq_true rfl, decide_eq_true rfl]
  · rw [decide_eq_false h, decide_eq_false (fun z => h (V.int.inj z))]
/-! ### the chain -/
def chF (rt : V) (A W : Addr) : List (Str × V) := putF "_waiting" (.ref W) (putF "_connected" (.ref A) (putF "root" rt []))
structure ChAt (Cc : Addr) (K : PySem.W.Frag) (H : Hp) (p A W : Addr) (rt : VD) (con wai : Sub) : Prop where
  ins : ∃ dx, H p = some (.ins Cc dx (chF rt.1 A W))
  rt : OkB K H rt
  ca : SubAt K H A con
  wa : SubAt K H W wai
  aw : A ≠ W
theorem ChAt.on {Cc p A W : Addr} {K : PySem.W.Frag} {H H' : Hp} {rt : VD} {con wai : Sub} (h : ChAt Cc K H p A W rt con wai) (s : Same H H') : ChAt Cc K H' p A W rt con wai :=
  { h with ins := h.ins.imp fun _ e => s _ _ e, rt := h.rt.on s, ca := h.ca.keep (by rw [h.ca.at_]; exact s _ _ h.ca.at_) (Same.tp s), wa := h.wa.keep (by rw [h.wa.at_]; exact s _ _ h.wa.at_) (Same.tp s) }
theorem ne_kind {H : Hp} {a b : Addr} {o u : HO} (e : H a = some o) (f : H b = some u) (n : o ≠ u) : a ≠ b := fun z => by
  rw [z, f] at e; exact n (Option.some.inj e).symm
theorem tp_upd {H : Hp} {a : Addr} {o u : HO} (e : H a = some u) (n : ∀ xs, u ≠ .tup xs) : Tp H (upd H a o) := fun b xs f => by
  rw [upd_ne (ne_kind f e (fun z => n xs z.symm))]; exact f
theorem ChAt.delW {Cc p A W : Addr} {K : PySem.W.Frag} {H : Hp} {rt : VD} {con wai : Sub} (h : ChAt Cc K H p A W rt con wai) (e : Int) : ChAt Cc K (upd H W (.dK (subV (rm wai e)))) p A W rt con (rm wai e) := by
  have tp := tp_upd (o := .dK (subV (rm wai e))) h.wa.at_ (by intro _ z; cases z)
  exact { h with
    ins := h.ins.imp fun _ i => by rw [upd_ne (ne_kind i h.wa.at_ (by intro z; cases z))]; exact i
    rt := h.rt.tp tp, ca := h.ca.keep (upd_ne h.aw) tp
    wa := ⟨upd_same, fun x m => (h.wa.ok x (List.mem_filter.mp m).1).tp tp, rm_ok h.wa.kk, Nat.le_trans (rm_len _ _) h.wa.ln⟩ }
theorem put_sub {s : Sub} {e : Int} {b : VD} (g : gA s e = none) : putK (subV s) (Sum.inl e) b.1 = subV (s ++ [(e, b)]) := by
  unfold subV
  rw [pA_kvs inlI (fun x : VD => x.1) s e b, pA_new g]
theorem ChAt.addC {Cc p A W : Addr} {K : PySem.W.Frag} {H : Hp} {rt : VD} {con wai : Sub} {e : Int} {b : VD} (h : ChAt Cc K H p A W rt con wai) (ok : OkB K H b) (g : gA con e = none) (l : con.length < 1000) : ChAt Cc K (upd H A (.dK (subV (con ++ [(e, b)])))) p A W rt (con ++ [(e, b)]) wai := by
  have tp := tp_upd (o := .dK (subV (con ++ [(e, b)]))) h.ca.at_ (by intro _ z; cases z)
  exact { h with
    ins := h.ins.imp fun _ i => by rw [upd_ne (ne_kind i h.ca.at_ (by intro z; cases z))]; exact i
    rt := h.rt.tp tp, wa := h.wa.keep (upd_ne h.aw.symm) tp
    ca := ⟨upd_same, fun x m => by
      rcases List.mem_append.mp m with m | m
      · exact (h.ca.ok x m).tp tp
      · rw [List.mem_singleton.mp m]; exact ok.tp tp, kOk_new h.ca.kk g, by rw [List.length_append]; exact l⟩ }
theorem ChAt.addW {Cc p A W : Addr} {K : PySem.W.Frag} {H : Hp} {rt : VD} {con wai : Sub} {e : Int} {b : VD} (h : ChAt Cc K H p A W rt con wai) (ok : OkB K H b) (g : gA wai e = none) (l : wai.length < 1000) : ChAt Cc K (upd H W (.dK (subV (wai ++ [(e, b)])))) p A W rt con (wai ++ [(e, b)]) := by
  have tp := tp_upd (o := .dK (subV (wai ++ [(e, b)]))) h.wa.at_ (by intro _ z; cases z)
  exact { h with
    ins := h.ins.imp fun _ i => by rw [upd_ne (ne_kind i h.wa.at_ (by intro z; cases z))]; exact i
    rt := h.rt.tp tp, ca := h.ca.keep (upd_ne h.aw) tp
    wa := ⟨upd_same, fun x m => by
      rcases List.mem_append.mp m with m | m
      · exact (h.wa.ok x m).tp tp
      · rw [List.mem_singleton.mp m]; exact ok.tp tp, kOk_new h.wa.kk g, by rw [List.length_append]; exact l⟩ }
theorem ChAt.lst {Cc p A W R : Addr} {K : PySem.W.Frag} {H : Hp} {rt : VD} {con wai : Sub} {xs xs' : List V} (h : ChAt Cc K H p A W rt con wai) (e : H R = some (.lst xs)) : ChAt Cc K (upd H R (.lst xs')) p A W rt con wai := by
  have tp := tp_upd (o := .lst xs') e (by intro _ z; cases z)
  exact { h with
    ins := h.ins.imp fun _ i => by rw [upd_ne (ne_kind i e (by intro z; cases z))]; exact i
    rt := h.rt.tp tp, ca := h.ca.keep (upd_ne (ne_kind h.ca.at_ e (by intro z; cases z))) tp, wa := h.wa.keep (upd_ne (ne_kind h.wa.at_ e (by intro z; cases z))) tp }
theorem subV_val {s : Sub} (e : Int) : valV (subV s) (Sum.inl e : Key) = (gA s e).map (fun x : VD => x.1) := by unfold subV; rw [gA_kvs inlI]
/-- one waiting block looked at -/
def conn1 (st : Sub × Sub × List VD) (e : Int) : Sub × Sub × List VD := match gA st.2.1 e with
  | none => st
  | some b => match gA st.1 (nD b.2) with
    | none => st
    | some p => if hD b.2 = hD p.2 + 1 then (st.1 ++ [(e, b)], rm st.2.1 e, st.2.2 ++ [b]) else (st.1, rm st.2.1 e, st.2.2)
def conn (con wai : Sub) (es : List Int) : Sub × Sub × List VD := es.foldl conn1 (con, wai, [])
def stI (con wai : Sub) (es : List Int) (i : Nat) : Sub × Sub × List VD := conn con wai (es.take i)
theorem stI_succ {con wai : Sub} {es : List Int} {i : Nat} {e : Int} (h : es[i]? = some e) : stI con wai es (i + 1) = conn1 (stI con wai es i) e := by
  unfold stI conn
  rw [List.take_add_one, h, List.foldl_append]; rfl
structure Cinv (con wai : Sub) (es : List Int) (i : Nat) (st : Sub × Sub × List VD) : Prop where
  w : ∀ j e, i ≤ j → es[j]? = some e → gA st.2.1 e = gA wai e ∧ gA st.1 e = none
  l : st.1.length + st.2.1.length ≤ con.length + wai.length
  o : st.2.2.length ≤ i
theorem cinv0 {con wai : Sub} {es : List Int} (h : ∀ e ∈ es, gA con e = none) : Cinv con wai es 0 (con, wai, []) := ⟨fun j e _ g => ⟨rfl, h e (List.mem_of_getElem? g)⟩, Nat.le_refl _, Nat.le_refl _⟩
theorem rm_lt {s : Sub} {e : Int} {b : VD} (h : gA s e = some b) : (rm s e).length < s.length := by
  unfold rm
  refine Nat.lt_of_le_of_ne (List.length_filter_le _ _) fun z => ?_
  have := List.length_filter_eq_length_iff.mp z (e, b) (gA_some h)
  simp at this
theorem conn1_none {st : Sub × Sub × List VD} {e : Int} {b : VD} (w : gA st.2.1 e = some b) (c : gA st.1 (nD b.2) = none) : conn1 st e = st := by
  unfold conn1; rw [w]; dsimp only; rw [c]
theorem conn1_yes {st : Sub × Sub × List VD} {e : Int} {b p : VD} (w : gA st.2.1 e = some b) (c : gA st.1 (nD b.2) = some p) (h : hD b.2 = hD p.2 + 1) : conn1 st e = (st.1 ++ [(e, b)], rm st.2.1 e, st.2.2 ++ [b]) := by
  unfold conn1; rw [w]; dsimp only; rw [c]; exact if_pos h
theorem conn1_no {st : Sub × Sub × List VD} {e : Int} {b p : VD} (w : gA st.2.1 e = some b) (c : gA st.1 (nD b.2) = some p) (h : ¬ hD b.2 = hD p.2 + 1) : conn1 st e = (st.1, rm st.2.1 e, st.2.2) := by
  unfold conn1; rw [w]; dsimp only; rw [c]; exact if_neg h
theorem Cinv.step {con wai : Sub} {es : List Int} {i : Nat} {st : Sub × Sub × List VD} {e : Int} {b : VD} (h : Cinv con wai es i st) (nd : es.Nodup) (g : es[i]? = some e) (gb : gA wai e = some b) : Cinv con wai es (i + 1) (conn1 st e) := by
  have w0 := h.w i e (Nat.le_refl _) g
  rw [gb] at w0
  have ne : ∀ j e', i + 1 ≤ j → es[j]? = some e' → e' ≠ e := fun j e' hj g' z => by
    have := (List.getElem?_inj (List.getElem?_eq_some_iff.mp g).1 nd).mp (g.trans (by rw [g', z]))
    omega
  have ll := rm_lt w0.1
  have lh := h.l
  cases gc : gA st.1 (nD b.2) with
  | none =>
    rw [conn1_none w0.1 gc]
    exact ⟨fun j e' hj g' => h.w j e' (by omega) g', lh, Nat.le_succ_of_le h.o⟩
  | some p =>
    by_cases hh : hD b.2 = hD p.2 + 1
    · rw [conn1_yes w0.1 gc hh]
      refine ⟨fun j e' hj g' => ?_, ?_, ?_⟩
      · have := h.w j e' (by omega) g'
        have n := ne j e' hj g'
        exact ⟨by show gA (rm st.2.1 e) e' = _; rw [gA_rm, if_neg n]; exact this.1, by show gA (st.1 ++ [(e, b)]) e' = none; rw [gA_snoc, this.2, if_neg n]; rfl⟩
      · show (st.1 ++ [(e, b)]).length + (rm st.2.1 e).length ≤ _
        rw [List.length_append, List.length_singleton]; omega
      · show (st.2.2 ++ [b]).length ≤ i + 1
        rw [List.length_append, List.length_singleton]; have := h.o; omega
    · rw [conn1_no w0.1 gc hh]
      refine ⟨fun j e' hj g' => ?_, ?_, Nat.le_succ_of_le h.o⟩
      · have := h.w j e' (by omega) g'
        have n := ne j e' hj g'
        exact ⟨by show gA (rm st.2.1 e) e' = _; rw [gA_rm, if_neg n]; exact this.1, this.2⟩
      · show st.1.length + (rm st.2.1 e).length ≤ _
        omega
def spPlace (K : PySem.W.Frag) : Sp := fun vs H Q _ => ∃ b : VD, vs = [b.1] ∧ OkB K H b ∧ ∀ t, H t = none → Q (.ref t) (upd H t (.tup [.int (hD b.2), .int (eD b.2)]))
def spHas (K : PySem.W.Frag) : Sp := fun vs H Q _ => ∃ (A : Addr) (con : Sub) (b : VD), vs = [.ref A, b.1] ∧ SubAt K H A con ∧ OkB K H b ∧ Q (.bl (match gA con (nD b.2) with
  | none => false
  | some p => decide (hD b.2 = hD p.2 + 1))) H
def But (S : List Addr) (H H' : Hp) : Prop := ∀ b o, b ∉ S → H b = some o → H' b = some o
/-- nothing is gone -/
def Fr (H H' : Hp) : Prop := ∀ l, H' l = none → H l = none
theorem Fr.same {H H' : Hp} (s : Same H H') : Fr H H' := fun _ z => same_none s z
theorem Same.but {S : List Addr} {H H' : Hp} (s : Same H H') : But S H H' := fun b o _ h => s b o h
theorem But.trans {S : List Addr} {H H1 H2 : Hp} (a : But S H H1) (b : But S H1 H2) : But S H H2 := fun c o n h => b c o n (a c o n h)
theorem but_upd {S : List Addr} {a : Addr} {o : HO} {H : Hp} (h : a ∈ S) : But S H (upd H a o) := fun b u n e => by
  rw [upd_ne (fun z => n (by rw [z]; exact h))]; exact e
theorem fr_upd {H : Hp} {a : Addr} {o u : HO} (e : H a = some u) : Fr H (upd H a o) := fun b z => by
  by_cases h : b = a
  · rw [h, upd_same] at z; cases z
  · rw [upd_ne h] at z; exact z
def spConnW (Cc : Addr) (K : PySem.W.Frag) : Sp := fun vs H Q _ => ∃ (p A W : Addr) (rt : VD) (con wai : Sub), vs = [.ref p] ∧ ChAt Cc K H p A W rt con wai ∧ wai.length < 64 ∧ con.length + wai.length ≤ 900 ∧ (∀ x ∈ wai, gA con x.1 = none) ∧
  ∀ H' (es : List Int) l (zs : List VD), es.Perm (wai.map (·.1)) → es.Pairwise (· ≤ ·) → But [A, W] H H' → Fr H H' → ChAt Cc K H' p A W rt (conn con wai es).1 (conn con wai es).2.1 → H l = none → H' l = some (.lst (zs.map (·.1))) → zs.Perm (conn con wai es).2.2 → zs.Pairwise (fun x y => LexP (hD x.2, eD x.2) (hD y.2, eD y.2)) → Q (.ref l) H'
section
variable {P : Program} {w : World} {K : PySem.W.Frag} {mg : Str → Option Value} {base : Heap}
theorem cal_at {k : Nat} {x : Str} {sp : Sp} {f : Addr} (c : Cal P w K mg base k x sp []) (h : mg x = some (.ref f)) : C8.CalAt P w K mg base k f sp := by
  obtain ⟨f', fd, ps, ds, F, hm, kp, b, d⟩ := c.ex
  rw [h] at hm
  cases hm
  cases d
  exact ⟨fd, ps, F, kp, b⟩
theorem cal_mg {k : Nat} {x : Str} {sp : Sp} (c : Cal P w K mg base k x sp []) : ∃ f, mg x = some (.ref f) ∧ C8.CalAt P w K mg base k f sp := by
  obtain ⟨f', fd, ps, ds, F, hm, kp, b, d⟩ := id c.ex
  exact ⟨f', hm, cal_at c hm⟩
theorem c_place {C_Ballot : Addr} {C_Chain : Addr} {C_BadBlock : Addr} (T : Txt K mg C_Ballot C_Chain C_BadBlock) : Cal P w K mg base 1 "place" (spPlace K) [] := by
  refine cal T.d_place sc_place (fun vs H Q E h => ?_) (fun f cdv A outer s H vs Q E hr h => ?_)
  · obtain ⟨b, rfl, _⟩ := h; rfl
  obtain ⟨b, rfl, ok, q⟩ := h
  obtain ⟨a, r, ea, ha⟩ := ok.at_
  rw [ea]
  refine ⟨_, (pss_one (ps_ret (pe_tup (pa_cons (pe_ix (kixt (K := K)) (pv 0) pe_int (fun _ _ => rfl)) (pa_cons (pe_ix (kixt (K := K)) (pv 0) pe_int (fun _ _ => rfl)) pa_nil))))), ?_⟩
  walk_at "rds"
  refine ⟨a, _, 2, _, rfl, rfl, ha.sq, atI_nat (j := 2) rfl, ?_⟩
  walk_at "rds"
  refine ⟨a, _, 0, _, rfl, rfl, ha.sq, atI_nat (j := 0) rfl, ?_⟩
  walk_at "rds"
  exact q
theorem c_has_parent {C_Ballot : Addr} {C_Chain : Addr} {C_BadBlock : Addr} (T : Txt K mg C_Ballot C_Chain C_BadBlock) : Cal P w K mg base 1 "has_parent" (spHas K) [] := by
  refine cal T.d_has_parent sc_has_parent (fun vs H Q E h => ?_) (fun f cdv A outer s H vs Q E hr h => ?_)
  · obtain ⟨A, con, b, rfl, _⟩ := h; rfl
  obtain ⟨A, con, b, rfl, ca, ok, q⟩ := h
  obtain ⟨a, r, ea, ha⟩ := ok.at_
  rw [ea]
  refine ⟨_, (pss_cons (ps_set (i := 2) sc_has_parent.nd rfl (Or.inl rfl) (pe_dget1 (hu1 hr) (pv 0) (pe_ix (kixt (K := K)) (pv 1) pe_int (fun _ _ => rfl)) ⟨by rfl, by rfl, by rfl, by rfl⟩))
      (pss_one (ps_ret (pe_and (pe_cmpR op_notN (pv 2) pe_non (nomark _)) (pe_one (pe_cmpR op_eq (pe_ix (kixt (K := K)) (pv 1) pe_int (fun _ _ => rfl)) (pe_op op_add (pe_ix (kixt (K := K)) (pv 2) pe_int (fun _ _ => rfl)) pe_int) (nomark _))))))), ?_⟩
  walk_at "rds"
  refine ⟨.inl ⟨_, .inl ca.at_⟩, ?_⟩
  walk_at "rds"
  refine ⟨a, _, 1, _, rfl, rfl, ha.sq, atI_nat (j := 1) rfl, ?_⟩
  refine ⟨_, DGet.k (k := Sum.inl (nD b.2)) ca.at_, ?_⟩
  unfold subV
  rw [gA_kvs inlI]
  cases g : gA con (nD b.2) with
  | none =>
    rw [g] at q
    walk_at "rds"
    exact q
  | some p =>
    rw [g] at q
    obtain ⟨c, r2, ec, hc⟩ := (ca.ok _ (gA_some g)).at_
    have ec : p.1 = .ref c := ec
    walk_at "rds"
    refine ifT (by show (!decide (p.1 = V.non)) = true; rw [ec]; rfl) ?_
    walk_at "rds"
    refine ⟨a, _, 2, _, rfl, rfl, ha.sq, atI_nat (j := 2) rfl, ?_⟩
    walk_at "rds"
    refine ⟨c, _, 2, _, ec, rfl, hc.sq, atI_nat (j := 2) rfl, ?_⟩
    walk_at "rds"
    rw [decV]
    exact q
theorem m_Chain___connect_waiting {C_Ballot : Addr} {C_Chain : Addr} {C_BadBlock : Addr} (T : Txt K mg C_Ballot C_Chain C_BadBlock) : Met P w K mg base 4 C_Chain "_connect_waiting" (spConnW C_Chain K) [] := by
  have c_has_parent := c_has_parent (P := P) (w := w) (K := K) (base := base) T
  have c_place := c_place (P := P) (w := w) (K := K) (base := base) T
  obtain ⟨fp, mp, cap⟩ := cal_mg c_place
  refine met T.cl_Chain T.me_Chain___connect_waiting sc_Chain___connect_waiting (fun vs H Q E h => ?_) (fun f cdv A outer s H vs Q E hr h => ?_)
  · obtain ⟨p, A, W, rt, con, wai, rfl, _⟩ := h; rfl
  obtain ⟨p, A, W, rt, con, wai, rfl, ch, h64, h900, apt, q⟩ := h
  refine ⟨_, (pss_cons (ps_set (i := 1) sc_Chain___connect_waiting.nd rfl (Or.inl rfl) (pe_lst pa_nil))
      (pss_cons (ps_set (i := 2) sc_Chain___connect_waiting.nd rfl (Or.inl rfl) (pe_callB (call_sortedDI rfl) (by rfl) T.z_sorted (by decide +kernel) (pa_cons (pe_fld (pv 0) rfl) pa_nil)))
      (pss_cons (ps_for PassesOwn.never rfl (pi_list (pv 2)) (pg_name (i := 3) sc_Chain___connect_waiting.nd rfl (Or.inl rfl)) (pss_cons (ps_set (i := 4) sc_Chain___connect_waiting.nd rfl (Or.inl rfl) (pe_dget (by exact hu_of hr) (pe_fld (pv 0) rfl) (pv 3) (fun _ _ => rfl)))
      (pss_one (ps_if (pt_cmp (pc_din (by exact hu_of hr) (pe_ix (kixt (K := K)) (pv 4) pe_int (fun _ _ => rfl)) (pe_fld (pv 0) rfl))) (pss_cons (ps_ddel (pe_fld (pv 0) rfl) (pv 3))
      (pss_one (ps_if (pt_val (pe_c c_has_parent hr (by decide) (by rfl) (pa_cons (pe_fld (pv 0) rfl) (pa_cons (pv 4) pa_nil)))) (pss_cons (ps_dput (hu_of hr) (pe_fld (pv 0) rfl) (pv 3) (pv 4) rfl)
      (pss_one (ps_expr (pe_bm PySem.F.plainAttrs_list PySem.F.slot_list_append PySem.F.type_list_append mt_append (pv 1) (pa_cons (pv 4) pa_nil))))) pss_nil))) pss_nil))))
      (pss_one (ps_ret (pe_callBK (cr_sortBy cap (hr.mono (by decide))) (by rfl) T.z_sorted (by decide +kernel) (pa_cons (pv 1) pa_nil) (pk_cons (pe_gc (v := .ref fp) (by rfl) ⟨_, mp, rfl⟩) pk_nil))))))), ?_⟩
  obtain ⟨dx, gp⟩ := ch.ins
  walk_at "rds"
  intro R hR
  have s1 := same_upd (o := .lst []) hR
  have eR : upd H R (.lst []) R = some (.lst []) := upd_same
  have ch1 := ch.on s1
  generalize upd H R (.lst []) = H1 at s1 eR ch1
  obtain ⟨dx1, gp1⟩ := ch1.ins
  walk_at "rds"
  refine ⟨p, _, dx1, _, _, rfl, gp1, T.cl_Chain, T.na_Chain__waiting, rfl, ?_⟩
  walk_at "rds"
  refine ⟨W, _, wai.map (·.1), rfl, .inl ch1.wa.at_, by unfold subV kvs; rw [List.map_map, List.map_map]; rfl, by rw [List.length_map]; exact h64, fun es ep pe se hep => ?_⟩
  have s2 := s1.trans (same_upd (o := .lst (es.map V.int)) hep)
  have eE : upd H1 ep (.lst (es.map V.int)) ep = some (.lst (es.map V.int)) := upd_same
  have nRE : R ≠ ep := ne_of_none eR hep
  have eR2 := (same_upd (o := .lst (es.map V.int)) hep) _ _ eR
  have hR0 := hR
  have hE0 := same_none s1 hep
  have ch2 := ch.on s2
  generalize upd H1 ep (.lst (es.map V.int)) = H2 at s2 eE eR2 ch2
  have nd : es.Nodup := pe.nodup_iff.mpr ch.wa.kk
  have inw : ∀ e ∈ es, ∃ b, gA wai e = some b := fun e m => by
    obtain ⟨x, hx, rfl⟩ := List.mem_map.mp (pe.mem_iff.mp m)
    exact ⟨_, gA_mem ch.wa.kk hx⟩
  have apt' : ∀ e ∈ es, gA con e = none := fun e m => by
    obtain ⟨x, hx, rfl⟩ := List.mem_map.mp (pe.mem_iff.mp m)
    exact apt x hx
  have lE : es.length < 64 := by rw [pe.length_eq, List.length_map]; exact h64
  walk_at "rds"
  refine ⟨⟨_, sq eE⟩, ?_⟩
  refine for_it (walk_list (K := K) (a := ep) (xs := es.map V.int)) (Pv := fun i σ' H' => ∃ y3 y4, σ' = [some (.ref p), some (.ref R), some (.ref ep), y3, y4] ∧ ChAt C_Chain K H' p A W rt (stI con wai es i).1 (stI con wai es i).2.1 ∧ Cinv con wai es i (stI con wai es i) ∧ H' R = some (.lst ((stI con wai es i).2.2.map (·.1))) ∧ (∀ x ∈ (stI con wai es i).2.2, OkB K H' x) ∧ H' ep = some (.lst (es.map V.int)) ∧ But [A, W] H H' ∧ Fr H H') ⟨none, none, rfl, ch2, cinv0 apt', eR2, (fun _ m => nomatch m), eE, Same.but s2, Fr.same s2⟩ (fun i σ' H' _ h => by obtain ⟨_, _, _, _, _, _, _, h, _⟩ := h; exact sq h) (fun i x σ' Ha Hb hi hp hy => ?_) (fun σ' Ha hp => ?_)
  · obtain ⟨y3, y4, rfl, chi, cv, eRi, okR, eEi, bt, fr⟩ := hp
    obtain ⟨rfl, gx⟩ := hy
    rw [List.length_map] at hi
    have ge : es[i]? = some es[i] := List.getElem?_eq_getElem hi
    rw [List.getElem?_map, ge] at gx
    obtain rfl : V.int es[i] = x := Option.some.inj gx
    have ss := stI_succ (con := con) (wai := wai) ge
    have hm : es[i] ∈ es := List.getElem_mem hi
    generalize es[i] = e at ge ss hm
    obtain ⟨b, gb⟩ := inw e hm
    have cw := cv.w i e (Nat.le_refl _) ge
    have cv2 := cv.step nd ge gb
    rw [← ss] at cv2
    obtain ⟨dxi, gpi⟩ := chi.ins
    rw [gb] at cw
    have gw : gA (stI con wai es i).2.1 e = some b := cw.1
    have okb := chi.wa.ok _ (gA_some gw)
    obtain ⟨a, r, ea, ha⟩ := okb.at_
    have ea : b.1 = .ref a := ea
    have lst := cv.l
    have lst2 := cv.o
    walk_at "rds"
    refine ⟨p, _, dxi, _, _, rfl, gpi, T.cl_Chain, T.na_Chain__waiting, rfl, ?_⟩
    walk_at "rds"
    refine ⟨W, b.1, rfl, .inl ⟨_, Sum.inl e, .inl chi.wa.at_, rfl, by rw [subV_val, gw]; rfl⟩, ?_⟩
    rw [ea]
    walk_at "rds"
    refine ⟨a, _, 1, _, rfl, rfl, ha.sq, atI_nat (j := 1) rfl, ?_⟩
    walk_at "rds"
    refine ⟨p, _, dxi, _, _, rfl, gpi, T.cl_Chain, T.na_Chain__connected, rfl, ?_⟩
    refine ⟨A, _, rfl, DGet.k (k := Sum.inl (nD b.2)) chi.ca.at_, ?_⟩
    rw [subV_val]
    cases gc : gA (stI con wai es i).1 (nD b.2) with
    | none =>
      rw [conn1_none gw gc] at ss
      rw [ss] at cv2
      walk_at "rds"
      exact ⟨_, _, rfl, by rw [ss]; exact chi, by rw [ss]; exact cv2, by rw [ss]; exact eRi, by rw [ss]; exact okR, eEi, bt, fr⟩
    | some q0 =>
      walk_at "rds"
      refine ⟨p, _, dxi, _, _, rfl, gpi, T.cl_Chain, T.na_Chain__waiting, rfl, ?_⟩
      walk_at "rds"
      refine ⟨W, _, Sum.inl e, rfl, chi.wa.at_, rfl, by rw [subV_val, gw]; rfl, ?_⟩
      rw [dropK_rm]
      have ch3 := chi.delW e
      have tp3 := tp_upd (o := .dK (subV (rm (stI con wai es i).2.1 e))) chi.wa.at_ (by intro _ z; cases z)
      have nRW : R ≠ W := ne_kind eRi chi.wa.at_ (by intro z; cases z)
      have nRA : R ≠ A := ne_kind eRi chi.ca.at_ (by intro z; cases z)
      have nEW : ep ≠ W := ne_kind eEi chi.wa.at_ (by intro z; cases z)
      have nEA : ep ≠ A := ne_kind eEi chi.ca.at_ (by intro z; cases z)
      have eR3 : upd Hb W (.dK (subV (rm (stI con wai es i).2.1 e))) R = _ := (upd_ne nRW).trans eRi
      have eE3 : upd Hb W (.dK (subV (rm (stI con wai es i).2.1 e))) ep = _ := (upd_ne nEW).trans eEi
      have bt3 : But [A, W] H (upd Hb W (.dK (subV (rm (stI con wai es i).2.1 e)))) := bt.trans (but_upd (by simp))
      have fr3 : Fr H (upd Hb W (.dK (subV (rm (stI con wai es i).2.1 e)))) := fun l z => fr l (fr_upd chi.wa.at_ l z)
      have okb3 := okb.tp tp3
      have okR3 : ∀ x ∈ (stI con wai es i).2.2, OkB K _ x := fun x m => (okR x m).tp tp3
      generalize upd Hb W (.dK (subV (rm (stI con wai es i).2.1 e))) = H3 at ch3 eR3 eE3 bt3 fr3 okb3 okR3
      obtain ⟨dx3, gp3⟩ := ch3.ins
      walk_at "rds"
      refine ⟨p, _, dx3, _, _, rfl, gp3, T.cl_Chain, T.na_Chain__connected, rfl, ?_⟩
      walk_at "rds"
      refine ⟨A, _, b, by rw [ea]; rfl, ch3.ca, okb3, ?_⟩
      rw [gc]
      walk_at "rds"
      by_cases hh : hD b.2 = hD q0.2 + 1
      · rw [conn1_yes gw gc hh] at ss
        refine ifT (decide_eq_true hh) ?_
        walk_at "rds"
        refine ⟨p, _, dx3, _, _, rfl, gp3, T.cl_Chain, T.na_Chain__connected, rfl, ?_⟩
        walk_at "rds"
        rw [← ea]
        have l3 : (stI con wai es i).1.length < 1000 := by omega
        refine ⟨A, _, rfl, DPut.k (k := Sum.inl e) ch3.ca.at_ (by unfold subV; rw [kvs_len]; exact sz1000' (by omega)), ?_⟩
        rw [put_sub cw.2]
        have ch4 := ch3.addC okb3 cw.2 l3
        have tp4 := tp_upd (o := .dK (subV ((stI con wai es i).1 ++ [(e, b)]))) ch3.ca.at_ (by intro _ z; cases z)
        have eR4 : upd H3 A (.dK (subV ((stI con wai es i).1 ++ [(e, b)]))) R = _ := (upd_ne nRA).trans eR3
        have eE4 : upd H3 A (.dK (subV ((stI con wai es i).1 ++ [(e, b)]))) ep = _ := (upd_ne nEA).trans eE3
        have bt4 : But [A, W] H (upd H3 A (.dK (subV ((stI con wai es i).1 ++ [(e, b)])))) := bt3.trans (but_upd (by simp))
        have fr4 : Fr H (upd H3 A (.dK (subV ((stI con wai es i).1 ++ [(e, b)])))) := fun l z => fr3 l (fr_upd ch3.ca.at_ l z)
        have okb4 := okb3.tp tp4
        have okR4 : ∀ x ∈ (stI con wai es i).2.2, OkB K _ x := fun x m => (okR3 x m).tp tp4
        generalize upd H3 A (.dK (subV ((stI con wai es i).1 ++ [(e, b)]))) = H4 at ch4 eR4 eE4 bt4 fr4 okb4 okR4
        walk_at "rds"
        refine ⟨.inl ⟨rfl, _, sq eR4⟩, ?_⟩
        walk_at "rds"
        refine ⟨R, _, _, rfl, rfl, eR4, sz1000' (by rw [List.length_map]; omega), ?_⟩
        have em : (stI con wai es i).2.2.map (·.1) ++ [b.1] = ((stI con wai es i).2.2 ++ [b]).map (·.1) := by rw [List.map_append]; rfl
        have tp5 := tp_upd (o := .lst ((stI con wai es i).2.2.map (·.1) ++ [b.1])) eR4 (by intro _ z; cases z)
        have kR : ∀ c o, c ≠ R → H4 c = some o → upd H4 R (.lst ((stI con wai es i).2.2.map (·.1) ++ [b.1])) c = some o := fun c o n z => by rw [upd_ne n]; exact z
        have hRn : ∀ c o, H c = some o → c ≠ R := fun c o z y => by rw [y, hR0] at z; cases z
        have ch5 := ch4.lst eR4 (xs' := (stI con wai es i).2.2.map (·.1) ++ [b.1])
        have okR5 : ∀ x ∈ (stI con wai es i).2.2 ++ [b], OkB K (upd H4 R (.lst ((stI con wai es i).2.2.map (·.1) ++ [b.1]))) x := fun x m => by
          rcases List.mem_append.mp m with m | m
          · exact (okR4 x m).tp tp5
          · rw [List.mem_singleton.mp m]; exact okb4.tp tp5
        exact ⟨_, _, rfl, by rw [ss]; exact ch5, cv2, by rw [ss, upd_same, em], by rw [ss]; exact okR5, kR _ _ nRE.symm eE4, fun c o n z => kR c o (hRn c o z) (bt4 c o n z), fun l z => fr4 l (fr_upd eR4 l z)⟩
      · rw [conn1_no gw gc hh] at ss
        refine ifF (decide_eq_false hh) ?_
        exact ⟨_, _, rfl, by rw [ss]; exact ch3, cv2, by rw [ss]; exact eR3, by rw [ss]; exact okR3, eE3, bt3, fr3⟩
  · obtain ⟨y3, y4, rfl, chi, cv, eRi, okR, eEi, bt, fr⟩ := hp
    have ef : stI con wai es (es.map V.int).length = conn con wai es := by
      unfold stI
      rw [List.length_map, List.take_of_length_le (Nat.le_refl _)]
    rw [ef] at chi cv eRi okR
    rw [List.length_map] at cv
    have lo := cv.o
    walk_at "rds"
    refine ⟨R, (conn con wai es).2.2.map fun d => (d.1, (hD d.2, eD d.2)), rfl, rfl, by rw [List.map_map]; exact sq eRi, by rw [List.length_map]; omega, fun x m H1 s1 Q1 q1 => ?_, fun H1 ys l s1 pl pw hl => ?_⟩
    · obtain ⟨d, hd, rfl⟩ := List.mem_map.mp m
      exact ⟨d, rfl, (okR d hd).on s1, fun t ht => q1 t _ (same_upd ht) ht upd_same⟩
    · obtain ⟨zs, pz, ez⟩ := L2.perm_lift (fun d : VD => (d.1, (hD d.2, eD d.2))) pl (conn con wai es).2.2 rfl
      subst ez
      rw [List.map_map]
      have s2 : Same Ha (upd H1 l (.lst (zs.map fun d : VD => d.1))) := s1.trans (same_upd hl)
      have pw2 := List.pairwise_map.mp pw
      exact q _ es l zs pe se (bt.trans (Same.but s2)) (fun c z => fr c (same_none s2 z)) (chi.on s2) (fr l (same_none s1 hl)) upd_same pz pw2
end

/-! ### insert, connected, __init__ -/
def Refd (rt : VD) (con wai : Sub) (b : VD) : Prop := (gA con (eD b.2)).isSome = true ∨ (gA wai (eD b.2)).isSome = true ∨ eD b.2 ≤ eD rt.2 ∨ hD b.2 ≤ hD rt.2
def InsR (rt : VD) (con wai : Sub) (b : VD) (con' wai' : Sub) (out : List VD) : Prop := (Refd rt con wai b ∧ con' = con ∧ wai' = wai ∧ out = []) ∨
  (¬ Refd rt con wai b ∧ ∃ es : List Int, es.Perm ((wai ++ [(eD b.2, b)]).map (·.1)) ∧ es.Pairwise (· ≤ ·) ∧ con' = (conn con (wai ++ [(eD b.2, b)]) es).1 ∧ wai' = (conn con (wai ++ [(eD b.2, b)]) es).2.1 ∧ out = (conn con (wai ++ [(eD b.2, b)]) es).2.2)
def spInsert (Cc : Addr) (K : PySem.W.Frag) : Sp := fun vs H Q _ => ∃ (p A W : Addr) (rt b : VD) (con wai : Sub), vs = [.ref p, b.1] ∧ ChAt Cc K H p A W rt con wai ∧ OkB K H b ∧ wai.length < 63 ∧ con.length + wai.length ≤ 800 ∧ (∀ x ∈ wai, gA con x.1 = none) ∧
  ∀ H' l (zs : List VD) con' wai' out, InsR rt con wai b con' wai' out → But [A, W] H H' → Fr H H' → ChAt Cc K H' p A W rt con' wai' → H l = none → H' l = some (.lst (zs.map (·.1))) → zs.Perm out → zs.Pairwise (fun x y => LexP (hD x.2, eD x.2) (hD y.2, eD y.2)) → Q (.ref l) H'
def spConnected (Cc : Addr) (K : PySem.W.Frag) : Sp := fun vs H Q _ => ∃ (p A W : Addr) (rt : VD) (con wai : Sub) (e : Int), vs = [.ref p, .int e] ∧ ChAt Cc K H p A W rt con wai ∧ Q (((gA con e).map (·.1)).getD .non) H
def spChInit (Cc : Addr) (K : PySem.W.Frag) : Sp := fun vs H Q _ => ∃ (p dx : Addr) (rt : VD), vs = [.ref p, rt.1] ∧ H p = some (.ins Cc dx []) ∧ OkB K H rt ∧
  ∀ (H' : Hp) (A W : Addr), (∀ b o, H b = some o → b ≠ p → H' b = some o) → H A = none → H W = none → ChAt Cc K H' p A W rt [(eD rt.2, rt)] [] → Q .non H'
section
variable {P : Program} {w : World} {K : PySem.W.Frag} {mg : Str → Option Value} {base : Heap}
theorem m_Chain__insert {C_Ballot : Addr} {C_Chain : Addr} {C_BadBlock : Addr} (T : Txt K mg C_Ballot C_Chain C_BadBlock) : Met P w K mg base 5 C_Chain "insert" (spInsert C_Chain K) [] := by
  have m_Chain___connect_waiting := m_Chain___connect_waiting (P := P) (w := w) (K := K) (base := base) T
  refine met T.cl_Chain T.me_Chain__insert sc_Chain__insert (fun vs H Q E h => ?_) (fun f cdv A outer s H vs Q E hr h => ?_)
  · obtain ⟨p, A, W, rt, b, con, wai, rfl, _⟩ := h; rfl
  obtain ⟨p, A, W, rt, b, con, wai, rfl, ch, okb, l63, l800, apt, q⟩ := h
  obtain ⟨dx, gp⟩ := ch.ins
  obtain ⟨a, r, ea, ha⟩ := okb.at_
  obtain ⟨c, r2, ec, hc⟩ := ch.rt.at_
  have ref : Refd rt con wai b → ∀ l, H l = none → Q (.ref l) (upd H l (.lst [])) := fun rf l hl => q _ l [] con wai [] (.inl ⟨rf, rfl, rfl, rfl⟩) (Same.but (same_upd hl)) (Fr.same (same_upd hl)) (ch.on (same_upd hl)) hl upd_same (List.Perm.refl _) List.Pairwise.nil
  rw [ea]
  refine ⟨_, (pss_cons (ps_set (i := 2) sc_Chain__insert.nd rfl (Or.inl rfl) (pe_ix (kixt (K := K)) (pv 1) pe_int (fun _ _ => rfl)))
      (pss_cons (ps_if (PW.pt (pw_or (pt_cmp (pc_din (by exact hu_of hr) (pv 2) (pe_fld (pv 0) rfl))) (pw_or1 (pt_cmp (pc_din (by exact hu_of hr) (pv 2) (pe_fld (pv 0) rfl)))))) (pss_one (ps_ret (pe_lst pa_nil))) pss_nil)
      (pss_cons (ps_if (PW.pt (pw_or (pt_cmpR op_le (pv 2) (pe_ix (kixt (K := K)) (pe_fld (pv 0) rfl) pe_int (fun _ _ => rfl)) (nomark _)) (pw_or1 (pt_cmpR op_le (pe_ix (kixt (K := K)) (pv 1) pe_int (fun _ _ => rfl)) (pe_ix (kixt (K := K)) (pe_fld (pv 0) rfl) pe_int (fun _ _ => rfl)) (nomark _))))) (pss_one (ps_ret (pe_lst pa_nil))) pss_nil)
      (pss_cons (ps_dput (hu_of hr) (pe_fld (pv 0) rfl) (pv 2) (pv 1) rfl)
      (pss_one (ps_ret (pe_mt0 m_Chain___connect_waiting hr (by decide) (pv 0)))))))), ?_⟩
  walk_at "rds"
  refine ⟨a, _, 0, _, rfl, rfl, ha.sq, atI_nat (j := 0) rfl, ?_⟩
  walk_at "rds"
  refine ⟨p, _, dx, _, _, rfl, gp, T.cl_Chain, T.na_Chain__connected, rfl, ?_⟩
  refine ⟨A, _, rfl, DGet.k (k := Sum.inl (eD b.2)) ch.ca.at_, ?_⟩
  rw [subV_val]
  cases g1 : gA con (eD b.2) with
  | some y =>
    walk_at "rds"
    exact ref (.inl (by rw [g1]; rfl))
  | none =>
    walk_at "rds"
    refine ⟨p, _, dx, _, _, rfl, gp, T.cl_Chain, T.na_Chain__waiting, rfl, ?_⟩
    refine ⟨W, _, rfl, DGet.k (k := Sum.inl (eD b.2)) ch.wa.at_, ?_⟩
    rw [subV_val]
    cases g2 : gA wai (eD b.2) with
    | some y =>
      walk_at "rds"
      exact ref (.inr (.inl (by rw [g2]; rfl)))
    | none =>
      walk_at "rds"
      refine ⟨p, _, dx, _, _, rfl, gp, T.cl_Chain, T.na_Chain_root, rfl, ?_⟩
      walk_at "rds"
      refine ⟨c, _, 0, _, ec, rfl, hc.sq, atI_nat (j := 0) rfl, ?_⟩
      walk_at "rds"
      by_cases t1 : eD b.2 ≤ eD rt.2
      · refine ifT (decide_eq_true t1) ?_
        refine ifT rfl ?_
        walk_at "rds"
        exact ref (.inr (.inr (.inl t1)))
      refine ifF (decide_eq_false t1) ?_
      walk_at "rds"
      refine ⟨a, _, 2, _, rfl, rfl, ha.sq, atI_nat (j := 2) rfl, ?_⟩
      walk_at "rds"
      refine ⟨p, _, dx, _, _, rfl, gp, T.cl_Chain, T.na_Chain_root, rfl, ?_⟩
      walk_at "rds"
      refine ⟨c, _, 2, _, ec, rfl, hc.sq, atI_nat (j := 2) rfl, ?_⟩
      walk_at "rds"
      by_cases t2 : hD b.2 ≤ hD rt.2
      · refine ifT (decide_eq_true t2) ?_
        walk_at "rds"
        exact ref (.inr (.inr (.inr t2)))
      refine ifF (decide_eq_false t2) ?_
      walk_at "rds"
      refine ⟨p, _, dx, _, _, rfl, gp, T.cl_Chain, T.na_Chain__waiting, rfl, ?_⟩
      walk_at "rds"
      rw [← ea]
      refine ⟨W, _, rfl, DPut.k (k := Sum.inl (eD b.2)) ch.wa.at_ (by unfold subV; rw [kvs_len]; exact sz1000' (by omega)), ?_⟩
      rw [put_sub g2]
      have ch2 := ch.addW okb g2 (by omega)
      have bt2 : But [A, W] H (upd H W (.dK (subV (wai ++ [(eD b.2, b)])))) := but_upd (by simp)
      have fr2 : Fr H (upd H W (.dK (subV (wai ++ [(eD b.2, b)])))) := fr_upd ch.wa.at_
      generalize upd H W (.dK (subV (wai ++ [(eD b.2, b)]))) = H2 at ch2 bt2 fr2
      obtain ⟨dx2, gp2⟩ := ch2.ins
      walk_at "rds"
      refine ⟨p, dx2, _, rfl, gp2, rfl, ?_⟩
      walk_at "rds"
      refine ⟨p, A, W, rt, con, _, rfl, ch2, by rw [List.length_append, List.length_singleton]; omega, by rw [List.length_append, List.length_singleton]; omega, fun x m => ?_, fun H' es l zs pe se bt fr ch' hl el pz pw => ?_⟩
      · rcases List.mem_append.mp m with m | m
        · exact apt x m
        · rw [List.mem_singleton.mp m]; exact g1
      · refine q H' l zs _ _ _ (.inr ⟨fun rf => ?_, es, pe, se, rfl, rfl, rfl⟩) (bt2.trans bt) (fun y z => fr2 y (fr y z)) ch' (fr2 l hl) el pz pw
        rcases rf with h | h | h | h
        · rw [g1] at h; cases h
        · rw [g2] at h; cases h
        · exact t1 h
        · exact t2 h
theorem k_Chain {C_Ballot : Addr} {C_Chain : Addr} {C_BadBlock : Addr} (T : Txt K mg C_Ballot C_Chain C_BadBlock) : Mak P w K mg base 1 "Chain" C_Chain (spChInit C_Chain K) [] := by
  refine mak T.g_Chain T.mk_Chain sc_Chain____init__ (fun vs H Q E h => ?_) (fun f cdv A outer s H vs Q E hr h => ?_)
  · obtain ⟨p, dx, rt, rfl, _⟩ := h; rfl
  obtain ⟨p, dx, rt, rfl, hp, okr, q⟩ := h
  obtain ⟨c, r, ec, hc⟩ := okr.at_
  refine ⟨_, (pss_cons (ps_fld (pv 0) (pv 1) rfl)
      (pss_cons (ps_fld (pv 0) (pe_disp (pps_cons (pe_ix (kixt (K := K)) (pv 1) pe_int (fun _ _ => rfl)) (pv 1) pps_nil) rfl rfl (by intro z; cases z) (by decide)) rfl)
      (pss_one (ps_fld (pv 0) pe_dnewK rfl)))), ?_⟩
  walk_at "rds"
  refine ⟨p, _, dx, _, rfl, hp, T.cl_Chain, T.na_Chain_root, (by show 0 < 1000; decide), ?_⟩
  have fresh : ∀ {H3 : Hp} {x : Addr}, (∀ b o, H b = some o → b ≠ p → H3 b = some o) → (∃ o, H3 p = some o) → H3 x = none → H x = none ∧ x ≠ p := fun {H3 x} k e z => by
    have n : x ≠ p := fun y => by obtain ⟨o, e⟩ := e; rw [y, e] at z; cases z
    refine ⟨?_, n⟩
    cases hx : H x with
    | none => rfl
    | some o => rw [k x o hx n] at z; cases z
  have tp1 := tp_upd (o := .ins C_Chain dx (putF "root" rt.1 [])) hp (by intro _ z; cases z)
  have k1 : ∀ b o, H b = some o → b ≠ p → upd H p (.ins C_Chain dx (putF "root" rt.1 [])) b = some o := fun b o e n => by rw [upd_ne n]; exact e
  have p1 : upd H p (.ins C_Chain dx (putF "root" rt.1 [])) p = some (.ins C_Chain dx (putF "root" rt.1 [])) := upd_same
  have okr1 := okr.tp tp1
  have hc1 := hc.tp tp1
  generalize upd H p (.ins C_Chain dx (putF "root" rt.1 [])) = H1 at k1 p1 okr1 hc1
  refine fun A hA => ?_
  obtain ⟨fA, nA⟩ := fresh k1 ⟨_, p1⟩ hA
  have sA := same_upd (o := .dK []) hA
  have hc2 := hc1.same sA
  have eA : upd H1 A (.dK []) A = some (.dK []) := upd_same
  have okr2 := okr1.on sA
  walk_at "rds"
  refine ⟨c, _, 0, _, ec, rfl, hc2.sq, atI_nat (j := 0) rfl, ?_⟩
  walk_at "rds"
  refine ⟨eA, [(Sum.inl (eD rt.2), rt.1)], rfl, (by show 1 ≤ 15; decide), ?_⟩
  have em : mergeK [] [((Sum.inl (eD rt.2) : Key), rt.1)] = subV [(eD rt.2, rt)] := rfl
  rw [em]
  have k2 : ∀ b o, H b = some o → b ≠ p → upd (upd H1 A (.dK [])) A (.dK (subV [(eD rt.2, rt)])) b = some o := fun b o e n => by
    have nb : b ≠ A := fun z => by rw [z, fA] at e; cases e
    rw [upd_ne nb, upd_ne nb]; exact k1 b o e n
  have p2 : upd (upd H1 A (.dK [])) A (.dK (subV [(eD rt.2, rt)])) p = some (.ins C_Chain dx (putF "root" rt.1 [])) := by rw [upd_ne nA.symm, upd_ne nA.symm]; exact p1
  have a2 : upd (upd H1 A (.dK [])) A (.dK (subV [(eD rt.2, rt)])) A = some (.dK (subV [(eD rt.2, rt)])) := upd_same
  have ok2 : OkB K (upd (upd H1 A (.dK [])) A (.dK (subV [(eD rt.2, rt)]))) rt := okr2.tp (tp_upd eA (by intro _ z; cases z))
  generalize upd (upd H1 A (.dK [])) A (.dK (subV [(eD rt.2, rt)])) = H2 at k2 p2 a2 ok2
  walk_at "rds"
  refine ⟨p, _, dx, _, rfl, p2, T.cl_Chain, T.na_Chain__connected, (by show 1 < 1000; decide), ?_⟩
  have tp3 := tp_upd (o := .ins C_Chain dx (putF "_connected" (.ref A) (putF "root" rt.1 []))) p2 (by intro _ z; cases z)
  have k3 : ∀ b o, H b = some o → b ≠ p → upd H2 p (.ins C_Chain dx (putF "_connected" (.ref A) (putF "root" rt.1 []))) b = some o := fun b o e n => by rw [upd_ne n]; exact k2 b o e n
  have p3 : upd H2 p (.ins C_Chain dx (putF "_connected" (.ref A) (putF "root" rt.1 []))) p = some (.ins C_Chain dx (putF "_connected" (.ref A) (putF "root" rt.1 []))) := upd_same
  have a3 : upd H2 p (.ins C_Chain dx (putF "_connected" (.ref A) (putF "root" rt.1 []))) A = some (.dK (subV [(eD rt.2, rt)])) := by rw [upd_ne nA]; exact a2
  have ok3 := ok2.tp tp3
  generalize upd H2 p (.ins C_Chain dx (putF "_connected" (.ref A) (putF "root" rt.1 []))) = H3 at k3 p3 a3 ok3
  walk_at "rds"
  intro W hW
  obtain ⟨fW, nW⟩ := fresh k3 ⟨_, p3⟩ hW
  have nAW : A ≠ W := ne_of_none a3 hW
  have sW := same_upd (o := .dK []) hW
  have tp5 := tp_upd (o := .ins C_Chain dx (putF "_waiting" (.ref W) (putF "_connected" (.ref A) (putF "root" rt.1 [])))) (sW _ _ p3) (by intro _ z; cases z)
  walk_at "rds"
  refine ⟨p, _, dx, _, rfl, sW _ _ p3, T.cl_Chain, T.na_Chain__waiting, (by show 2 < 1000; decide), ?_⟩
  refine q _ A W (fun b o e n => by rw [upd_ne n]; exact sW _ _ (k3 b o e n)) fA fW ?_
  have ok5 := (ok3.on sW).tp tp5
  exact
    { ins := ⟨dx, upd_same⟩
      rt := ok5
      ca := ⟨by rw [upd_ne nA]; exact sW _ _ a3, fun x m => by rw [List.mem_singleton.mp m]; exact ok5, List.pairwise_singleton _ _, (by show 1 ≤ 1000; decide)⟩
      wa := ⟨by rw [upd_ne nW]; exact upd_same, fun _ m => (nomatch m), List.nodup_nil, Nat.zero_le _⟩
      aw := nAW }
end

/-! ### connected -/
section
variable {P : Program} {w : World} {K : PySem.W.Frag} {mg : Str → Option Value} {base : Heap}
theorem m_Chain__connected {C_Ballot : Addr} {C_Chain : Addr} {C_BadBlock : Addr} (T : Txt K mg C_Ballot C_Chain C_BadBlock) : Met P w K mg base 1 C_Chain "connected" (spConnected C_Chain K) [] := by
  refine met T.cl_Chain T.me_Chain__connected sc_Chain__connected (fun vs H Q E h => ?_) (fun f cdv A outer s H vs Q E hr h => ?_)
  · obtain ⟨p, A, W, rt, con, wai, e, rfl, _⟩ := h; rfl
  obtain ⟨p, A, W, rt, con, wai, e, rfl, ch, q⟩ := h
  obtain ⟨dx, gp⟩ := ch.ins
  refine ⟨_, (pss_one (ps_ret (pe_dget1 (hu1 hr) (pe_fld (pv 0) rfl) (pv 1) ⟨by rfl, by rfl, by rfl, by rfl⟩))), ?_⟩
  walk_at "rds"
  refine ⟨p, _, dx, _, _, rfl, gp, T.cl_Chain, T.na_Chain__connected, rfl, ?_⟩
  walk_at "rds"
  refine ⟨.inl ⟨_, .inl ch.ca.at_⟩, ?_⟩
  walk_at "rds"
  refine ⟨_, DGet.k (k := Sum.inl e) ch.ca.at_, ?_⟩
  rw [subV_val]
  exact q
end

/-! ### highest -/
def leV (x y : VD) : Prop := LexP (hD x.2, eD x.2) (hD y.2, eD y.2)
def spHigh (K : PySem.W.Frag) : Sp := fun vs H Q _ => ∃ (L : Addr) (bs : List VD), vs = [.ref L] ∧ H L = some (.lst (bs.map (·.1))) ∧ (∀ b ∈ bs, OkB K H b) ∧ 0 < bs.length ∧ ∀ H' b, Same H H' → b ∈ bs → (∀ y ∈ bs, leV y b) → Q b.1 H'
section
variable {P : Program} {w : World} {K : PySem.W.Frag} {mg : Str → Option Value} {base : Heap}
theorem c_highest {C_Ballot : Addr} {C_Chain : Addr} {C_BadBlock : Addr} (T : Txt K mg C_Ballot C_Chain C_BadBlock) : Cal P w K mg base 3 "highest" (spHigh K) [] := by
  have c_place := c_place (P := P) (w := w) (K := K) (base := base) T
  obtain ⟨fp, mp, cap⟩ := cal_mg c_place
  refine cal T.d_highest sc_highest (fun vs H Q E h => ?_) (fun f cdv A outer s H vs Q E hr h => ?_)
  · obtain ⟨L, bs, rfl, _⟩ := h; rfl
  obtain ⟨L, bs, rfl, hL, okb, h0, q⟩ := h
  refine ⟨_, (pss_one (ps_ret (pe_callBK (cr_maxBy cap (hr.mono (by decide))) (by rfl) T.z_max (by decide +kernel) (pa_cons (pv 0) pa_nil) (pk_cons (pe_gc (v := .ref fp) (by rfl) ⟨_, mp, rfl⟩) pk_nil)))), ?_⟩
  walk_at "rds"
  refine ⟨L, bs.map fun b => (b.1, (hD b.2, eD b.2)), rfl, rfl, ?_, ?_, fun x mx H1 s1 Q1 h => ?_, fun H1 x s1 mx best => ?_⟩
  · rw [List.map_map]; exact .of hL
  · rw [List.length_map]; exact h0
  · obtain ⟨b, mb, rfl⟩ := List.mem_map.mp mx
    exact ⟨b, rfl, (okb b mb).on s1, fun t ht => h t _ (same_upd ht) ht upd_same⟩
  · obtain ⟨b, mb, rfl⟩ := List.mem_map.mp mx
    walk_at "rds"
    exact q H1 b s1 mb fun y my => best (y.1, (hD y.2, eD y.2)) (List.mem_map.mpr ⟨y, my, rfl⟩)
end

/-! ### tip, path -/
def spTip (Cc : Addr) (K : PySem.W.Frag) : Sp := fun vs H Q _ => ∃ (p A W : Addr) (rt : VD) (con wai : Sub), vs = [.ref p] ∧ ChAt Cc K H p A W rt con wai ∧ 0 < con.length ∧ con.length ≤ 100 ∧ ∀ H' b, Same H H' → (∃ k, (k, b) ∈ con) → (∀ k y, (k, y) ∈ con → leV y b) → Q b.1 H'
/-- the way down from an epoch to the root -/
inductive Path (s : Sub) (re : Int) : Int → List VD → Prop
  | nil : Path s re re []
  | cons {e : Int} {b : VD} {r : List VD} : e ≠ re → gA s e = some b → Path s re (nD b.2) r → Path s re e (b :: r)
theorem Path.map {s t : Sub} {re : Int} (h : ∀ k b, gA s k = some b → gA t k = some b) : ∀ {e : Int} {ls : List VD}, Path s re e ls → Path t re e ls
  | _, _, .nil => .nil
  | _, _, .cons n g r => .cons n (h _ _ g) (r.map h)
def spPath (Cc B : Addr) (K : PySem.W.Frag) : Sp := fun vs H Q E => ∃ (p A W : Addr) (rt : VD) (con wai : Sub) (re e : Int), vs = [.ref p, .int e] ∧ ChAt Cc K H p A W rt con wai ∧ eD rt.2 = re ∧ ((gA con e = none ∧ E (.ref B) none H) ∨
  ∃ ls, gA con e ≠ none ∧ Path con re e ls ∧ ls.length ≤ 100 ∧ ∀ H' l, Same H H' → H l = none → H' l = some (.lst (ls.reverse.map (·.1))) → Q (.ref l) H')
section
variable {P : Program} {w : World} {K : PySem.W.Frag} {mg : Str → Option Value} {base : Heap}
theorem m_Chain__tip {C_Ballot : Addr} {C_Chain : Addr} {C_BadBlock : Addr} (T : Txt K mg C_Ballot C_Chain C_BadBlock) : Met P w K mg base 4 C_Chain "tip" (spTip C_Chain K) [] := by
  have c_highest := c_highest (P := P) (w := w) (K := K) (base := base) T
  refine met T.cl_Chain T.me_Chain__tip sc_Chain__tip (fun vs H Q E h => ?_) (fun f cdv A outer s H vs Q E hr h => ?_)
  · obtain ⟨p, A, W, rt, con, wai, rfl, _⟩ := h; rfl
  obtain ⟨p, A, W, rt, con, wai, rfl, ch, l0, l100, q⟩ := h
  obtain ⟨dx, gp⟩ := ch.ins
  refine ⟨_, (pss_one (ps_ret (pe_c c_highest hr (by decide) (by rfl) (pa_cons (pe_callTy (call_listVals rfl) (by rfl) T.z_list (by decide +kernel) (pa_cons (pe_bm0 PySem.F.plainAttrs_dict PySem.F.slot_dict_values PySem.F.type_dict_values mt_dvals (pe_fld (pv 0) rfl)) pa_nil)) pa_nil)))), ?_⟩
  walk_at "rds"
  refine ⟨p, _, dx, _, _, rfl, gp, T.cl_Chain, T.na_Chain__connected, rfl, ?_⟩
  refine ⟨.inr (.inr (.inl ⟨rfl, .inl ⟨_, ch.ca.at_⟩⟩)), ?_⟩
  refine ⟨A, _, rfl, rfl, ch.ca.at_, fun pv hpv => ?_⟩
  walk_at "rds"
  refine ⟨pv, A, _, rfl, upd_same, (same_upd hpv) _ _ ch.ca.at_, fun l hl => ?_⟩
  have s1 := (same_upd (o := viewO "dict_values" pv A) hpv).trans (same_upd (o := .lst ((subV con).map (·.2))) hl)
  obtain ⟨cs, hcs⟩ : ∃ cs : List VD, con.map (fun e : Int × VD => e.2) = cs := ⟨_, rfl⟩
  have el : upd (upd H pv (viewO "dict_values" pv A)) l (.lst ((subV con).map (·.2))) l = some (.lst (cs.map (·.1))) := by
    rw [upd_same, ← hcs]; unfold subV kvs; rw [List.map_map, List.map_map]; rfl
  generalize upd (upd H pv (viewO "dict_values" pv A)) l (.lst ((subV con).map (·.2))) = H1 at s1 el
  have ch1 := ch.on s1
  walk_at "rds"
  refine ⟨l, cs, rfl, el, fun b m => ?_, by rw [← hcs, List.length_map]; exact l0, fun H' b s2 mb best => ?_⟩
  · rw [← hcs] at m
    obtain ⟨e, me, rfl⟩ := List.mem_map.mp m
    exact ch1.ca.ok e me
  · refine q H' b (s1.trans s2) ?_ (fun k y m => best y ?_)
    · rw [← hcs] at mb
      obtain ⟨⟨k, e⟩, me, rfl⟩ := List.mem_map.mp mb
      exact ⟨k, me⟩
    · rw [← hcs]; exact List.mem_map.mpr ⟨(k, y), m, rfl⟩
theorem m_Chain__path {C_Ballot : Addr} {C_Chain : Addr} {C_BadBlock : Addr} (T : Txt K mg C_Ballot C_Chain C_BadBlock) : MetX P w K mg base 1 C_Chain "path" (spPath C_Chain C_BadBlock K) := by
  refine metX T.cl_Chain T.me_Chain__path sc_Chain__path (fun vs H Q E h => ?_) (fun f cdv A outer s H vs Q E hr h => ?_)
  · obtain ⟨p, A, W, rt, con, wai, re, e, rfl, _⟩ := h; rfl
  obtain ⟨p, A, W, rt, con, wai, re, e, rfl, ch, er, h⟩ := h
  obtain ⟨dx, gp⟩ := ch.ins
  obtain ⟨c, r, ec, hc⟩ := ch.rt.at_
  refine ⟨_, (pss_cons (ps_if (pt_cmp (pc_dnotin (by exact hu_of hr) (pv 1) (pe_fld (pv 0) rfl))) (pss_one (ps_raise rfl (takes_of rfl rfl rfl rfl) (pmk_ok T.x_BadBlock (by rfl)))) pss_nil)
      (pss_cons (ps_set (i := 2) sc_Chain__path.nd rfl (Or.inl rfl) (pe_lst pa_nil))
      (pss_cons (ps_while (passes_of rfl) (pt_cmpR op_ne (pv 1) (pe_ix (kixt (K := K)) (pe_fld (pv 0) rfl) pe_int (fun _ _ => rfl)) (nomark _)) (pss_cons (ps_set (i := 3) sc_Chain__path.nd rfl (Or.inl rfl) (pe_dget (by exact hu_of hr) (pe_fld (pv 0) rfl) (pv 1) (fun _ _ => rfl)))
      (pss_cons (ps_expr (pe_bm PySem.F.plainAttrs_list PySem.F.slot_list_append PySem.F.type_list_append mt_append (pv 2) (pa_cons (pv 3) pa_nil)))
      (pss_one (ps_set (i := 1) sc_Chain__path.nd rfl (Or.inl rfl) (pe_ix (kixt (K := K)) (pv 3) pe_int (fun _ _ => rfl)))))))
      (pss_one (ps_ret (pe_revL (pv 2))))))), ?_⟩
  walk_at "rds"
  refine ⟨p, _, dx, _, _, rfl, gp, T.cl_Chain, T.na_Chain__connected, rfl, ?_⟩
  refine ⟨A, _, rfl, DGet.k (k := Sum.inl e) ch.ca.at_, ?_⟩
  rw [subV_val]
  rcases h with ⟨g0, hE⟩ | ⟨ls, g0, pth, l100, q⟩
  · rw [g0]
    walk_at "rds"
    exact hE
  · obtain ⟨b0, gb0⟩ : ∃ b, gA con e = some b := by
      cases g : gA con e with
      | none => exact absurd g g0
      | some b => exact ⟨b, rfl⟩
    rw [gb0]
    walk_at "rds"
    intro B hB
    have s1 := same_upd (o := .lst []) hB
    have eB : upd H B (.lst []) B = some (.lst []) := upd_same
    have ch1 := ch.on s1
    generalize upd H B (.lst []) = H1 at s1 eB ch1
    walk_at "rds"
    refine ⟨fun m σ' H' => ∃ (e' : Int) (pre rest : List VD) (y3 : Option V), σ' = [some (.ref p), some (.int e'), some (.ref B), y3] ∧ Same H H' ∧ ChAt C_Chain K H' p A W rt con wai ∧ H' B = some (.lst (pre.map (·.1))) ∧ Path con re e' rest ∧ pre ++ rest = ls ∧ rest.length = m, ⟨ls.length, e, [], ls, none, rfl, s1, ch1, eB, pth, rfl, rfl⟩, fun m σ' Ha hp => ?_⟩
    obtain ⟨e', pre, rest, y3, rfl, s2, ch2, eB2, pth2, el, rfl⟩ := hp
    have hc2 := hc.same s2
    obtain ⟨dx2, gp2⟩ := ch2.ins
    walk_at "rds"
    refine ⟨p, _, dx2, _, _, rfl, gp2, T.cl_Chain, T.na_Chain_root, rfl, ?_⟩
    walk_at "rds"
    refine ⟨c, _, 0, _, ec, rfl, hc2.sq, atI_nat (j := 0) rfl, ?_⟩
    walk_at "rds"
    rw [decV, er]
    cases pth2 with
    | nil =>
      refine ifF (by rw [decide_eq_true rfl]; rfl) ?_
      rw [List.append_nil] at el
      subst el
      walk_at "rds"
      refine ⟨B, _, rfl, sq eB2, fun l hl => ?_⟩
      have eR : (pre.map fun x : VD => x.1).reverse = pre.reverse.map (·.1) := List.map_reverse.symm
      rw [eR]
      exact q _ l (s2.trans (same_upd hl)) (same_none s2 hl) upd_same
    | cons ne gb pr =>
      rename_i b rest
      have okb := ch2.ca.ok _ (gA_some gb)
      obtain ⟨a, r2, ea, ha⟩ := okb.at_
      refine ifT (by rw [decide_eq_false ne]; rfl) ?_
      have l2 : pre.length + (rest.length + 1) ≤ 100 := by rw [← el, List.length_append, List.length_cons] at l100; exact l100
      refine ⟨_, fun _ _ h => h, ?_⟩
      walk_at "rds"
      refine ⟨p, _, dx2, _, _, rfl, gp2, T.cl_Chain, T.na_Chain__connected, rfl, ?_⟩
      walk_at "rds"
      refine ⟨A, b.1, rfl, .inl ⟨_, Sum.inl e', .inl ch2.ca.at_, rfl, by rw [subV_val, gb]; rfl⟩, ?_⟩
      walk_at "rds"
      refine ⟨.inl ⟨rfl, _, sq eB2⟩, ?_⟩
      walk_at "rds"
      refine ⟨B, _, _, rfl, rfl, eB2, sz1000' (by rw [List.length_map]; omega), ?_⟩
      have tp3 := tp_upd (o := .lst (pre.map (·.1) ++ [b.1])) eB2 (by intro _ z; cases z)
      have ch3 := ch2.lst eB2 (xs' := pre.map (·.1) ++ [b.1])
      have s3 : Same H (upd Ha B (.lst (pre.map (·.1) ++ [b.1]))) := same_mut s2 hB
      have eB3 : upd Ha B (.lst (pre.map (·.1) ++ [b.1])) B = some (.lst ((pre ++ [b]).map (·.1))) := by rw [upd_same, List.map_append]; rfl
      have ha3 := ha.tp tp3
      have ea : b.1 = .ref a := ea
      rw [ea] at s3 eB3 ch3 ha3 ⊢
      generalize upd Ha B (.lst (pre.map (·.1) ++ [.ref a])) = H3 at s3 eB3 ch3 ha3
      walk_at "rds"
      refine ⟨a, _, 1, _, rfl, rfl, ha3.sq, atI_nat (j := 1) rfl, ?_⟩
      exact ⟨rest.length, Nat.lt_succ_self _, _, pre ++ [b], rest, _, rfl, s3, ch3, eB3, pr, by rw [List.append_assoc]; exact el, rfl⟩
end

/-! ### the ballot -/
def mx (a b : Int) : Int := if b > a then b else a
theorem mx_eq (a b : Int) : mx a b = max a b := by unfold mx; split <;> omega
def baF (l : Addr) (la fl : Int) : List (Str × V) := putF "_floor" (.int fl) (putF "_last" (.int la) (putF "_blocks" (.ref l) []))
def BalAt (C : Addr) (H : Hp) (p l : Addr) (xs : List V) (la fl : Int) : Prop := (∃ dx, H p = some (.ins C dx (baF l la fl))) ∧ H l = some (.lst xs)
theorem BalAt.same {C : Addr} {H H' : Hp} {p l : Addr} {xs : List V} {la fl : Int} (h : BalAt C H p l xs la fl) (s : Same H H') : BalAt C H' p l xs la fl := by
  obtain ⟨⟨dx, h1⟩, h2⟩ := h
  exact ⟨⟨dx, s _ _ h1⟩, s _ _ h2⟩
theorem BalAt.ne {C : Addr} {H : Hp} {p l : Addr} {xs : List V} {la fl : Int} (h : BalAt C H p l xs la fl) : p ≠ l := by
  obtain ⟨⟨dx, h1⟩, h2⟩ := h
  exact ne_of h1 h2 (by intro z; cases z)
/-- all but p and l are as they were -/
def But2 (p l : Addr) (H H' : Hp) : Prop := ∀ b o, b ≠ p → b ≠ l → H b = some o → H' b = some o
theorem But2.refl {p l : Addr} {H : Hp} : But2 p l H H := fun _ _ _ _ h => h
theorem But2.trans {p l : Addr} {H H1 H2 : Hp} (a : But2 p l H H1) (b : But2 p l H1 H2) : But2 p l H H2 := fun c o n m h => b c o n m (a c o n m h)
theorem Same.but2 {p l : Addr} {H H' : Hp} (s : Same H H') : But2 p l H H' := fun b o _ _ h => s b o h

def dEp : PyData → Int
  | .tuple (.int e :: _) => e
  | _ => 0
def dHt : PyData → Int
  | .tuple [_, _, .int h, _] => h
  | _ => 0
/-- a block: three ints, and something -/
def dB4 : PyData → Bool
  | .tuple [.int _, .int _, .int _, _] => true
  | _ => false
theorem dB4_inv {d : PyData} (h : dB4 d = true) : ∃ e p t c, d = .tuple [.int e, .int p, .int t, c] := by
  unfold dB4 at h
  split at h
  · exact ⟨_, _, _, _, rfl⟩
  · cases h
theorem Dt.b4 {K : PySem.W.Frag} {H : Hp} {A : Option Addr} {x : V} {d : PyData} (h : dB4 d = true) (hx : Dt K H A x d) : ∃ a x2 x4, x = .ref a ∧ TupAt K H a [.int (dEp d), x2, .int (dHt d), x4] := by
  obtain ⟨e, p, t, c, rfl⟩ := dB4_inv h
  cases hx with
  | tup ha hx =>
    obtain ⟨x1, x2, x3, x4, d1, d2, d3, d4, rfl, e, h1, h2, h3, h4⟩ := hx.four (by rw [hx.length]; rfl)
    cases e
    cases h1
    cases h3
    exact ⟨_, _, _, rfl, ha⟩
theorem noLs_mem : ∀ {ds : List PyData} {d : PyData}, noLs ds = true → d ∈ ds → noL d = true
  | e :: r, d, h, m => by
    have h : (noL e && noLs r) = true := h
    rw [Bool.and_eq_true] at h
    rcases List.mem_cons.mp m with rfl | m
    · exact h.1
    · exact noLs_mem h.2 m
def lastOf (la : Int) (bs : List PyData) : Int := bs.foldl (fun _ b => dEp b) la
def floorOf (fl : Int) (bs : List PyData) : Int := bs.foldl (fun f b => mx f (dHt b - 1)) fl
/-- the epochs ascend strictly -/
def ascE : Int → List PyData → Prop
  | _, [] => True
  | la, b :: r => la < dEp b ∧ ascE (dEp b) r
theorem lastOf_snoc (la : Int) (bs : List PyData) (b : PyData) : lastOf la (bs ++ [b]) = dEp b := by unfold lastOf; rw [List.foldl_append]; rfl
theorem floorOf_snoc (fl : Int) (bs : List PyData) (b : PyData) : floorOf fl (bs ++ [b]) = mx (floorOf fl bs) (dHt b - 1) := by unfold floorOf; rw [List.foldl_append]; rfl
theorem ascE_snoc : ∀ (bs : List PyData) {la : Int} {b : PyData}, ascE la bs → lastOf la bs < dEp b → ascE la (bs ++ [b])
  | [], _, _, _, h => ⟨h, trivial⟩
  | _ :: r, _, _, h, h2 => ⟨h.1, ascE_snoc r h.2 h2⟩
theorem ascE_at : ∀ (bs : List PyData) {la : Int} {i : Nat} {b : PyData}, ascE la bs → bs[i]? = some b → lastOf la (bs.take i) < dEp b
  | [], _, _, _, _, e => by simp at e
  | c :: r, la, 0, b, h, e => by simp at e; subst e; exact h.1
  | c :: r, la, i + 1, b, h, e => by
    have := ascE_at r (i := i) (b := b) h.2 (by simpa using e)
    rw [List.take_succ_cons]
    exact this
def spRestore (C : Addr) : Sp := fun vs H Q _ => ∃ (p l : Addr) (e f : Int) (xs : List V) (la fl : Int), vs = [.ref p, .int e, .int f] ∧ BalAt C H p l xs la fl ∧
  ∀ H', (∀ b o, H b = some o → b ≠ p → H' b = some o) → BalAt C H' p l xs (mx la e) (mx fl f) → Q .non H'
def spRecord (K : PySem.W.Frag) (C B : Addr) : Sp := fun vs H Q E => ∃ (p l : Addr) (v : V) (d : PyData) (xs : List V) (la fl : Int), vs = [.ref p, v] ∧ BalAt C H p l xs la fl ∧ Dt K H none v d ∧ dB4 d = true ∧ xs.length < 1000 ∧
  (la < dEp d → ∀ H', But2 p l H H' → BalAt C H' p l (xs ++ [v]) (dEp d) (mx fl (dHt d - 1)) → Q .non H') ∧ (dEp d ≤ la → E (.ref B) none H)
def spBallot (K : PySem.W.Frag) (C : Addr) : Sp := fun vs H Q _ => ∃ (p dx g : Addr) (xs : List V) (bs : List PyData), vs = [.ref p, .ref g] ∧ H p = some (.ins C dx []) ∧ H g = some (.lst xs) ∧ DtAll K H none xs bs ∧ (∀ b ∈ bs, dB4 b = true) ∧ noLs bs = true ∧ xs.length < 1000 ∧ ascE 0 bs ∧
  ∀ (H' : Hp) (l : Addr), (∀ b o, H b = some o → b ≠ p → H' b = some o) → H l = none → BalAt C H' p l xs (lastOf 0 bs) (floorOf 0 bs) → Q .non H'
def spLa (C : Addr) : Sp := fun vs H Q _ => ∃ (p l : Addr) (xs : List V) (la fl : Int), vs = [.ref p] ∧ BalAt C H p l xs la fl ∧ Q (.int la) H
def spFl (C : Addr) : Sp := fun vs H Q _ => ∃ (p l : Addr) (xs : List V) (la fl : Int), vs = [.ref p] ∧ BalAt C H p l xs la fl ∧ Q (.int fl) H
def spBl (C : Addr) : Sp := fun vs H Q _ => ∃ (p l : Addr) (xs : List V) (la fl : Int), vs = [.ref p] ∧ BalAt C H p l xs la fl ∧ ∀ r, H r = none → Q (.ref r) (upd H r (.lst xs))
section
variable {P : Program} {w : World} {K : PySem.W.Frag} {mg : Str → Option Value} {base : Heap}
theorem m_Ballot__last {C_Ballot : Addr} {C_Chain : Addr} {C_BadBlock : Addr} (T : Txt K mg C_Ballot C_Chain C_BadBlock) : Met P w K mg base 1 C_Ballot "last" (spLa C_Ballot) [] := by
  refine met T.cl_Ballot T.me_Ballot__last sc_Ballot__last (fun vs H Q E h => ?_) (fun f cdv A outer s H vs Q E hr h => ?_)
  · obtain ⟨p, l, xs, la, fl, rfl, _⟩ := h; rfl
  obtain ⟨p, l, xs, la, fl, rfl, ⟨⟨dx, g⟩, gl⟩, q⟩ := h
  refine ⟨_, (pss_one (ps_ret (pe_fld (pv 0) rfl))), ?_⟩
  walk_at "rds"
  refine ⟨p, _, dx, _, _, rfl, g, T.cl_Ballot, T.na_Ballot__last, rfl, ?_⟩
  exact q
theorem m_Ballot__floor {C_Ballot : Addr} {C_Chain : Addr} {C_BadBlock : Addr} (T : Txt K mg C_Ballot C_Chain C_BadBlock) : Met P w K mg base 1 C_Ballot "floor" (spFl C_Ballot) [] := by
  refine met T.cl_Ballot T.me_Ballot__floor sc_Ballot__floor (fun vs H Q E h => ?_) (fun f cdv A outer s H vs Q E hr h => ?_)
  · obtain ⟨p, l, xs, la, fl, rfl, _⟩ := h; rfl
  obtain ⟨p, l, xs, la, fl, rfl, ⟨⟨dx, g⟩, gl⟩, q⟩ := h
  refine ⟨_, (pss_one (ps_ret (pe_fld (pv 0) rfl))), ?_⟩
  walk_at "rds"
  refine ⟨p, _, dx, _, _, rfl, g, T.cl_Ballot, T.na_Ballot__floor, rfl, ?_⟩
  exact q
theorem m_Ballot__blocks {C_Ballot : Addr} {C_Chain : Addr} {C_BadBlock : Addr} (T : Txt K mg C_Ballot C_Chain C_BadBlock) : Met P w K mg base 1 C_Ballot "blocks" (spBl C_Ballot) [] := by
  refine met T.cl_Ballot T.me_Ballot__blocks sc_Ballot__blocks (fun vs H Q E h => ?_) (fun f cdv A outer s H vs Q E hr h => ?_)
  · obtain ⟨p, l, xs, la, fl, rfl, _⟩ := h; rfl
  obtain ⟨p, l, xs, la, fl, rfl, ⟨⟨dx, g⟩, gl⟩, q⟩ := h
  refine ⟨_, (pss_one (ps_ret (pe_callTy call_list_of (by rfl) T.z_list (by decide +kernel) (pa_cons (pe_fld (pv 0) rfl) pa_nil)))), ?_⟩
  walk_at "rds"
  refine ⟨p, _, dx, _, _, rfl, g, T.cl_Ballot, T.na_Ballot__blocks, rfl, ?_⟩
  walk_at "rds"
  exact ⟨l, xs, rfl, .inl (sq gl), fun r hr => q r hr⟩
theorem m_Ballot__restore {C_Ballot : Addr} {C_Chain : Addr} {C_BadBlock : Addr} (T : Txt K mg C_Ballot C_Chain C_BadBlock) : Met P w K mg base 1 C_Ballot "restore" (spRestore C_Ballot) [] := by
  refine met T.cl_Ballot T.me_Ballot__restore sc_Ballot__restore (fun vs H Q E h => ?_) (fun f cdv A outer s H vs Q E hr h => ?_)
  · obtain ⟨p, l, e, f, xs, la, fl, rfl, _⟩ := h; rfl
  obtain ⟨p, l, e, f, xs, la, fl, rfl, b, q⟩ := h
  have hne := b.ne
  obtain ⟨⟨dx, g⟩, gl⟩ := b
  refine ⟨_, (pss_cons (ps_fld (pv 0) (pe_callB (call_max2 rfl) (by rfl) T.z_max (by decide +kernel) (pa_cons (pe_fld (pv 0) rfl) (pa_cons (pv 1) pa_nil))) rfl)
      (pss_one (ps_fld (pv 0) (pe_callB (call_max2 rfl) (by rfl) T.z_max (by decide +kernel) (pa_cons (pe_fld (pv 0) rfl) (pa_cons (pv 2) pa_nil))) rfl))), ?_⟩
  walk_at "rds"
  refine ⟨p, _, dx, _, _, rfl, g, T.cl_Ballot, T.na_Ballot__last, rfl, ?_⟩
  walk_at "rds"
  refine ⟨_, _, rfl, ?_⟩
  walk_at "rds"
  refine ⟨p, _, dx, _, rfl, g, T.cl_Ballot, T.na_Ballot__last, (by show 3 < 1000; decide), ?_⟩
  walk_at "rds"
  refine ⟨p, _, dx, _, _, rfl, upd_same, T.cl_Ballot, T.na_Ballot__floor, rfl, ?_⟩
  walk_at "rds"
  refine ⟨_, _, rfl, ?_⟩
  walk_at "rds"
  refine ⟨p, _, dx, _, rfl, upd_same, T.cl_Ballot, T.na_Ballot__floor, (by show 3 < 1000; decide), ?_⟩
  exact q _ (fun b o e hb => by rw [upd_ne hb, upd_ne hb]; exact e) ⟨⟨dx, upd_same⟩, by rw [upd_ne hne.symm, upd_ne hne.symm]; exact gl⟩
theorem m_Ballot__record {C_Ballot : Addr} {C_Chain : Addr} {C_BadBlock : Addr} (T : Txt K mg C_Ballot C_Chain C_BadBlock) : MetX P w K mg base 2 C_Ballot "record" (spRecord K C_Ballot C_BadBlock) := by
  have m_Ballot__restore := m_Ballot__restore (P := P) (w := w) (base := base) T
  refine metX T.cl_Ballot T.me_Ballot__record sc_Ballot__record (fun vs H Q E h => ?_) (fun f cdv A outer s H vs Q E hr h => ?_)
  · obtain ⟨p, l, v, d, xs, la, fl, rfl, _⟩ := h; rfl
  obtain ⟨p, l, v, d, xs, la, fl, rfl, b, hd, h4, hlen, q, qe⟩ := h
  have hne := b.ne
  obtain ⟨⟨dx, g⟩, gl⟩ := id b
  obtain ⟨t, x2, x4, rfl, ht⟩ := hd.b4 h4
  refine ⟨_, (pss_cons (ps_if (pt_cmpR op_le (pe_ix (kixt (K := K)) (pv 1) pe_int (fun _ _ => rfl)) (pe_fld (pv 0) rfl) (nomark _)) (pss_one (ps_raise rfl (takes_of rfl rfl rfl rfl) (pmk_ok T.x_BadBlock (by rfl)))) pss_nil)
      (pss_cons (ps_expr (pe_bm PySem.F.plainAttrs_list PySem.F.slot_list_append PySem.F.type_list_append mt_append (pe_fld (pv 0) rfl) (pa_cons (pv 1) pa_nil)))
      (pss_one (ps_expr (pe_mt m_Ballot__restore hr (by decide) (pv 0) (pa_cons (pe_ix (kixt (K := K)) (pv 1) pe_int (fun _ _ => rfl)) (pa_cons (pe_op op_sub (pe_ix (kixt (K := K)) (pv 1) pe_int (fun _ _ => rfl)) pe_int) pa_nil))))))), ?_⟩
  walk_at "rds"
  refine ⟨t, _, 0, _, rfl, rfl, ht.sq, atI_nat (j := 0) rfl, ?_⟩
  walk_at "rds"
  refine ⟨p, _, dx, _, _, rfl, g, T.cl_Ballot, T.na_Ballot__last, rfl, ?_⟩
  walk_at "rds"
  refine ite2 (fun e => ?_) (fun e => ?_)
  · exact qe (of_decide_eq_true e)
  · have e : ¬ dEp d ≤ la := fun z => e (decide_eq_true z)
    walk_at "rds"
    refine ⟨p, _, dx, _, _, rfl, g, T.cl_Ballot, T.na_Ballot__blocks, rfl, ?_⟩
    refine ⟨.inl ⟨rfl, _, sq gl⟩, ?_⟩
    walk_at "rds"
    refine ⟨l, xs, _, rfl, rfl, gl, sz1000' (by omega), ?_⟩
    have b2 : BalAt C_Ballot (upd H l (.lst (xs ++ [.ref t]))) p l (xs ++ [.ref t]) la fl := ⟨⟨dx, by rw [upd_ne hne]; exact g⟩, upd_same⟩
    have ht2 := ht.tp (tp_put (ys := xs ++ [.ref t]) gl)
    walk_at "rds"
    obtain ⟨dx2, g2⟩ := b2.1
    refine ⟨p, dx2, _, rfl, g2, rfl, ?_⟩
    walk_at "rds"
    refine ⟨t, _, 0, _, rfl, rfl, ht2.sq, atI_nat (j := 0) rfl, ?_⟩
    walk_at "rds"
    refine ⟨t, _, 2, _, rfl, rfl, ht2.sq, atI_nat (j := 2) rfl, ?_⟩
    walk_at "rds"
    refine ⟨p, l, _, _, _, la, fl, rfl, b2, fun H' k b3 => ?_⟩
    walk_at "rds"
    refine q (by omega) _ (fun b o n m e => k _ _ (by rw [upd_ne m]; exact e) n) ?_
    have em : mx la (dEp d) = dEp d := by unfold mx; rw [if_pos (by omega)]
    rw [← em]
    exact b3
theorem k_Ballot {C_Ballot : Addr} {C_Chain : Addr} {C_BadBlock : Addr} (T : Txt K mg C_Ballot C_Chain C_BadBlock) : Mak P w K mg base 3 "Ballot" C_Ballot (spBallot K C_Ballot) [] := by
  have m_Ballot__record := m_Ballot__record (P := P) (w := w) (base := base) T
  refine mak T.g_Ballot T.mk_Ballot sc_Ballot____init__ (fun vs H Q E h => ?_) (fun f cdv A outer s H vs Q E hr h => ?_)
  · obtain ⟨p, dx, g, xs, bs, rfl, _⟩ := h; rfl
  obtain ⟨p, dx, g, xs, bs, rfl, hp, hg, hx, hb, hnl, hlen, ha, q⟩ := h
  refine ⟨_, (pss_cons (ps_fld (pv 0) (pe_lst pa_nil) rfl)
      (pss_cons (ps_fld (pv 0) pe_int rfl)
      (pss_cons (ps_fld (pv 0) pe_int rfl)
      (pss_one (ps_for PassesOwn.never rfl (pi_list (pv 1)) (pg_name (i := 2) sc_Ballot____init__.nd rfl (Or.inl rfl)) (pss_one (ps_expr (pe_mtX m_Ballot__record hr (by decide) no_pass (pv 0) (pa_cons (pv 2) pa_nil))))))))), ?_⟩
  refine ⟨by decide, fun l hl => ?_⟩
  walk_at "rds"
  refine ⟨p, _, dx, _, rfl, (same_upd hl) _ _ hp, T.cl_Ballot, T.na_Ballot__blocks, by decide, ?_⟩
  walk_at "rds"
  refine ⟨p, _, dx, _, rfl, upd_same, T.cl_Ballot, T.na_Ballot__last, (by show 1 < 1000; decide), ?_⟩
  walk_at "rds"
  refine ⟨p, _, dx, _, rfl, upd_same, T.cl_Ballot, T.na_Ballot__floor, (by show 2 < 1000; decide), ?_⟩
  have hlp : l ≠ p := (ne_of_none hp hl).symm
  have hgp : g ≠ p := ne_of hg hp (by intro z; cases z)
  have hlg : g ≠ l := ne_of_none hg hl
  walk_at "rds"
  have kp : ∀ b o, H b = some o → b ≠ p → upd (upd (upd (upd H l (.lst [])) p (.ins C_Ballot dx (putF "_blocks" (.ref l) []))) p (.ins C_Ballot dx (putF "_last" (.int 0) (putF "_blocks" (.ref l) [])))) p (.ins C_Ballot dx (putF "_floor" (.int 0) (putF "_last" (.int 0) (putF "_blocks" (.ref l) [])))) b = some o := fun b o e n => by
    rw [upd_ne n, upd_ne n, upd_ne n]; exact (same_upd hl) _ _ e
  have b0 : BalAt C_Ballot (upd (upd (upd (upd H l (.lst [])) p (.ins C_Ballot dx (putF "_blocks" (.ref l) []))) p (.ins C_Ballot dx (putF "_last" (.int 0) (putF "_blocks" (.ref l) [])))) p (.ins C_Ballot dx (putF "_floor" (.int 0) (putF "_last" (.int 0) (putF "_blocks" (.ref l) []))))) p l [] 0 0 :=
    ⟨⟨dx, upd_same⟩, by rw [upd_ne hlp, upd_ne hlp, upd_ne hlp]; exact upd_same⟩
  refine ⟨⟨_, sq (kp _ _ hg hgp)⟩, ?_⟩
  refine for_it (walk_list (K := K) (a := g) (xs := xs)) (Pv := fun i σ H' => ∃ y2, σ = [some (.ref p), some (.ref g), y2] ∧ (∀ b o, H b = some o → b ≠ p → H' b = some o) ∧ BalAt C_Ballot H' p l (xs.take i) (lastOf 0 (bs.take i)) (floorOf 0 (bs.take i))) ⟨none, rfl, kp, b0⟩ (fun i σ H' _ h => by obtain ⟨_, _, h, _⟩ := h; exact sq (h _ _ hg hgp)) (fun i x σ H1 H2 hi hp' hy => ?_) (fun σ H1 hp' => ?_)
  · obtain ⟨y2, rfl, k, b⟩ := hp'
    obtain ⟨rfl, gx⟩ := hy
    obtain ⟨d, gd, hdx⟩ := hx.get gx
    have h4 := hb d (List.mem_of_getElem? gd)
    have hdx2 : Dt K H2 none x d := Dt.keep (fun a ys e => k _ _ e (ne_of e hp (by intro z; cases z))) d x (noLs_mem hnl (List.mem_of_getElem? gd)) hdx
    obtain ⟨⟨dx2, g2⟩, gl2⟩ := id b
    walk_at "rds"
    refine ⟨p, dx2, _, rfl, g2, rfl, ?_⟩
    walk_at "rds"
    refine ⟨p, l, x, d, _, _, _, rfl, b, hdx2, h4, by rw [List.length_take]; omega, fun _ H3 bu b3 => ?_, fun z => absurd (ascE_at bs ha gd) (by omega)⟩
    refine ⟨_, rfl, fun b o e n => bu _ _ n (ne_of_none e hl) (k _ _ e n), ?_⟩
    rw [List.take_add_one, gx, List.take_add_one, gd]
    show BalAt _ _ _ _ (_ ++ [x]) (lastOf 0 (_ ++ [d])) (floorOf 0 (_ ++ [d]))
    rw [lastOf_snoc, floorOf_snoc]
    exact b3
  · obtain ⟨y2, rfl, k, b⟩ := hp'
    rw [List.take_of_length_le (Nat.le_refl _), List.take_of_length_le (by rw [hx.length]; exact Nat.le_refl _)] at b
    exact q _ l k hl b
end

/-! ### last numbers -/
/-- the dict of last numbers, by its pairs -/
def ndK (k : Int × Int) : Key × V := (Sum.inl k.1, V.int k.2)
def Nd (H : Hp) (p : Addr) (ks : List (Int × Int)) : Prop := H p = some (.dK (ks.map ndK))
def ndOpt (ks : List (Int × Int)) (c : Int) : Option Int := (ks.find? fun k => decide (k.1 = c)).map (·.2)
def ndGet (ks : List (Int × Int)) (c : Int) : Int := (ndOpt ks c).getD 0
def dNum : PyData → Int
  | .tuple [_, .int n, _] => n
  | _ => 0
theorem nd_val : ∀ (ks : List (Int × Int)) (c : Int), valV (ks.map ndK) (Sum.inl c : Key) = (ndOpt ks c).map V.int
  | [], _ => rfl
  | k :: r, c => by
    have ih := nd_val r c
    unfold valV ndOpt at ih ⊢
    rw [List.map_cons, List.find?_cons, List.find?_cons]
    by_cases h : k.1 = c
    · have h1 : decide ((ndK k).1 = (Sum.inl c : Key)) = true := decide_eq_true (by show (Sum.inl k.1 : Key) = Sum.inl c; rw [h])
      rw [h1, decide_eq_true h]; rfl
    · have h1 : decide ((ndK k).1 = (Sum.inl c : Key)) = false := decide_eq_false (fun z => h (Sum.inl.inj z))
      rw [h1, decide_eq_false h]; exact ih
def spLast : Sp := fun vs H Q _ => ∃ (p : Addr) (ks : List (Int × Int)) (c : Int), vs = [.ref p, .int c] ∧ Nd H p ks ∧ Q (.int (ndGet ks c)) H
def dFresh (ks : List (Int × Int)) (cs : List PyData) : Bool := cs.all fun d => decide (ndGet ks (dClient d) < dNum d)
def spFresh (K : PySem.W.Frag) : Sp := fun vs H Q _ => ∃ (p : Addr) (v : V) (ks : List (Int × Int)) (cs : List PyData), vs = [.ref p, v] ∧ Nd H p ks ∧ Dt K H none v (.tuple cs) ∧ (∀ d ∈ cs, dCmd d = true) ∧ Q (.bl (dFresh ks cs)) H
theorem Dt.nums {K : PySem.W.Frag} {H : Hp} {A : Option Addr} {x : V} {d : PyData} (h : dCmd d = true) (hx : Dt K H A x d) : ∃ a x3, x = .ref a ∧ TupAt K H a [.int (dClient d), .int (dNum d), x3] := by
  obtain ⟨c, n, t, rfl, _⟩ := dCmd_inv h
  obtain ⟨a, x1, x2, x3, rfl, ha, h1, h2, h3⟩ := hx.three
  cases h1; cases h2
  exact ⟨a, x3, rfl, ha⟩
def putN (ks : List (Int × Int)) (c n : Int) : List (Int × Int) := if (ks.any fun k => decide (k.1 = c)) = true then ks.map (fun k => if k.1 = c then (k.1, n) else k) else ks ++ [(c, n)]
theorem nd_put (ks : List (Int × Int)) (c n : Int) : putK (ks.map ndK) (Sum.inl c : Key) (V.int n) = (putN ks c n).map ndK := by
  have e : ∀ k : Int × Int, decide ((ndK k).1 = (Sum.inl c : Key)) = decide (k.1 = c) := fun k => decide_eq_decide.mpr ⟨fun z => Sum.inl.inj z, fun z => by show (Sum.inl k.1 : Key) = _; rw [z]⟩
  unfold putK putN
  rw [List.any_map]
  rw [show ((fun kv : Key × V => decide (kv.1 = (Sum.inl c : Key))) ∘ ndK) = fun k => decide (k.1 = c) from funext e]
  split
  · rw [List.map_map, List.map_map]
    refine List.map_congr_left fun k _ => ?_
    show (if (ndK k).1 = (Sum.inl c : Key) then ((ndK k).1, V.int n) else ndK k) = ndK (if k.1 = c then (k.1, n) else k)
    by_cases h : k.1 = c
    · rw [if_pos h, if_pos (by show (Sum.inl k.1 : Key) = _; rw [h])]; rfl
    · rw [if_neg h, if_neg (show ¬ (ndK k).1 = (Sum.inl c : Key) from fun z => h (Sum.inl.inj z))]
  · rw [List.map_append]; rfl
theorem putN_len (ks : List (Int × Int)) (c n : Int) : (putN ks c n).length ≤ ks.length + 1 := by
  unfold putN
  split
  · rw [List.length_map]; omega
  · rw [List.length_append]; exact Nat.le_refl _
def ndAfter (ks : List (Int × Int)) (cs : List PyData) : List (Int × Int) := cs.foldl (fun ks d => putN ks (dClient d) (dNum d)) ks
def spAfter (K : PySem.W.Frag) : Sp := fun vs H Q _ => ∃ (p : Addr) (v : V) (ks : List (Int × Int)) (cs : List PyData), vs = [.ref p, v] ∧ Nd H p ks ∧ Dt K H none v (.tuple cs) ∧ (∀ d ∈ cs, dCmd d = true) ∧ ks.length + cs.length ≤ 10000 ∧
  ∀ (r : Addr) (H' : Hp), H r = none → Same H H' → Nd H' r (ndAfter ks cs) → Q (.ref r) H'
section
variable {P : Program} {w : World} {K : PySem.W.Frag} {mg : Str → Option Value} {base : Heap}
theorem c_numbers_after {C_Ballot : Addr} {C_Chain : Addr} {C_BadBlock : Addr} (T : Txt K mg C_Ballot C_Chain C_BadBlock) : Cal P w K mg base 2 "numbers_after" (spAfter K) [] := by
  refine cal T.d_numbers_after sc_numbers_after (fun vs H Q E h => ?_) (fun f cdv A' outer s H vs Q E hr h => ?_)
  · obtain ⟨p, v, ks, cs, rfl, _⟩ := h; rfl
  obtain ⟨p, v, ks, cs, rfl, hp, hv, hc, hl, q⟩ := h
  refine ⟨_, (pss_cons (ps_set (i := 2) sc_numbers_after.nd rfl (Or.inl rfl) (pe_callTy call_dictD (by rfl) T.z_dict (by decide +kernel) (pa_cons (pv 0) pa_nil)))
      (pss_cons (ps_for PassesOwn.never rfl (pi_tup (pv 1)) (pg_tup (by rfl) (pgs_cons (pg_name (i := 3) sc_numbers_after.nd rfl (Or.inl rfl)) (pgs_cons (pg_name (i := 4) sc_numbers_after.nd rfl (Or.inl rfl)) (pgs_cons (pg_name (i := 5) sc_numbers_after.nd rfl (Or.inl rfl)) pgs_nil)))) (pss_one (ps_dput (hu_of hr) (pv 2) (pv 3) (pv 4) rfl)))
      (pss_one (ps_ret (pv 2))))), ?_⟩
  obtain ⟨b, xs, ds, rfl, e, hb, hx⟩ : ∃ b xs ds, v = .ref b ∧ PyData.tuple cs = .tuple ds ∧ TupAt K H b xs ∧ DtAll K H none xs ds := by
    cases hv with
    | tup hb hx => exact ⟨_, _, _, rfl, rfl, hb, hx⟩
  cases e
  walk_at "rds"
  refine ⟨p, _, rfl, .inl hp, fun r hr => ?_⟩
  walk_at "rds"
  refine ⟨⟨xs, (hb.same (same_upd hr)).sq⟩, ?_⟩
  refine for_it (walk_tup (K := K) (a := b) (xs := xs)) (Pv := fun i σ H' => ∃ y2 y3 y4, σ = [some (.ref p), some (.ref b), some (.ref r), y2, y3, y4] ∧ Same H H' ∧ ∃ ks', Nd H' r ks' ∧ ndAfter ks cs = ndAfter ks' (cs.drop i) ∧ ks'.length ≤ ks.length + i) ⟨none, none, none, rfl, same_upd hr, ks, upd_same, rfl, Nat.le_refl _⟩ (fun i σ H' _ h => by obtain ⟨_, _, _, _, sm, _⟩ := h; exact (hb.same sm).sq) (fun i x σ H2 H3 hi hy' hy => ?_) (fun σ H2 hy' => ?_)
  · obtain ⟨y2, y3, y4, rfl, sm, ks', hk, eq, hkl⟩ := hy'
    obtain ⟨rfl, gx⟩ := hy
    obtain ⟨d, gd, hdx⟩ := hx.get gx
    have ec := hc d (List.mem_of_getElem? gd)
    have hid : i < cs.length := (List.getElem?_eq_some_iff.mp gd).1
    have edrop : cs.drop i = d :: cs.drop (i + 1) := by
      rw [List.drop_eq_getElem_cons hid]
      rw [List.getElem?_eq_getElem hid] at gd
      cases gd; rfl
    rw [edrop] at eq
    obtain ⟨aq, x3, rfl, haq⟩ := Dt.nums ec (hdx.on sm)
    refine ⟨aq, _, rfl, haq.sq, rfl, _, _, rfl, _, _, rfl, _, _, rfl, rfl, ?_⟩
    walk_at "rds"
    refine ⟨r, _, rfl, DPut.k (k := Sum.inl (dClient d)) hk (by rw [List.length_map]; exact sz1000' (by omega)), ?_⟩
    refine ⟨_, _, _, rfl, same_mut sm hr, putN ks' (dClient d) (dNum d), ?_, eq, by have := putN_len ks' (dClient d) (dNum d); omega⟩
    show upd _ r _ r = _
    rw [upd_same, nd_put]
  · obtain ⟨y2, y3, y4, rfl, sm, ks', hk, eq, hkl⟩ := hy'
    walk_at "rds"
    rw [List.drop_of_length_le (by rw [hx.length]; exact Nat.le_refl _)] at eq
    refine q _ _ hr sm ?_
    rw [eq]
    exact hk
end

section
variable {P : Program} {w : World} {K : PySem.W.Frag} {mg : Str → Option Value} {base : Heap}
theorem c_last_number {C_Ballot : Addr} {C_Chain : Addr} {C_BadBlock : Addr} (T : Txt K mg C_Ballot C_Chain C_BadBlock) : Cal P w K mg base 1 "last_number" spLast [] := by
  refine cal T.d_last_number sc_last_number (fun vs H Q E h => ?_) (fun f cdv A' outer s H vs Q E hr h => ?_)
  · obtain ⟨p, ks, c, rfl, _⟩ := h; rfl
  obtain ⟨p, ks, c, rfl, hp, q⟩ := h
  refine ⟨_, (pss_one (ps_ret (pe_dget2 (hu1 hr) (pv 0) (pv 1) pe_int ⟨by rfl, by rfl, by rfl, by rfl⟩))), ?_⟩
  walk_at "rds"
  refine ⟨.inl ⟨_, .inl hp⟩, ?_⟩
  walk_at "rds"
  refine ⟨_, DGet.k (k := Sum.inl c) hp, ?_⟩
  rw [nd_val]
  have e : ((ndOpt ks c).map V.int).getD (.int 0) = .int (ndGet ks c) := by
    unfold ndGet
    cases ndOpt ks c <;> rfl
  rw [e]
  exact q
theorem c_all_fresh {C_Ballot : Addr} {C_Chain : Addr} {C_BadBlock : Addr} (T : Txt K mg C_Ballot C_Chain C_BadBlock) : Cal P w K mg base 2 "all_fresh" (spFresh K) [] := by
  have c_last_number := c_last_number (P := P) (w := w) (base := base) T
  refine cal T.d_all_fresh sc_all_fresh (fun vs H Q E h => ?_) (fun f cdv A' outer s H vs Q E hr h => ?_)
  · obtain ⟨p, v, ks, cs, rfl, _⟩ := h; rfl
  obtain ⟨p, v, ks, cs, rfl, hp, hv, hc, q⟩ := h
  refine ⟨_, (pss_cons (ps_for PassesOwn.never rfl (pi_tup (pv 1)) (pg_tup (by rfl) (pgs_cons (pg_name (i := 2) sc_all_fresh.nd rfl (Or.inl rfl)) (pgs_cons (pg_name (i := 3) sc_all_fresh.nd rfl (Or.inl rfl)) (pgs_cons (pg_name (i := 4) sc_all_fresh.nd rfl (Or.inl rfl)) pgs_nil)))) (pss_one (ps_if (pt_cmpR op_le (pv 3) (pe_c c_last_number hr (by decide) (by rfl) (pa_cons (pv 0) (pa_cons (pv 2) pa_nil))) (nomark _)) (pss_one (ps_ret pe_bl)) pss_nil)))
      (pss_one (ps_ret pe_bl))), ?_⟩
  obtain ⟨b, xs, ds, rfl, e, hb, hx⟩ : ∃ b xs ds, v = .ref b ∧ PyData.tuple cs = .tuple ds ∧ TupAt K H b xs ∧ DtAll K H none xs ds := by
    cases hv with
    | tup hb hx => exact ⟨_, _, _, rfl, rfl, hb, hx⟩
  cases e
  walk_at "rds"
  refine ⟨⟨xs, hb.sq⟩, ?_⟩
  refine for_it (walk_tup (K := K) (a := b) (xs := xs)) (Pv := fun i σ H' => ∃ y2 y3 y4, σ = [some (.ref p), some (.ref b), y2, y3, y4] ∧ H' = H ∧ dFresh ks cs = dFresh ks (cs.drop i)) ⟨none, none, none, rfl, rfl, rfl⟩ (fun i σ H' _ h => by obtain ⟨_, _, _, _, rfl, _⟩ := h; exact hb.sq) (fun i x σ H2 H3 hi hy' hy => ?_) (fun σ H2 hy' => ?_)
  · obtain ⟨y2, y3, y4, rfl, rfl, eq⟩ := hy'
    obtain ⟨rfl, gx⟩ := hy
    obtain ⟨d, gd, hdx⟩ := hx.get gx
    have ec := hc d (List.mem_of_getElem? gd)
    have hid : i < cs.length := (List.getElem?_eq_some_iff.mp gd).1
    have edrop : cs.drop i = d :: cs.drop (i + 1) := by
      rw [List.drop_eq_getElem_cons hid]
      rw [List.getElem?_eq_getElem hid] at gd
      cases gd; rfl
    rw [edrop] at eq
    have eq : dFresh ks cs = (decide (ndGet ks (dClient d) < dNum d) && dFresh ks (cs.drop (i + 1))) := eq
    obtain ⟨aq, x3, rfl, haq⟩ := Dt.nums ec hdx
    refine ⟨aq, _, rfl, haq.sq, rfl, _, _, rfl, _, _, rfl, _, _, rfl, rfl, ?_⟩
    walk_at "rds"
    refine ⟨p, ks, _, rfl, hp, ?_⟩
    walk_at "rds"
    refine ite2 (fun e => ?_) (fun e => ?_)
    · have e : dNum d ≤ ndGet ks (dClient d) := of_decide_eq_true e
      rw [eq, decide_eq_false (by omega)] at q
      exact q
    · have e : ¬ dNum d ≤ ndGet ks (dClient d) := fun z => e (decide_eq_true z)
      exact ⟨_, _, _, rfl, rfl, by rw [eq, decide_eq_true (by omega), Bool.true_and]⟩
  · obtain ⟨y2, y3, y4, rfl, rfl, eq⟩ := hy'
    walk_at "rds"
    rw [List.drop_of_length_le (by rw [hx.length]; exact Nat.le_refl _)] at eq
    rw [eq] at q
    exact q
end

/-! ### the keys of last numbers -/
theorem ndAfter_len : ∀ (cs : List PyData) (ks : List (Int × Int)), (ndAfter ks cs).length ≤ ks.length + cs.length
  | [], _ => Nat.le_refl _
  | c :: r, ks => by
    have h := ndAfter_len r (putN ks (dClient c) (dNum c))
    have h2 := putN_len ks (dClient c) (dNum c)
    show (ndAfter (putN ks (dClient c) (dNum c)) r).length ≤ _
    rw [List.length_cons]; omega
def keysOk (ks : List (Int × Int)) : Prop := (ks.map (·.1)).Nodup
theorem putN_keys {ks : List (Int × Int)} (c n : Int) (h : keysOk ks) : keysOk (putN ks c n) := by
  unfold keysOk putN at *
  split
  · rw [List.map_map]
    have : ((fun x : Int × Int => x.1) ∘ fun k : Int × Int => if k.1 = c then (k.1, n) else k) = (·.1) := by
      funext k
      show (if k.1 = c then (k.1, n) else k).1 = k.1
      split <;> rfl
    rw [this]; exact h
  · rename_i hn
    rw [List.map_append, List.nodup_append]
    refine ⟨h, by simp, fun a ha b hb => ?_⟩
    have hb : b = c := by simpa using hb
    rw [hb]
    intro e
    obtain ⟨k, hk, ek⟩ := List.mem_map.mp ha
    exact hn (List.any_eq_true.mpr ⟨k, hk, decide_eq_true (ek.trans e)⟩)
theorem ndAfter_keys : ∀ (cs : List PyData) {ks : List (Int × Int)}, keysOk ks → keysOk (ndAfter ks cs)
  | [], _, h => h
  | c :: r, ks, h => ndAfter_keys r (putN_keys (dClient c) (dNum c) h)
theorem ndOpt_mem : ∀ {ks : List (Int × Int)}, keysOk ks → ∀ k ∈ ks, ndOpt ks k.1 = some k.2
  | [], _, _, m => nomatch m
  | q :: r, h, k, m => by
    unfold keysOk at h
    rw [List.map_cons, List.nodup_cons] at h
    unfold ndOpt
    rw [List.find?_cons]
    rcases List.mem_cons.mp m with rfl | m
    · rw [decide_eq_true rfl]; rfl
    · by_cases e : q.1 = k.1
      · exact absurd (e ▸ List.mem_map_of_mem (f := (·.1)) m) h.1
      · rw [decide_eq_false e]
        exact ndOpt_mem (ks := r) h.2 k m

/-! ### numbers along a path -/
def dBlkCs : PyData → List PyData
  | .tuple [_, _, _, .tuple cs] => cs
  | _ => []
def dBlkOk : PyData → Bool
  | .tuple [.int _, .int _, .int _, .tuple cs] => cs.all dCmd && decide (cs.length ≤ 100)
  | _ => false
theorem dBlkOk_inv {d : PyData} (h : dBlkOk d = true) : ∃ e p t cs, d = .tuple [.int e, .int p, .int t, .tuple cs] ∧ (∀ c ∈ cs, dCmd c = true) ∧ cs.length ≤ 100 := by
  unfold dBlkOk at h
  split at h
  · rw [Bool.and_eq_true] at h
    exact ⟨_, _, _, _, rfl, fun c hc => List.all_eq_true.mp h.1 c hc, of_decide_eq_true h.2⟩
  · cases h
theorem noLs_cmds {ds : List PyData} (h : ∀ d ∈ ds, dCmd d = true) : noLs ds = true := noLs_all fun d hd => dCmd_noL (h d hd)
theorem dBlkOk_noL {d : PyData} (h : dBlkOk d = true) : noL d = true := by
  obtain ⟨e, p, t, cs, rfl, hc, _⟩ := dBlkOk_inv h
  show (noL (.int e) && (noL (.int p) && (noL (.int t) && (noL (.tuple cs) && noLs [])))) = true
  rw [show noL (.tuple cs) = true from noLs_cmds hc]; rfl
def alongN (ks : List (Int × Int)) (bs : List PyData) : List (Int × Int) := bs.foldl (fun ks b => ndAfter ks (dBlkCs b)) ks
theorem alongN_len : ∀ (bs : List PyData) (ks : List (Int × Int)), (∀ b ∈ bs, dBlkOk b = true) → (alongN ks bs).length ≤ ks.length + 100 * bs.length
  | [], _, _ => Nat.le_refl _
  | b :: r, ks, h => by
    have h1 := alongN_len r (ndAfter ks (dBlkCs b)) (fun z hz => h z (List.mem_cons_of_mem _ hz))
    have h2 := ndAfter_len (dBlkCs b) ks
    obtain ⟨e, p, t, cs, rfl, _, hl⟩ := dBlkOk_inv (h b List.mem_cons_self)
    have h3 : (dBlkCs (.tuple [.int e, .int p, .int t, .tuple cs])).length = cs.length := rfl
    show (alongN (ndAfter ks (dBlkCs _)) r).length ≤ _
    rw [List.length_cons]; omega
theorem alongN_keys : ∀ (bs : List PyData) {ks : List (Int × Int)}, keysOk ks → keysOk (alongN ks bs)
  | [], _, h => h
  | b :: r, ks, h => alongN_keys r (ndAfter_keys (dBlkCs b) h)
/-- two dicts of the same pairs are equal -/
theorem nd_eq {K : PySem.W.Frag} {H : Hp} {ks : List (Int × Int)} (h : keysOk ks) : ∀ p ∈ ks.map ndK, ∃ u, valV (ks.map ndK) p.1 = some u ∧ EqV K H 1 p.2 u := by
  intro p hp
  obtain ⟨k, hk, rfl⟩ := List.mem_map.mp hp
  refine ⟨V.int k.2, ?_, .inl ⟨rfl, rfl⟩⟩
  show valV (ks.map ndK) (Sum.inl k.1) = _
  rw [nd_val, ndOpt_mem h k hk]; rfl
def spAlong (K : PySem.W.Frag) : Sp := fun vs H Q _ => ∃ (p l : Addr) (ks : List (Int × Int)) (xs : List V) (bs : List PyData), vs = [.ref p, .ref l] ∧ Nd H p ks ∧ H l = some (.lst xs) ∧ DtAll K H none xs bs ∧ (∀ b ∈ bs, dBlkOk b = true) ∧ bs.length ≤ 90 ∧ ks.length ≤ 900 ∧
  ∀ (r : Addr) (H' : Hp), H r = none → Same H H' → Nd H' r (alongN ks bs) → Q (.ref r) H'
section
variable {P : Program} {w : World} {K : PySem.W.Frag} {mg : Str → Option Value} {base : Heap}
theorem c_numbers_along {C_Ballot : Addr} {C_Chain : Addr} {C_BadBlock : Addr} (T : Txt K mg C_Ballot C_Chain C_BadBlock) : Cal P w K mg base 3 "numbers_along" (spAlong K) [] := by
  have c_numbers_after := c_numbers_after (P := P) (w := w) (base := base) T
  refine cal T.d_numbers_along sc_numbers_along (fun vs H Q E h => ?_) (fun f cdv A' outer s H vs Q E hr h => ?_)
  · obtain ⟨p, l, ks, xs, bs, rfl, _⟩ := h; rfl
  obtain ⟨p, l, ks, xs, bs, rfl, hp, hl, hx, hb, hbl, hkl, q⟩ := h
  refine ⟨_, (pss_cons (ps_set (i := 2) sc_numbers_along.nd rfl (Or.inl rfl) (pe_callTy call_dictD (by rfl) T.z_dict (by decide +kernel) (pa_cons (pv 0) pa_nil)))
      (pss_cons (ps_for PassesOwn.never rfl (pi_list (pv 1)) (pg_name (i := 3) sc_numbers_along.nd rfl (Or.inl rfl)) (pss_one (ps_set (i := 2) sc_numbers_along.nd rfl (Or.inl rfl) (pe_c c_numbers_after hr (by decide) (by rfl) (pa_cons (pv 2) (pa_cons (pe_ix (kixt (K := K)) (pv 3) pe_int (fun _ _ => rfl)) pa_nil))))))
      (pss_one (ps_ret (pv 2))))), ?_⟩
  walk_at "rds"
  refine ⟨p, _, rfl, .inl hp, fun r hr => ?_⟩
  walk_at "rds"
  refine ⟨⟨xs, sq ((same_upd hr) _ _ hl)⟩, ?_⟩
  refine for_it (walk_list (K := K) (a := l) (xs := xs)) (Pv := fun i σ H' => ∃ r y3 ks', σ = [some (.ref p), some (.ref l), some (.ref r), y3] ∧ Same H H' ∧ H r = none ∧ Nd H' r ks' ∧ alongN ks bs = alongN ks' (bs.drop i) ∧ ks'.length ≤ ks.length + 100 * i) ⟨r, none, ks, rfl, same_upd hr, hr, upd_same, rfl, Nat.le_refl _⟩ (fun i σ H' _ h => by obtain ⟨_, _, _, _, sm, _⟩ := h; exact sq (sm _ _ hl)) (fun i x σ H2 H3 hi hy' hy => ?_) (fun σ H2 hy' => ?_)
  · obtain ⟨r, y3, ks', rfl, sm, hr, hk, eq, hkl'⟩ := hy'
    obtain ⟨rfl, gx⟩ := hy
    obtain ⟨d, gd, hdx⟩ := hx.get gx
    have eb := hb d (List.mem_of_getElem? gd)
    have hid : i < bs.length := (List.getElem?_eq_some_iff.mp gd).1
    have edrop : bs.drop i = d :: bs.drop (i + 1) := by
      rw [List.drop_eq_getElem_cons hid]
      rw [List.getElem?_eq_getElem hid] at gd
      cases gd; rfl
    rw [edrop] at eq
    obtain ⟨e1, e2, e3, cs, rfl, hc, hcl⟩ := dBlkOk_inv eb
    cases hdx.on sm with
    | tup ha hxx =>
      rename_i a ys
      obtain ⟨x1, x2, x3, x4, d1, d2, d3, d4, rfl, e, h1, h2, h3, h4⟩ := hxx.four (by rw [hxx.length]; rfl)
      cases e
      walk_at "rds"
      refine ⟨a, _, 3, _, rfl, rfl, ha.sq, atI_nat (j := 3) rfl, ?_⟩
      refine ⟨r, _, ks', cs, rfl, hk, h4, hc, by omega, fun r2 H4 hr2 sm2 hk2 => ?_⟩
      refine ⟨r2, _, _, rfl, sm.trans sm2, same_none sm hr2, hk2, eq, ?_⟩
      have := ndAfter_len cs ks'
      omega
  · obtain ⟨r, y3, ks', rfl, sm, hr, hk, eq, hkl'⟩ := hy'
    walk_at "rds"
    rw [List.drop_of_length_le (by rw [hx.length]; exact Nat.le_refl _)] at eq
    refine q _ _ hr sm ?_
    rw [eq]
    exact hk
end

/-! ### a dict comprehension whose keys are tuples -/
section
variable {X : Cx}
theorem d_dictSetT {pns : List (Addr × Obj)} {σ : L2.St} {H : Hp} {s : Shared} {E : Value → Shared → Prop} {D b : Addr} {kvs : List (List Key × V)} {k : List Key} {v : V} {u r : Value} {Q : Unit → Shared → Prop} (hu : X.A.units + 1 < cLine) (I : Inv X pns σ H s) (hD : H D = some (.dT kvs)) (eb : H b = some (.tup (k.map kV))) (hz : kvs.length < sizeLine)
    (ry : RelV (.ref b) u) (rv : RelV v r) (h : ∀ s', Inv X pns σ (upd H D (.dT (putK kvs k v))) s' → Q () s') : wpAny (model X.prog X.w) X.A (dictSet D u r) Q E s := by
  cases (show u = Value.ref b from ry)
  obtain ⟨z, hd, xs, rel, dd⟩ := dt_of I.hok hD
  have zx : xs.length ≤ sizeLine := by rw [← Paired.length rel]; exact z
  have zl : (putK kvs k v).length ≤ sizeLine := by have := length_putK kvs k v; omega
  refine wpAny_dictSet_heap (hsz := zx) (show X.A.units < cLine by omega) (key_of I.hok eb) dd fun h' dd' hs => h _ ?_
  obtain ⟨q, es, ep, hq, h2, h3, h4, _, h5⟩ := dd'
  refine d_write I (by rw [hD]; exact True.intro) hs ⟨q, hq⟩ ⟨zl, hd, _, (rel.put k eb rv).keeps fun c ys ec => ?_, q, es, ep, hq, h2, h3, h4, h5⟩
  rw [upd_ne (ne_of ec hD (fun z => nomatch z))]; exact ec
def tDcT (wi : TI) (g : TG) (tt : L2.TT) (tk tv : TE) (vs : List Nat) : TE := fun σ H Q => wi σ H fun J H1 => ∀ D, H1 D = none → ∃ W : Nat → Nat → Hp → Prop, (∃ m, W 0 m (upd H1 D (.dT []))) ∧ ∀ i m H, W i m H →
  (J.stop i H ∧ Q (.ref D) H) ∨ (J.go i H ∧ ∃ Nx : Hp → Prop, (∀ H', Nx H' → ∃ m', m' < m ∧ W (i + 1) m' H') ∧ ∀ x H', J.yld i H x H' → g x (wipe σ vs) H' fun σ2 H2 => wipe σ2 vs = wipe σ vs ∧ tt σ2 H2 fun b H3 =>
    if b = true then tk σ2 H3 fun y H4 => tv σ2 H4 fun z H5 => ∃ kvs k kb, y = .ref kb ∧ H5 kb = some (.tup (k.map kV)) ∧ H5 D = some (.dT kvs) ∧ kvs.length < sizeLine ∧ Nx (upd H5 D (.dT (putK kvs k z))) else Nx H3)
theorem dcT_core {pns : List (Addr × Obj)} {s : Shared} {σ : L2.St} {H : Hp} {Q : VK} {kx vx tg iter : Expr} {ifs : List Expr} {scope : Scope} {own : List (Str × Nat)} {pos pos' : Pos} {wi : TI} {g : TG} {tt : TT} {tk tv : TE} {use : Option (Value → Sem Unit)} {Qf : Value → Shared → Prop}
    (hc : X.calm = true) (hu : X.A.units + 1 < cLine) (hN : X.N.Nodup) (I : Inv X pns σ H s) (hi : PI X tg iter wi) (ok : BlkOk X.N X.env.scope scope own)
    (hg : ∀ (sw : Shared) (Hw : Hp) (C : Addr) (cl : List (Str × Addr)) (fp : List Addr), PG (X.blk sw Hw scope (compEnvC scope cl C X.env) fp) tg g) (ht : ∀ (sw : Shared) (Hw : Hp) (C : Addr) (cl : List (Str × Addr)) (fp : List Addr), PTs (X.blk sw Hw scope (compEnvC scope cl C X.env) fp) ifs tt)
    (hk : ∀ (sw : Shared) (Hw : Hp) (C : Addr) (cl : List (Str × Addr)) (fp : List Addr), PE (X.blk sw Hw scope (compEnvC scope cl C X.env) fp) kx tk)
    (he : ∀ (sw : Shared) (Hw : Hp) (C : Addr) (cl : List (Str × Addr)) (fp : List Addr), PE (X.blk sw Hw scope (compEnvC scope cl C X.env) fp) vx tv) (hs : ∀ x, foldedSetIterable iter X.env x = pure x)
    (h : tDcT wi g tt tk tv (own.map (·.2)) σ H Q)
    (hEnd : ∀ D C s' m H', Inv X pns σ H' s' → Q (.ref D) H' → s'.heap.Ns C m → FpOk X pns H' C → compPost (model X.prog X.w) X.A X.xe use Qf (.ref D) C (.ok .next) s') : wpAny (model X.prog X.w) X.A (comprehension (.DictComp kx vx [⟨tg, iter, ifs, 0⟩] scope pos) scope X.env pos' newDict false (eval iter X.env) use) Qf X.xe s := by
  have hFree : ∀ y ∈ scope.names, y.2 = .free → ∃ c, X.env.cells.lookup y.1 = some c := fun y hy e => by
    rcases ok.free y hy e with ka | ka
    · exact I.ok.has _ (.inl ka)
    · exact I.ok.has _ (.inr ka)
  refine wpAny_comprehension_free (use := use) rfl hs (closure_ok hFree) ok.kind (fun y hy e => by rw [ok.uniq y hy, e])
    (thn (hi.run pns s σ H _ I h) fun xV sv1 hX => thn hX fun itV sv2 hv2 => ?_)
  obtain ⟨it, fp, tn, J, Hv2, e, Iv2, T, stv2, fv2, q⟩ := hv2
  subst e
  refine wpAny_newObj_type (newEnv_comp ?_); generalize hDd : sv2.heap.objs.size = D
  have hDn : Hv2 D = none := Iv2.hok.fresh (Nat.le_of_eq hDd)
  obtain ⟨W, ⟨m0, wv0⟩, trn⟩ := q D hDn
  -- the new list
  generalize hs3 : ({ sv2 with heap := sv2.heap.push { cls := .type "dict", data := .dict #[] } } : Shared) = sv3
  have Iv3 : Inv X pns σ (upd Hv2 D (.dT [])) sv3 := by
    rw [← hs3]
    refine Iv2.laid (t' := sv2.toks) (fun b o e => Heap.get?_push_of_some _ e) (Nat.le_of_eq hDd) ?_
    rw [← hDd]
    exact dt_empty sv2.heap Iv2.big
  have hv3 : sv3.heap = sv2.heap.push { cls := .type "dict", data := .dict #[] } := by rw [← hs3]
  have szT : ∀ b ∈ fp, b < sv2.heap.objs.size := fun b hb => by
    obtain ⟨o, e, _⟩ := T.obj _ _ stv2 b hb
    exact Heap.lt_size e
  have fv3 : ∀ b ∈ fp, FpOk X pns (upd Hv2 D (.dT [])) b ∧ b < sv3.heap.objs.size := fun b hb => by
    have hLt := szT b hb
    refine ⟨⟨?_, (fv2 b hb).2⟩, by rw [hv3, Heap.size_push]; exact Nat.lt_succ_of_lt hLt⟩
    rw [upd_ne (by rw [← hDd]; exact Nat.ne_of_lt hLt)]
    exact (fv2 b hb).1
  have stv3 : tn 0 sv3.heap := T.keep _ _ _ stv2 fun b _ o e => by rw [hv3]; exact Heap.get?_push_of_some _ e
  have Iv4 := block_start Iv3 ok hN fv3
  have pgT := hg sv3 (upd Hv2 D (.dT [])) sv3.heap.objs.size (cellsFrom (sv3.heap.objs.size + 1) scope.names (cloFrom X.env.cells scope.names [])) fp
  have ptT := ht sv3 (upd Hv2 D (.dT [])) sv3.heap.objs.size (cellsFrom (sv3.heap.objs.size + 1) scope.names (cloFrom X.env.cells scope.names [])) fp
  have pkT := hk sv3 (upd Hv2 D (.dT [])) sv3.heap.objs.size (cellsFrom (sv3.heap.objs.size + 1) scope.names (cloFrom X.env.cells scope.names [])) fp
  have peT := he sv3 (upd Hv2 D (.dT [])) sv3.heap.objs.size (cellsFrom (sv3.heap.objs.size + 1) scope.names (cloFrom X.env.cells scope.names [])) fp
  show codeAny _ _ (.compStart (.DictComp kx vx [⟨tg, iter, ifs, 0⟩] scope pos) 0 (.ref it) (.ref D) (compEnvC scope (cellsFrom (sv3.heap.objs.size + 1) scope.names (cloFrom X.env.cells scope.names [])) sv3.heap.objs.size X.env)) (compPost (model X.prog X.w) X.A X.xe use Qf (.ref D) sv3.heap.objs.size) { sv3 with heap := pushCells (sv3.heap.push { cls := .type "dict", data := .dict #[] }) scope.names }
  have nFp : ∀ b ∈ fp, (upd Hv2 D (.dT [])) b = none := fun b hb => (fv3 b hb).1.1
  generalize hCe : compEnvC scope (cellsFrom (sv3.heap.objs.size + 1) scope.names (cloFrom X.env.cells scope.names [])) sv3.heap.objs.size X.env = ce at Iv4 pgT ptT pkT peT ⊢
  have ceL : ce.locals = sv3.heap.objs.size := by subst hCe; rfl
  generalize hH3 : upd Hv2 D (.dT []) = Hv3 at Iv3 Iv4 pgT ptT pkT peT wv0 nFp fv3
  generalize hs4 : ({ sv3 with heap := pushCells (sv3.heap.push { cls := .type "dict", data := .dict #[] }) scope.names } : Shared) = sv4 at Iv4 ⊢
  have stv4 : tn 0 sv4.heap := T.keep _ _ _ stv3 fun b _ o e => by rw [← hs4]; exact pushCells_keeps _ _ _ _ (Heap.get?_push_of_some _ e)
  have stay : ∀ {σ' : L2.St} {H' : Hp} {s' : Shared}, Inv (X.blk sv3 Hv3 scope ce fp) [] σ' H' s' → (∀ b ∈ fp, H' b = none) → ∀ b ∈ fp, FpOk (X.blk sv3 Hv3 scope ce fp) [] H' b := fun {σ' H' s'} In hn b hb =>
    ⟨hn b hb, (In.ok.exf b hb).1, In.ok.exfs b hb, .inl hb, fun x c e => (In.ok.exf b hb).2 x c e, fun p hp => absurd (show p ∈ ([] : List (Addr × Obj)) ++ [] from hp) (by simp)⟩
  have loopT : codeAny (model X.prog X.w) X.A (.compLoop (.DictComp kx vx [⟨tg, iter, ifs, 0⟩] scope pos) 0 (.ref it) (.ref D) ce) (compPost (model X.prog X.w) X.A X.xe use Qf (.ref D) sv3.heap.objs.size) sv4 := by
    refine compLoop_anyD (fun n s' => ∃ i H', Inv (X.blk sv3 Hv3 scope ce fp) [] (wipe σ (own.map (·.2))) H' s' ∧ tn i s'.heap ∧ (∀ b ∈ fp, H' b = none) ∧ W i n H') ?_ m0 ⟨0, Hv3, Iv4, stv4, nFp, wv0⟩
    rintro n sv5 ⟨i, Hv5, Iv5, stv5, nv5, wv5⟩
    rcases trn i n Hv5 wv5 with ⟨stp, qq⟩ | ⟨goT, Nx, hNx, stepT⟩
    · have td := T.done (X.blk sv3 Hv3 scope ce fp) rfl rfl rfl hc i [] sv5 _ Hv5 (fun _ _ => False) Iv5 (stay Iv5 nv5) stv5 stp
      refine thnF td fun r sv6 ⟨hr, Iv6⟩ => ?_
      subst hr
      -- back in the def's context
      have Iv7 : Inv X pns σ Hv5 sv6 := Iv3.call' (ch := fp) Iv6.os Iv6.base Iv6.hok Iv6.bare fun b hb => ⟨(fv3 b hb).1.2.2.2.1, (fv3 b hb).1.2.1, (fv3 b hb).1.2.2.2.2.1, (fv3 b hb).1.2.2.2.2.2⟩
      have nC : Hv5 sv3.heap.objs.size = none := by
        have zz : Hv5 ce.locals = none := Iv6.free
        rw [ceL] at zz
        exact zz
      obtain ⟨m, hn, _⟩ := Iv6.loc
      have hn : sv6.heap.Ns ce.locals m := hn
      rw [ceL] at hn
      exact hEnd D sv3.heap.objs.size sv6 m Hv5 Iv7 qq hn (Iv3.fpOk (Nat.le_refl _) nC)
    · have ti := T.item (X.blk sv3 Hv3 scope ce fp) rfl rfl rfl hc i [] sv5 _ Hv5 (fun _ _ => False) Iv5 (stay Iv5 nv5) stv5 goT
      refine thnF ti fun r sv6 ⟨u, hr, hv6⟩ => ?_
      subst hr
      refine thnF hv6 fun _ sv7 ⟨x, Hv7, Iv7, rv7, yv7, stv7, nv7⟩ => ?_
      have Iv7' := Iv7.pinned (stay Iv7 nv7) (T.obj _ _ stv7)
      refine thnF (pgT.run _ sv7 _ Hv7 x u _ Iv7' rv7 (stepT x Hv7 yv7)) fun _ sv8 ⟨σw, Hv8, Iv8, hw8, qv8⟩ => ?_
      refine thnF (ptT.run _ sv8 σw Hv8 _ Iv8 qv8) fun b sv9 ⟨Hv9, Iv9, qv9⟩ => ?_
      -- the trn's end
      have turned : ∀ {s' : Shared} {H' : Hp}, Inv (X.blk sv3 Hv3 scope ce fp) ([] ++ pinsAt fp sv7.heap) σw H' s' → Nx H' → ∃ m, m < n ∧ ∃ i H', Inv (X.blk sv3 Hv3 scope ce fp) [] (wipe σ (own.map (·.2))) H' s' ∧ tn i s'.heap ∧ (∀ b ∈ fp, H' b = none) ∧ W i m H' := fun {s' H'} In nx => by
        obtain ⟨mn, hmn, wn⟩ := hNx H' nx
        have pin' : ∀ b ∈ fp, ∀ o, sv7.heap.get? b = some o → s'.heap.get? b = some o ∧ H' b = none := fun b hb o e =>
          let zz := In.pin (b, o) (List.mem_append_right _ (List.mem_append_right _ (mem_pinsAt hb e)))
          ⟨zz.1, zz.2.1⟩
        have hLl : (wipe σ (own.map (·.2))).length = σw.length := by rw [← hw8, wipe_length]
        refine ⟨mn, hmn, i + 1, H', (In.unpinned (pins := [])).weak hLl (fun j v e => ?_), T.keep _ _ _ stv7 fun b hb o e => (pin' b hb o e).1, fun b hb => ?_, wn⟩
        · rw [← hw8] at e
          exact (wipe_some e).1
        · obtain ⟨o, e, _⟩ := T.obj _ _ stv7 b hb
          exact (pin' b hb o e).2
      cases b with
      | false =>
        simp only [Bool.false_eq_true, if_false] at qv9 ⊢
        exact turned Iv9 qv9
      | true =>
        simp only [if_true] at qv9 ⊢
        refine thnF (pkT.run _ sv9 σw Hv9 _ Iv9 qv9) fun zz sv10 ⟨yk, Hv10, Iv10, rv10, qv10⟩ => ?_
        refine thnF (peT.run _ sv10 σw Hv10 _ Iv10 qv10) fun z2 sv11 ⟨yv, Hv11, Iv11, rv11, kvs, k, kb, ek, eb, hDv11, hzv11, nx⟩ => ?_
        subst ek
        exact d_dictSetT (X := X.blk sv3 Hv3 scope ce fp) hu Iv11 hDv11 eb hzv11 rv10 rv11 fun sv12 Iv12 => turned Iv12 nx
  exact codeAny_compStart_dict loopT (T.self X.A 0 _ _ _ stv4 loopT)
theorem pe_dcT {kx vx tg iter : Expr} {ifs : List Expr} {scope : Scope} {own : List (Str × Nat)} {pos : Pos} {wi : TI} {g : TG} {tt : L2.TT} {tk tv : TE} (hc : X.calm = true) (hN : X.N.Nodup) (hi : PI X tg iter wi) (ok : BlkOk X.N X.env.scope scope own)
    (hg : ∀ (sw : Shared) (Hw : Hp) (C : Addr) (cl : List (Str × Addr)) (fp : List Addr), PG (X.blk sw Hw scope (compEnvC scope cl C X.env) fp) tg g) (ht : ∀ (sw : Shared) (Hw : Hp) (C : Addr) (cl : List (Str × Addr)) (fp : List Addr), PTs (X.blk sw Hw scope (compEnvC scope cl C X.env) fp) ifs tt)
    (hk : ∀ (sw : Shared) (Hw : Hp) (C : Addr) (cl : List (Str × Addr)) (fp : List Addr), PE (X.blk sw Hw scope (compEnvC scope cl C X.env) fp) kx tk)
    (he : ∀ (sw : Shared) (Hw : Hp) (C : Addr) (cl : List (Str × Addr)) (fp : List Addr), PE (X.blk sw Hw scope (compEnvC scope cl C X.env) fp) vx tv) (hu : X.A.units + 1 < cLine) (hs : ∀ y, foldedSetIterable iter X.env y = pure y := by intro _; rfl) :
    PE X (.DictComp kx vx [⟨tg, iter, ifs, 0⟩] scope pos) (tDcT wi g tt tk tv (own.map (·.2))) := by
  refine ⟨fun pns s σ H Q I h => ?_⟩
  rw [arm_eval_DictComp]
  refine dcT_core hc hu hN I hi ok hg ht hk he hs h fun D C s' m H' I' q hn f => ⟨m, hn, fun h'' sb => ?_⟩
  obtain ⟨f0, f1, f2, f3, f4, f5⟩ := f
  exact ⟨.ref D, H', I'.turned (t' := s'.toks) (fun b o hb e => (sb.2 b hb).trans e) f0 f1 f3 f4 f5, rfl, q⟩
variable {J : It} {n : Nat} {G : Hp → Prop} {Y : Nat → Hp → V → Hp → Prop}
/-- such a comprehension along a walk -/
theorem dcT_it (w : Walk J n G Y) {g : TG} {tt : L2.TT} {tk tv : TE} {vs : List Nat} {σ : L2.St} {H1 : Hp} {D : Addr} {Qd : Hp → Prop} (Pv : Nat → Hp → Prop) (h0 : Pv 0 (upd H1 D (.dT []))) (hG : ∀ i H, i ≤ n → Pv i H → G H)
    (hs : ∀ i x H H', i < n → Pv i H → Y i H x H' → g x (wipe σ vs) H' fun σ2 H2 => wipe σ2 vs = wipe σ vs ∧ tt σ2 H2 fun b H3 =>
      if b = true then tk σ2 H3 fun y H4 => tv σ2 H4 fun z H5 => ∃ kvs k kb, y = .ref kb ∧ H5 kb = some (.tup (k.map kV)) ∧ H5 D = some (.dT kvs) ∧ kvs.length < sizeLine ∧ Pv (i + 1) (upd H5 D (.dT (putK kvs k z))) else Pv (i + 1) H3) (hd : ∀ H, Pv n H → Qd H) :
    ∃ W : Nat → Nat → Hp → Prop, (∃ m, W 0 m (upd H1 D (.dT []))) ∧ ∀ i m H, W i m H →
      (J.stop i H ∧ Qd H) ∨ (J.go i H ∧ ∃ Nx : Hp → Prop, (∀ H', Nx H' → ∃ m', m' < m ∧ W (i + 1) m' H') ∧ ∀ x H', J.yld i H x H' → g x (wipe σ vs) H' fun σ2 H2 => wipe σ2 vs = wipe σ vs ∧ tt σ2 H2 fun b H3 =>
        if b = true then tk σ2 H3 fun y H4 => tv σ2 H4 fun z H5 => ∃ kvs k kb, y = .ref kb ∧ H5 kb = some (.tup (k.map kV)) ∧ H5 D = some (.dT kvs) ∧ kvs.length < sizeLine ∧ Nx (upd H5 D (.dT (putK kvs k z))) else Nx H3) := by
  refine ⟨fun i m H => m = n - i ∧ i ≤ n ∧ Pv i H, ⟨n, by simp, Nat.zero_le _, h0⟩, ?_⟩
  rintro i m H ⟨rfl, hi, p⟩
  have q := hG i H hi p
  by_cases hlt : i < n
  · exact .inr ⟨w.goes i H hlt q, Pv (i + 1), fun H' p' => ⟨n - (i + 1), by omega, rfl, hlt, p'⟩, fun x H' y => hs i x H H' hlt p (w.yields i H x H' hlt q y)⟩
  · have e : i = n := by omega
    subst e
    exact .inl ⟨w.stops H q, hd H p⟩
end

--@SPLIT
/-! ### commands as triples -/
abbrev CT := Int × Int × Str
def ctD (c : CT) : PyData := .tuple [.int c.1, .int c.2.1, .str c.2.2]
def ctK (c : CT) : List Key := [Sum.inl c.1, Sum.inl c.2.1, Sum.inr c.2.2]
theorem ctK_inj {a b : CT} (h : ctK a = ctK b) : a = b := by
  obtain ⟨a1, a2, a3⟩ := a
  obtain ⟨b1, b2, b3⟩ := b
  unfold ctK at h
  simp only [List.cons.injEq, Sum.inl.injEq, Sum.inr.injEq, and_true] at h
  rw [h.1, h.2.1, h.2.2]
/-- such tuples, one by one -/
inductive CtL (H : Hp) : List V → List CT → Prop
  | nil : CtL H [] []
  | cons {t : Addr} {c : CT} {xs : List V} {cs : List CT} : H t = some (.tup [.int c.1, .int c.2.1, .str c.2.2]) → CtL H xs cs → CtL H (.ref t :: xs) (c :: cs)
theorem CtL.tp {H H' : Hp} (t : Tp H H') : ∀ {xs : List V} {cs : List CT}, CtL H xs cs → CtL H' xs cs
  | _, _, .nil => .nil
  | _, _, .cons h r => .cons (t _ _ h) (r.tp t)
theorem CtL.on {H H' : Hp} {xs : List V} {cs : List CT} (h : CtL H xs cs) (s : Same H H') : CtL H' xs cs := h.tp (Same.tp s)
theorem CtL.length {H : Hp} : ∀ {xs : List V} {cs : List CT}, CtL H xs cs → xs.length = cs.length
  | _, _, .nil => rfl
  | _, _, .cons _ r => by rw [List.length_cons, List.length_cons, r.length]
theorem CtL.snoc {H : Hp} {t : Addr} {c : CT} (h2 : H t = some (.tup [.int c.1, .int c.2.1, .str c.2.2])) : ∀ {xs : List V} {cs : List CT}, CtL H xs cs → CtL H (xs ++ [.ref t]) (cs ++ [c])
  | _, _, .nil => .cons h2 .nil
  | _, _, .cons h r => .cons h (r.snoc h2)
theorem CtL.at_ {H : Hp} : ∀ {xs : List V} {cs : List CT} {i : Nat} {v : V}, CtL H xs cs → xs[i]? = some v → ∃ t c, v = .ref t ∧ cs[i]? = some c ∧ H t = some (.tup [.int c.1, .int c.2.1, .str c.2.2])
  | _, _, _, _, .nil, e => by simp at e
  | _, _, 0, _, .cons h _, e => by simp at e; subst e; exact ⟨_, _, rfl, rfl, h⟩
  | _, _, i + 1, v, .cons _ r, e => by
    obtain ⟨t, c, h1, h2, h3⟩ := r.at_ (i := i) (v := v) (by simpa using e)
    exact ⟨t, c, h1, by simpa using h2, h3⟩
theorem CtL.dt {K : PySem.W.Frag} {H : Hp} : ∀ {xs : List V} {cs : List CT}, (∀ c ∈ cs, c.2.2.length ≤ 1000000) → CtL H xs cs → DtAll K H none xs (cs.map ctD)
  | _, _, _, .nil => .nil
  | _, c :: _, l, .cons h r => .cons (.tup (.inl h) (.cons (.int _) (.cons (.int _) (.cons (.str _ (l c List.mem_cons_self)) .nil)))) (r.dt fun z hz => l z (List.mem_cons_of_mem _ hz))
theorem CtL.dp {K : PySem.W.Frag} {H : Hp} : ∀ {xs : List V} {cs : List CT}, CtL H xs cs → DpAll K H xs (cs.map ctD)
  | _, _, .nil => .nil
  | _, _, .cons h r => .cons (.tup (.of h) (.cons (.int _) (.cons (.int _) (.cons (.str _) .nil)))) r.dp
theorem ct_shape {c : CT} (h : PyData.strOk c.2.2 = true) {k : Nat} : Ly (k + 1) (ctD c) := ly_tup (ly_cons (ly_int _) (ly_cons (ly_int _) (ly_cons (ly_str h) ly_nil)))
theorem ct_eqv (a b : CT) : PyData.eqv (ctD a) (ctD b) = decide (a = b) := by
  obtain ⟨a1, a2, a3⟩ := a
  obtain ⟨b1, b2, b3⟩ := b
  by_cases e : (a1, a2, a3) = (b1, b2, b3)
  · cases e
    rw [decide_eq_true rfl]
    simp [ctD, PyData.eqv, PyData.eqvAll]
  · rw [decide_eq_false e]
    simp only [Prod.mk.injEq, not_and] at e
    simp only [ctD, PyData.eqv, PyData.eqvAll, Bool.and_true]
    by_cases h1 : a1 = b1
    · by_cases h2 : a2 = b2
      · simp [h1, h2, e h1 h2]
      · simp [h2]
    · simp [h1]
theorem ct_any (ks : List CT) (c : CT) : ((ks.map ctD).any fun z => PyData.eqv z (ctD c)) = decide (c ∈ ks) := by
  induction ks with
  | nil => rfl
  | cons k r ih =>
    rw [List.map_cons, List.any_cons, ih, ct_eqv]
    by_cases h : k = c
    · subst h; simp
    · have h' : c ≠ k := fun z => h z.symm
      simp [h, h']
theorem strOk_pr {z : Str} (h : isPr z = true) : PyData.strOk z = true := by
  unfold PyData.strOk
  rw [← Array.all_toList, List.all_eq_true]
  intro c hc
  have := List.all_eq_true.mp h c hc
  unfold prC at this
  rw [Bool.and_eq_true, Bool.and_eq_true] at this
  have := of_decide_eq_true this.1.2
  exact decide_eq_true (by omega)

/-! ### all_known -/
def allIn (ks cs : List CT) : Bool := cs.all fun c => decide (c ∈ ks)
def spKnown : Sp := fun vs H Q _ => ∃ (L t : Addr) (xs ys : List V) (ks cs : List CT), vs = [.ref L, .ref t] ∧ H L = some (.lst xs) ∧ CtL H xs ks ∧ H t = some (.tup ys) ∧ CtL H ys cs ∧ ks.length ≤ 1000 ∧ cs.length ≤ 1000 ∧ ∀ H', Same H H' → Q (.bl (allIn ks cs)) H'
theorem take_mem {ks : List CT} {i : Nat} {c : CT} (h : ks[i]? = some c) (x : CT) : decide (x ∈ ks.take (i + 1)) = (decide (x = c) || decide (x ∈ ks.take i)) := by
  rw [List.take_add_one, h]
  by_cases e : x = c
  · subst e; simp
  · simp [e]
theorem dt_bools {K : PySem.W.Frag} {H : Hp} : ∀ {bs : List Bool} {xs : List V}, DtAll K H none xs (bs.map PyData.bool) → xs = bs.map V.bl
  | [], _, .nil => rfl
  | b :: r, _, .cons h hr => by cases h; rw [List.map_cons, dt_bools hr]
section
variable {P : Program} {w : World} {K : PySem.W.Frag} {mg : Str → Option Value} {base : Heap}
theorem c_all_known {C_Ballot : Addr} {C_Chain : Addr} {C_BadBlock : Addr} (T : Txt K mg C_Ballot C_Chain C_BadBlock) : Cal P w K mg base 1 "all_known" spKnown [] := by
  refine cal T.d_all_known sc_all_known (fun vs H Q E h => ?_) (fun f cdv A outer s H vs Q E hr h => ?_)
  · obtain ⟨L, t, xs, ys, ks, cs, rfl, _⟩ := h; rfl
  obtain ⟨L, t, xs, ys, ks, cs, rfl, hL, ck, ht, cc, lk, lc, q⟩ := h
  refine ⟨_, (pss_cons (ps_set (i := 2) sc_all_known.nd rfl (Or.inr rfl) (pe_dcT (own := [("command", 3)]) (g := gName 3) (by rfl) sc_all_known.nd (pi_list (pv 0)) (blkOk_by (own := [("command", 3)]) (N := ["known", "commands", "table", "command"]) (sc := defScope s_all_known) (by decide +kernel)) (fun _ _ _ _ _ => pg_name (i := 3) sc_all_known.nd rfl (Or.inl rfl)) (fun _ _ _ _ _ => pts_nil) (fun _ _ _ _ _ => (pv 3)) (fun _ _ _ _ _ => pe_bl) (by exact hu_of hr)))
      (pss_one (ps_ret (pe_callB (cr_all rfl) (by rfl) T.z_all (by decide +kernel) (pa_cons (pe_lc (own := [("command", 3)]) (g := gName 3) (by rfl) sc_all_known.nd (pi_tup (pv 1)) (blkOk_by (own := [("command", 3)]) (N := ["known", "commands", "table", "command"]) (sc := defScope s_all_known) (by decide +kernel)) (fun _ _ _ _ _ => pg_name (i := 3) sc_all_known.nd rfl (Or.inl rfl)) (fun _ _ _ _ _ => pts_nil) (fun _ _ _ _ _ => (pe_cmp (pc_din (by exact hu_of hr) (pv 3) (pv 2))))) pa_nil))))), ?_⟩
  walk_at "rds"
  refine ⟨⟨xs, sq hL⟩, ?_⟩
  intro D hD
  refine dcT_it (walk_list (K := K) (a := L) (xs := xs)) (Pv := fun i H' => Same H H' ∧ ∃ kvs, H' D = some (.dT kvs) ∧ kvs.length ≤ i ∧ ∀ c, (valV kvs (ctK c)).isSome = decide (c ∈ ks.take i)) ⟨same_upd hD, [], upd_same, Nat.le_refl _, fun c => by simp [valV]⟩ (fun i H' _ h => sq (h.1 _ _ hL)) (fun i x H2 H3 hi hp hy => ?_) (fun H2 hp => ?_)
  · obtain ⟨rfl, gx⟩ := hy
    obtain ⟨s2, kvs, hd, hl, hv⟩ := hp
    obtain ⟨a, c, rfl, gc, ha⟩ := ck.at_ gx
    refine ⟨rfl, ?_⟩
    walk_at "rds"
    refine ⟨kvs, ctK c, a, rfl, s2 _ _ ha, hd, by rw [ck.length] at hi; exact sz1000' (by omega), same_mut s2 hD, _, upd_same, Nat.le_trans (length_putK _ _ _) (by omega), fun c' => ?_⟩
    rw [valV_put, take_mem gc]
    by_cases e : c' = c
    · subst e; rw [if_pos rfl, decide_eq_true rfl]; rfl
    · rw [if_neg (fun z => e (ctK_inj z)), decide_eq_false e, hv, Bool.false_or]
  · obtain ⟨s2, kvs, hd, hl, hv⟩ := hp
    rw [ck.length, List.take_of_length_le (Nat.le_refl _)] at hv
    walk_at "rds"
    refine ⟨⟨_, SqT.of (s2 _ _ ht)⟩, fun B hB => ?_⟩
    refine lc_walk (K := K) walk_tup hB cs cc.length.symm (by rw [cc.length]; omega) (fun c => some (.bool (decide (c ∈ ks)))) (fun c e _ he => by cases he; rfl) (fun H' s' => SqT.of (s' _ _ (s2 _ _ ht))) (fun _ _ _ _ y => y.1) (fun i x c H7 hi gc s7 hy R R0 r1 r2 => ?_) (fun H6 xs' s6 hB6 hx => ?_)
    · obtain ⟨_, gx⟩ := hy
      obtain ⟨a, c', rfl, gc', ha⟩ := (cc.on (s2.trans s7)).at_ gx
      rw [gc] at gc'
      cases gc'
      refine ⟨rfl, ?_⟩
      walk_at "rds"
      refine ⟨D, _, rfl, DGet.t (k := ctK c) (s7 _ _ hd) ha, ?_⟩
      rw [hv]
      exact r1 _ rfl _ H7 (Same.refl _) (.bl _)
    · rw [show cs.filterMap (fun c => some (PyData.bool (decide (c ∈ ks)))) = (cs.map fun c => decide (c ∈ ks)).map PyData.bool by rw [List.map_map]; exact congrFun List.filterMap_eq_map cs] at hx
      walk_at "rds"
      refine ⟨B, cs.map fun c => decide (c ∈ ks), rfl, sq (by rw [hB6, dt_bools hx]), ?_⟩
      rw [show (cs.map fun c => decide (c ∈ ks)).all id = allIn ks cs by unfold allIn; rw [List.all_map]; rfl]
      exact q _ (s2.trans s6)
end

/-! ### may_vote -/
def mayB (be ep la bh ph top fl : Int) (kn cs : List CT) (nk : List (Int × Int)) : Bool :=
  decide (be = ep) && decide (la < ep) && decide (bh = ph + 1) && decide (top ≤ ph ∧ fl ≤ ph) && (allIn kn cs && dFresh nk (cs.map ctD))
def spMay (Cc Cb : Addr) (K : PySem.W.Frag) : Sp := fun vs H Q _ => ∃ (a t p A W b l L N : Addr) (be nb bh ep la fl top : Int) (ys bxs xs : List V) (cs kn : List CT) (rt pb : VD) (con wai : Sub) (ls : List VD) (ks : List (Int × Int)),
  vs = [.ref a, .int ep, .ref p, .ref b, .ref L, .ref N] ∧ H a = some (.tup [.int be, .int nb, .int bh, .ref t]) ∧ H t = some (.tup ys) ∧ CtL H ys cs ∧ (∀ c ∈ cs, dCmd (ctD c) = true) ∧ cs.length ≤ 100 ∧
  ChAt Cc K H p A W rt con wai ∧ gA con nb = some pb ∧ Path con (eD rt.2) nb ls ∧ (∀ x ∈ ls, dBlkOk x.2 = true ∧ Dt K H none x.1 x.2) ∧ ls.length ≤ 80 ∧ con.length ≤ 100 ∧ (∀ k y, (k, y) ∈ con → hD y.2 ≤ top) ∧ (∃ k y, (k, y) ∈ con ∧ hD y.2 = top) ∧
  BalAt Cb H b l bxs la fl ∧ H L = some (.lst xs) ∧ CtL H xs kn ∧ kn.length ≤ 1000 ∧ Nd H N ks ∧ ks.length ≤ 900 ∧
  ∀ H', Same H H' → Q (.bl (mayB be ep la bh (hD pb.2) top fl kn cs (alongN ks (ls.reverse.map (·.2))))) H'
theorem vd_all {K : PySem.W.Frag} {H : Hp} : ∀ {ls : List VD}, (∀ x ∈ ls, Dt K H none x.1 x.2) → DtAll K H none (ls.map (·.1)) (ls.map (·.2))
  | [], _ => .nil
  | x :: r, h => .cons (h x List.mem_cons_self) (vd_all fun y m => h y (List.mem_cons_of_mem _ m))
section
variable {P : Program} {w : World} {K : PySem.W.Frag} {mg : Str → Option Value} {base : Heap}
theorem c_may_vote {C_Ballot : Addr} {C_Chain : Addr} {C_BadBlock : Addr} (T : Txt K mg C_Ballot C_Chain C_BadBlock) : Cal P w K mg base 5 "may_vote" (spMay C_Chain C_Ballot K) [] := by
  have m_Chain__connected := m_Chain__connected (P := P) (w := w) (K := K) (base := base) T
  have m_Chain__tip := m_Chain__tip (P := P) (w := w) (K := K) (base := base) T
  have m_Chain__path := m_Chain__path (P := P) (w := w) (K := K) (base := base) T
  have m_Ballot__last := m_Ballot__last (P := P) (w := w) (base := base) T
  have m_Ballot__floor := m_Ballot__floor (P := P) (w := w) (base := base) T
  have c_all_known := c_all_known (P := P) (w := w) (base := base) T
  have c_all_fresh := c_all_fresh (P := P) (w := w) (base := base) T
  have c_numbers_along := c_numbers_along (P := P) (w := w) (base := base) T
  refine cal T.d_may_vote sc_may_vote (fun vs H Q E h => ?_) (fun f cdv A' outer s H vs Q E hr h => ?_)
  · obtain ⟨a, t, p, A, W, b, l, L, N, be, nb, bh, ep, la, fl, top, ys, bxs, xs, cs, kn, rt, pb, con, wai, ls, ks, rfl, _⟩ := h; rfl
  obtain ⟨a, t, p, A, W, b, l, L, N, be, nb, bh, ep, la, fl, top, ys, bxs, xs, cs, kn, rt, pb, con, wai, ls, ks, rfl, ha, ht, cc, hdc, lcs, ch, gpb, pth, hls, lls, lcon, top1, top2, bal, hL, ck, lkn, hN, lks, q⟩ := h
  obtain ⟨dx, gp⟩ := ch.ins
  obtain ⟨⟨dxb, gb⟩, gl⟩ := id bal
  refine ⟨_, (pss_cons (ps_if (PW.pt (pw_or (pt_cmpR op_ne (pe_ix (kixt (K := K)) (pv 0) pe_int (fun _ _ => rfl)) (pv 1) (nomark _)) (pw_or1 (pt_cmpR op_le (pv 1) (pe_mt0 m_Ballot__last hr (by decide) (pv 3)) (nomark _))))) (pss_one (ps_ret pe_bl)) pss_nil)
      (pss_cons (ps_set (i := 6) sc_may_vote.nd rfl (Or.inl rfl) (pe_mt m_Chain__connected hr (by decide) (pv 2) (pa_cons (pe_ix (kixt (K := K)) (pv 0) pe_int (fun _ _ => rfl)) pa_nil)))
      (pss_cons (ps_if (PW.pt (pw_or (pt_cmpR op_isN (pv 6) pe_non (nomark _)) (pw_or1 (pt_cmpR op_ne (pe_ix (kixt (K := K)) (pv 0) pe_int (fun _ _ => rfl)) (pe_op op_add (pe_ix (kixt (K := K)) (pv 6) pe_int (fun _ _ => rfl)) pe_int) (nomark _))))) (pss_one (ps_ret pe_bl)) pss_nil)
      (pss_cons (ps_if (pt_cmpR op_lt (pe_ix (kixt (K := K)) (pv 6) pe_int (fun _ _ => rfl)) (pe_callB (call_max2 rfl) (by rfl) T.z_max (by decide +kernel) (pa_cons (pe_ix (kixt (K := K)) (pe_mt0 m_Chain__tip hr (by decide) (pv 2)) pe_int (fun _ _ => rfl)) (pa_cons (pe_mt0 m_Ballot__floor hr (by decide) (pv 3)) pa_nil))) (nomark _)) (pss_one (ps_ret pe_bl)) pss_nil)
      (pss_one (ps_ret (pe_and (pe_c c_all_known hr (by decide) (by rfl) (pa_cons (pv 4) (pa_cons (pe_ix (kixt (K := K)) (pv 0) pe_int (fun _ _ => rfl)) pa_nil))) (pe_one (pe_c c_all_fresh hr (by decide) (by rfl) (pa_cons (pe_c c_numbers_along hr (by decide) (by rfl) (pa_cons (pv 5) (pa_cons (pe_mtX m_Chain__path hr (by decide) no_pass (pv 2) (pa_cons (pe_ix (kixt (K := K)) (pv 0) pe_int (fun _ _ => rfl)) pa_nil)) pa_nil))) (pa_cons (pe_ix (kixt (K := K)) (pv 0) pe_int (fun _ _ => rfl)) pa_nil))))))))))), ?_⟩
  walk_at "rds"
  refine ⟨a, _, 0, _, rfl, rfl, SqT.of ha, atI_nat (j := 0) rfl, ?_⟩
  walk_at "rds"
  rw [decV]
  by_cases e1 : be = ep
  case neg =>
    refine ifT (by rw [decide_eq_false e1]; rfl) ?_
    refine ifT rfl ?_
    walk_at "rds"
    have := q H (Same.refl _)
    unfold mayB at this
    rw [decide_eq_false e1] at this
    exact this
  refine ifF (by rw [decide_eq_true e1]; rfl) ?_
  walk_at "rds"
  refine ⟨b, dxb, _, rfl, gb, rfl, ?_⟩
  refine ⟨b, l, bxs, la, fl, rfl, bal, ?_⟩
  walk_at "rds"
  refine ite2 (fun e2 => ?_) (fun e2 => ?_)
  · have e2 : ep ≤ la := of_decide_eq_true e2
    walk_at "rds"
    have := q H (Same.refl _)
    unfold mayB at this
    rw [decide_eq_false (show ¬ la < ep by omega), Bool.and_false] at this
    exact this
  have e2 : la < ep := by
    have : ¬ ep ≤ la := fun z => e2 (decide_eq_true z)
    omega
  walk_at "rds"
  refine ⟨p, dx, _, rfl, gp, rfl, ?_⟩
  walk_at "rds"
  refine ⟨a, _, 1, _, rfl, rfl, SqT.of ha, atI_nat (j := 1) rfl, ?_⟩
  refine ⟨p, A, W, rt, con, wai, nb, rfl, ch, ?_⟩
  have okp := ch.ca.ok _ (gA_some gpb)
  obtain ⟨pa, pr, epa, hpa⟩ := okp.at_
  have epa : pb.1 = .ref pa := epa
  rw [gpb]
  show (_ : Prop)
  rw [show ((some pb).map (fun x : VD => x.1)).getD V.non = .ref pa from epa]
  walk_at "rds"
  refine ⟨a, _, 2, _, rfl, rfl, SqT.of ha, atI_nat (j := 2) rfl, ?_⟩
  walk_at "rds"
  refine ⟨pa, _, 2, _, rfl, rfl, hpa.sq, atI_nat (j := 2) rfl, ?_⟩
  walk_at "rds"
  rw [decV]
  by_cases e3 : bh = hD pb.2 + 1
  case neg =>
    refine ifT (by rw [decide_eq_false e3]; rfl) ?_
    walk_at "rds"
    have := q H (Same.refl _)
    unfold mayB at this
    rw [decide_eq_false e3, Bool.and_false] at this
    exact this
  refine ifF (by rw [decide_eq_true e3]; rfl) ?_
  walk_at "rds"
  refine ⟨pa, _, 2, _, rfl, rfl, hpa.sq, atI_nat (j := 2) rfl, ?_⟩
  walk_at "rds"
  refine ⟨p, dx, _, rfl, gp, rfl, ?_⟩
  refine ⟨p, A, W, rt, con, wai, rfl, ch, by obtain ⟨k, y, m, _⟩ := top2; exact List.length_pos_of_mem m, lcon, fun H1 tb s1 mt best => ?_⟩
  have ch1 := ch.on s1
  have okt : OkB K H1 tb := by obtain ⟨k, m⟩ := mt; exact ch1.ca.ok _ m
  have etop : hD tb.2 = top := by
    obtain ⟨k, m⟩ := mt
    have h1 := top1 _ _ m
    obtain ⟨k2, y2, m2, e⟩ := top2
    have h2 := best _ _ m2
    unfold leV LexP at h2
    omega
  obtain ⟨ta, tr, eta, hta⟩ := okt.at_
  have eta : tb.1 = .ref ta := eta
  rw [eta]
  walk_at "rds"
  refine ⟨ta, _, 2, _, rfl, rfl, hta.sq, atI_nat (j := 2) rfl, ?_⟩
  walk_at "rds"
  have bal1 := bal.same s1
  obtain ⟨⟨dxb1, gb1⟩, gl1⟩ := id bal1
  refine ⟨b, dxb1, _, rfl, gb1, rfl, ?_⟩
  refine ⟨b, l, bxs, la, fl, rfl, bal1, ?_⟩
  refine ⟨_, _, rfl, ?_⟩
  walk_at "rds"
  rw [etop]
  by_cases e4 : hD pb.2 < (if fl > top then fl else top)
  · refine ifT (decide_eq_true e4) ?_
    walk_at "rds"
    have := q H1 s1
    unfold mayB at this
    rw [decide_eq_false (show ¬ (top ≤ hD pb.2 ∧ fl ≤ hD pb.2) by split at e4 <;> omega), Bool.and_false] at this
    exact this
  refine ifF (decide_eq_false e4) ?_
  have e4 : top ≤ hD pb.2 ∧ fl ≤ hD pb.2 := by split at e4 <;> omega
  have ha1 := s1 _ _ ha
  walk_at "rds"
  refine ⟨a, _, 3, _, rfl, rfl, SqT.of ha1, atI_nat (j := 3) rfl, ?_⟩
  refine ⟨L, t, xs, ys, kn, cs, rfl, s1 _ _ hL, ck.on s1, s1 _ _ ht, cc.on s1, lkn, by omega, fun H2 s2 => ?_⟩
  have s12 := s1.trans s2
  have eq0 : mayB be ep la bh (hD pb.2) top fl kn cs (alongN ks (ls.reverse.map (·.2))) = (allIn kn cs && dFresh (alongN ks (ls.reverse.map (·.2))) (cs.map ctD)) := by
    unfold mayB
    rw [decide_eq_true e1, decide_eq_true e2, decide_eq_true e3, decide_eq_true e4]; rfl
  rw [eq0] at q
  cases ek : allIn kn cs with
  | false =>
    rw [ek] at q
    walk_at "rds"
    exact q H2 s12
  | true =>
  rw [ek, Bool.true_and] at q
  walk_at "rds"
  have ch2 := ch.on s12
  obtain ⟨dx2, gp2⟩ := ch2.ins
  refine ⟨p, dx2, _, rfl, gp2, rfl, ?_⟩
  walk_at "rds"
  have ha2 := s12 _ _ ha
  refine ⟨a, _, 1, _, rfl, rfl, SqT.of ha2, atI_nat (j := 1) rfl, ?_⟩
  refine ⟨p, A, W, rt, con, wai, _, nb, rfl, ch2, rfl, .inr ⟨ls, (by rw [gpb]; intro z; cases z), pth, by omega, fun H3 pl s3 fpl hpl => ?_⟩⟩
  have s13 := s12.trans s3
  have dls := vd_all (K := K) (H := H3) (ls := ls.reverse) fun x m => (hls x (List.mem_reverse.mp m)).2.on s13
  refine ⟨N, pl, ks, _, ls.reverse.map (·.2), rfl, s13 _ _ hN, hpl, dls, fun d m => ?_, by rw [List.length_map, List.length_reverse]; omega, lks, fun r H4 fr s4 hr => ?_⟩
  · obtain ⟨x, mx, rfl⟩ := List.mem_map.mp m
    exact (hls x (List.mem_reverse.mp mx)).1
  have s14 := s13.trans s4
  walk_at "rds"
  refine ⟨a, _, 3, _, rfl, rfl, SqT.of (s14 _ _ ha), atI_nat (j := 3) rfl, ?_⟩
  refine ⟨r, .ref t, _, cs.map ctD, rfl, hr, .tup (.inl (s14 _ _ ht)) ((cc.on s14).dt fun c m => ?_), fun d m => ?_, ?_⟩
  · obtain ⟨_, _, _, h1, _, _, _, _, h2, h3⟩ := dCmd_inv (hdc c m)
    unfold ctD at h1
    simp only [PyData.tuple.injEq, List.cons.injEq, PyData.int.injEq, PyData.str.injEq, and_true] at h1
    rw [h1.2.2]; omega
  · obtain ⟨c, mc, rfl⟩ := List.mem_map.mp m
    exact hdc c mc
  · exact q H4 s14
end

--@SPLIT
/-! ### the law's blocks, as data -/
def rtD : PyData := .tuple [.int 0, .int 0, .int 0, .tuple []]
def blD (e n h : Int) (cs : List CT) : PyData := .tuple [.int e, .int n, .int h, .tuple (cs.map ctD)]
structure GoodC (cs : List CT) : Prop where
  ok : ∀ c ∈ cs, dCmd (ctD c) = true
  sm : ∀ c ∈ cs, c.2.1 ≤ 9
  ln : cs.length ≤ 3
def LawB (d : PyData) : Prop := ∃ e n h cs, d = blD e n h cs ∧ GoodC cs
theorem LawB.isb {d : PyData} (h : LawB d) : IsB d := by obtain ⟨e, n, t, cs, rfl, _⟩ := h; exact ⟨_, _, _, _, rfl⟩
theorem rt_isb : IsB rtD := ⟨_, _, _, _, rfl⟩
theorem LawB.blk {d : PyData} (h : LawB d) : dBlkOk d = true := by
  obtain ⟨e, n, t, cs, rfl, g⟩ := h
  show ((cs.map ctD).all dCmd && decide ((cs.map ctD).length ≤ 100)) = true
  rw [Bool.and_eq_true]
  refine ⟨List.all_eq_true.mpr fun x m => ?_, decide_eq_true (by rw [List.length_map]; have := g.ln; omega)⟩
  obtain ⟨c, mc, rfl⟩ := List.mem_map.mp m
  exact g.ok c mc
theorem ctD_str {c : CT} (h : dCmd (ctD c) = true) : PyData.strOk c.2.2 = true ∧ c.2.2.length ≤ 240 := by
  obtain ⟨a, b, t, e, _, _, _, _, hp, hl⟩ := dCmd_inv h
  unfold ctD at e
  simp only [PyData.tuple.injEq, List.cons.injEq, PyData.int.injEq, PyData.str.injEq, and_true] at e
  rw [e.2.2]
  exact ⟨strOk_pr hp, by omega⟩
theorem LawB.ly {d : PyData} (h : LawB d) : Ly 6 d := by
  obtain ⟨e, n, t, cs, rfl, g⟩ := h
  exact (ly_tup (k := 2) (ly_cons (ly_int _) (ly_cons (ly_int _) (ly_cons (ly_int _) (ly_cons (ly_tup (k := 1) fun x m => by
    obtain ⟨c, mc, rfl⟩ := List.mem_map.mp m
    exact ct_shape (ctD_str (g.ok c mc)).1) ly_nil))))).mono (by decide)
inductive GrowB : List PyData → Prop
  | nil : GrowB []
  | snoc {bs : List PyData} {b p : PyData} : GrowB bs → LawB b → (∀ y ∈ rtD :: bs, eD y < eD b) → p ∈ rtD :: bs → nD b = eD p → hD b = hD p + 1 → GrowB (bs ++ [b])
theorem GrowB.law {bs : List PyData} (g : GrowB bs) : ∀ b ∈ bs, LawB b ∧ 0 < eD b ∧ 0 < hD b := by
  induction g with
  | nil => exact fun _ m => nomatch m
  | snoc g l a p n h ih =>
    intro x m
    rcases List.mem_append.mp m with m | m
    · exact ih x m
    · rw [List.mem_singleton.mp m]
      refine ⟨l, a rtD List.mem_cons_self, ?_⟩
      rcases List.mem_cons.mp p with rfl | p
      · rw [h]; decide
      · have := (ih _ p).2.2; omega
theorem GrowB.uniq {bs : List PyData} (g : GrowB bs) : ∀ x ∈ rtD :: bs, ∀ y ∈ rtD :: bs, eD x = eD y → x = y := by
  induction g with
  | nil => intro x mx y my _; rw [List.mem_singleton.mp mx, List.mem_singleton.mp my]
  | snoc g l a p n h ih =>
    intro x mx y my e
    rw [← List.cons_append] at mx my
    rcases List.mem_append.mp mx with mx | mx
    · rcases List.mem_append.mp my with my | my
      · exact ih x mx y my e
      · rw [List.mem_singleton.mp my] at e
        have := a x mx; omega
    · rw [List.mem_singleton.mp mx] at e ⊢
      rcases List.mem_append.mp my with my | my
      · have := a y my; omega
      · rw [List.mem_singleton.mp my]
/-- the way down, by the data -/
inductive PathD (bs : List PyData) : Int → List PyData → Prop
  | nil : PathD bs 0 []
  | cons {e : Int} {b : PyData} {r : List PyData} : e ≠ 0 → (bs.filter fun d => decide (eD d = e)).head? = some b → PathD bs (nD b) r → PathD bs e (b :: r)
theorem PathD.snoc {bs : List PyData} (b0 : PyData) {e : Int} {ls : List PyData} (h : PathD bs e ls) : PathD (bs ++ [b0]) e ls := by
  induction h with
  | nil => exact .nil
  | cons n f _ ih => exact .cons n (by rw [List.filter_append, List.head?_append, f]; rfl) ih
theorem head_mem {bs : List PyData} {e : Int} {b : PyData} (h : (bs.filter fun d => decide (eD d = e)).head? = some b) : b ∈ bs ∧ eD b = e := by
  have m := List.mem_of_mem_head? h
  rw [List.mem_filter] at m
  exact ⟨m.1, of_decide_eq_true m.2⟩
theorem PathD.mem {bs : List PyData} {e : Int} {ls : List PyData} (h : PathD bs e ls) : ∀ x ∈ ls, x ∈ bs := by
  induction h with
  | nil => exact fun _ m => nomatch m
  | cons n f _ ih =>
    intro x m
    rcases List.mem_cons.mp m with rfl | m
    · exact (head_mem f).1
    · exact ih x m
theorem GrowB.path {bs : List PyData} (g : GrowB bs) : ∀ p ∈ rtD :: bs, ∃ ls, PathD bs (eD p) ls ∧ ls.length ≤ bs.length := by
  induction g with
  | nil => intro p m; rw [List.mem_singleton.mp m]; exact ⟨[], .nil, Nat.le_refl _⟩
  | @snoc bs b p0 g l a p n h ih =>
    intro x mx
    rw [← List.cons_append] at mx
    rcases List.mem_append.mp mx with mx | mx
    · obtain ⟨ls, P, le⟩ := ih x mx
      exact ⟨ls, P.snoc b, by rw [List.length_append]; omega⟩
    · rw [List.mem_singleton.mp mx]
      obtain ⟨ls, P, le⟩ := ih _ p
      have e0 := a rtD List.mem_cons_self
      refine ⟨b :: ls, .cons (by have : eD rtD = 0 := rfl; omega) ?_ (by rw [n]; exact P.snoc b), by rw [List.length_append, List.length_cons, List.length_singleton]; omega⟩
      rw [List.filter_append, show bs.filter (fun d => decide (eD d = eD b)) = [] from List.filter_eq_nil_iff.mpr fun y my => by have := a y (List.mem_cons_of_mem _ my); simp; omega, List.nil_append, List.filter_cons, if_pos (decide_eq_true rfl)]
      rfl
/-- the chain's dict -/
def conB (rt : VD) (bs : List VD) : Sub := (rt :: bs).map fun b => (eD b.2, b)
theorem conB_mem {rt : VD} {bs : List VD} {k : Int} {b : VD} : (k, b) ∈ conB rt bs ↔ (b ∈ rt :: bs ∧ k = eD b.2) := by
  unfold conB
  rw [List.mem_map]
  constructor
  · rintro ⟨x, m, e⟩; cases e; exact ⟨m, rfl⟩
  · rintro ⟨m, rfl⟩; exact ⟨b, m, rfl⟩
theorem conB_get {rt b : VD} {bs : List VD} (m : b ∈ rt :: bs) : ∃ v, gA (conB rt bs) (eD b.2) = some v ∧ v ∈ rt :: bs ∧ eD v.2 = eD b.2 := by
  cases g : gA (conB rt bs) (eD b.2) with
  | none => exact absurd (List.mem_map.mpr ⟨(eD b.2, b), conB_mem.mpr ⟨m, rfl⟩, rfl⟩) (gA_none.mp g)
  | some v =>
    obtain ⟨m, e⟩ := conB_mem.mp (gA_some g)
    exact ⟨v, rfl, m, e.symm⟩
theorem PathD.chain {rt : VD} {bs : List VD} (hr : rt.2 = rtD) (g : GrowB (bs.map (·.2))) {e : Int} {ds : List PyData} (h : PathD (bs.map (·.2)) e ds) : ∃ ls, Path (conB rt bs) 0 e ls ∧ ls.map (·.2) = ds ∧ ∀ x ∈ ls, x ∈ bs := by
  induction h with
  | nil => exact ⟨[], .nil, rfl, fun _ m => nomatch m⟩
  | @cons e b r n f _ ih =>
    obtain ⟨ls, P, em, mm⟩ := ih
    obtain ⟨mb, eb⟩ := head_mem f
    obtain ⟨x, mx, ex⟩ := List.mem_map.mp mb
    obtain ⟨v, gv, mv, ev⟩ := conB_get (rt := rt) (List.mem_cons_of_mem _ mx)
    have md : ∀ y ∈ rt :: bs, y.2 ∈ rtD :: bs.map (·.2) := fun y my => by
      rcases List.mem_cons.mp my with rfl | my
      · rw [hr]; exact List.mem_cons_self
      · exact List.mem_cons_of_mem _ (List.mem_map_of_mem (f := fun y : VD => y.2) my)
    have hv : v.2 = b := by rw [← ex]; exact g.uniq _ (md v mv) _ (md x (List.mem_cons_of_mem _ mx)) ev
    rw [ex, eb] at gv
    have mvb : v ∈ bs := by
      rcases List.mem_cons.mp mv with rfl | mv
      · rw [← hv, hr] at eb; exact absurd eb.symm n
      · exact mv
    refine ⟨v :: ls, .cons n gv (by rw [hv]; exact P), by rw [List.map_cons, em, hv], fun y my => ?_⟩
    rcases List.mem_cons.mp my with rfl | my
    · exact mvb
    · exact mm y my
/-- numbers stay small -/
def SmN (ks : List (Int × Int)) : Prop := ∀ k ∈ ks, k.2 ≤ 9
theorem putN_sm {ks : List (Int × Int)} {c n : Int} (h : SmN ks) (hn : n ≤ 9) : SmN (putN ks c n) := by
  unfold putN
  split
  · intro k m
    obtain ⟨x, mx, e⟩ := List.mem_map.mp m
    split at e
    · rw [← e]; exact hn
    · rw [← e]; exact h x mx
  · intro k m
    rcases List.mem_append.mp m with m | m
    · exact h k m
    · rw [List.mem_singleton.mp m]; exact hn
theorem ndAfter_sm : ∀ (cs : List PyData) {ks : List (Int × Int)}, SmN ks → (∀ c ∈ cs, dNum c ≤ 9) → SmN (ndAfter ks cs)
  | [], _, h, _ => h
  | c :: r, _, h, hc => ndAfter_sm r (putN_sm h (hc c List.mem_cons_self)) fun x m => hc x (List.mem_cons_of_mem _ m)
theorem alongN_sm : ∀ (bs : List PyData) {ks : List (Int × Int)}, SmN ks → (∀ b ∈ bs, LawB b) → SmN (alongN ks bs)
  | [], _, h, _ => h
  | b :: r, _, h, hb => alongN_sm r (ndAfter_sm _ h fun c m => by
      obtain ⟨e, n, t, cs, rfl, g⟩ := hb b List.mem_cons_self
      have m : c ∈ cs.map ctD := m
      obtain ⟨x, mx, rfl⟩ := List.mem_map.mp m
      exact g.sm x mx) fun x m => hb x (List.mem_cons_of_mem _ m)
theorem ndGet_sm {ks : List (Int × Int)} (h : SmN ks) (c : Int) : ndGet ks c ≤ 9 := by
  unfold ndGet ndOpt
  cases e : ks.find? (fun k => decide (k.1 = c)) with
  | none => decide
  | some k => exact h k (List.mem_of_find?_eq_some e)

--@SPLIT
/-! ### the law's defs -/
def spCm : Sp := fun vs H Q _ => ∃ d : Int, vs = [.int d] ∧ 0 ≤ d ∧ ∀ H' t ys cs, Same H H' → H' t = some (.tup ys) → CtL H' ys cs → GoodC cs → Q (.ref t) H'
theorem put_text : ∀ i : Fin 5, isPr (Str.ofString "put a " ++ Str.ofString (toString ((i.val : Nat) : Int))) = true ∧ (Str.ofString "put a " ++ Str.ofString (toString ((i.val : Nat) : Int))).length ≤ 240 := by decide +kernel
theorem put_text' {d : Int} (h : 0 ≤ d) : isPr (Str.ofString "put a " ++ Str.ofString (toString (d % 5))) = true ∧ (Str.ofString "put a " ++ Str.ofString (toString (d % 5))).length ≤ 240 := by
  have := put_text ⟨(d % 5).toNat, by omega⟩
  rw [show (((d % 5).toNat : Nat) : Int) = d % 5 by omega] at this
  exact this
theorem ct_good {c n : Int} {z : Str} (h1 : -100 ≤ c ∧ c ≤ -1) (h2 : 1 ≤ n ∧ n ≤ 1000000000000) (h3 : isPr z = true) (h4 : z.length ≤ 240) : dCmd (ctD (c, n, z)) = true := by
  show (decide (-100 ≤ c ∧ c ≤ -1) && decide (1 ≤ n ∧ n ≤ 1000000000000) && (isPr z && decide ((z.length : Int) ≤ 240))) = true
  rw [decide_eq_true h1, decide_eq_true h2, h3, decide_eq_true (by omega)]; rfl
theorem CtL.put {H : Hp} {l : Addr} {xs ys vs : List V} {cs : List CT} (h : CtL H vs cs) (e : H l = some (.lst xs)) : CtL (upd H l (.lst ys)) vs cs := h.tp (tp_put e)
section
variable {P : Program} {w : World} {K : PySem.W.Frag} {mg : Str → Option Value} {base : Heap}
theorem c__law_commands {C_Ballot : Addr} {C_Chain : Addr} {C_BadBlock : Addr} (T : Txt K mg C_Ballot C_Chain C_BadBlock) : Cal P w K mg base 1 "_law_commands" spCm [] := by
  refine cal T.d__law_commands sc__law_commands (fun vs H Q E h => ?_) (fun f cdv A' outer s H vs Q E hr h => ?_)
  · obtain ⟨d, rfl, _⟩ := h; rfl
  obtain ⟨d, rfl, hd, q⟩ := h
  refine ⟨_, (pss_cons (ps_set (i := 1) sc__law_commands.nd rfl (Or.inl rfl) (pe_lst pa_nil))
      (pss_cons (ps_for PassesOwn.never rfl (pi_list (pe_lst (pa_cons (pe_un un_neg pe_int) (pa_cons (pe_un un_neg pe_int) (pa_cons (pe_un un_neg pe_int) pa_nil))))) (pg_name (i := 2) sc__law_commands.nd rfl (Or.inl rfl)) (pss_cons (ps_if (pt_cmpR op_eq (pe_op op_mod (pv 0) pe_int) pe_int (nomark _)) (pss_one (ps_expr (pe_bm PySem.F.plainAttrs_list PySem.F.slot_list_append PySem.F.type_list_append mt_append (pv 1) (pa_cons (pe_tup (pa_cons (pv 2) (pa_cons (pe_op op_add pe_int (pe_op op_mod (pe_op op_fdiv (pv 0) pe_int) pe_int)) (pa_cons (pe_op op_add_str pe_str (pe_callTy call_str_int (by rfl) T.z_str (by decide +kernel) (pa_cons (pe_op op_mod (pv 0) pe_int) pa_nil))) pa_nil)))) pa_nil)))) pss_nil)
      (pss_one (ps_set (i := 0) sc__law_commands.nd rfl (Or.inl rfl) (pe_op op_fdiv (pv 0) pe_int)))))
      (pss_one (ps_ret (pe_callTy call_tuple_of (by rfl) T.z_tuple (by decide +kernel) (pa_cons (pv 1) pa_nil)))))), ?_⟩
  walk_at "rds"
  intro C hC
  have s1 := same_upd (o := .lst []) hC
  have eC : upd H C (.lst []) C = some (.lst []) := upd_same
  generalize upd H C (.lst []) = H1 at s1 eC
  walk_at "rds"
  intro L hL
  have nCL : C ≠ L := ne_of_none eC hL
  have s2 := s1.trans (same_upd (o := .lst [.int (-3), .int (-2), .int (-1)]) hL)
  have eL : upd H1 L (.lst [.int (-3), .int (-2), .int (-1)]) L = some (.lst [.int (-3), .int (-2), .int (-1)]) := upd_same
  have eC2 : upd H1 L (.lst [.int (-3), .int (-2), .int (-1)]) C = some (.lst []) := by rw [upd_ne nCL]; exact eC
  generalize upd H1 L (.lst [.int (-3), .int (-2), .int (-1)]) = H2 at s2 eL eC2
  refine ⟨L, rfl, ⟨_, sq eL⟩, ?_⟩
  refine for_it (walk_list (K := K) (a := L) (xs := [.int (-3), .int (-2), .int (-1)])) (Pv := fun i σ H' => ∃ d y xs cs, σ = [some (.int d), some (.ref C), y] ∧ 0 ≤ d ∧ Same H H' ∧ H' L = some (.lst [.int (-3), .int (-2), .int (-1)]) ∧ H' C = some (.lst xs) ∧ CtL H' xs cs ∧ GoodC cs ∧ cs.length ≤ i) ⟨d, none, [], [], rfl, hd, s2, eL, eC2, .nil, ⟨(fun _ m => nomatch m), (fun _ m => nomatch m), Nat.zero_le _⟩, Nat.le_refl _⟩ (fun i σ H' _ h => by obtain ⟨_, _, _, _, _, _, _, h, _⟩ := h; exact sq h) (fun i x σ H1 H2 hi hp' hy => ?_) (fun σ H1 hp' => ?_)
  · obtain ⟨d, y, xs, cs, rfl, hd, sm, hl, hc, hx, gc, hlen⟩ := hp'
    obtain ⟨rfl, gx⟩ := hy
    have hx3 : ∃ c : Int, x = .int c ∧ -100 ≤ c ∧ c ≤ -1 := by
      match i, gx with
      | 0, gx => cases gx; exact ⟨-3, rfl, by decide, by decide⟩
      | 1, gx => cases gx; exact ⟨-2, rfl, by decide, by decide⟩
      | 2, gx => cases gx; exact ⟨-1, rfl, by decide, by decide⟩
    obtain ⟨c, rfl, c0, c1⟩ := hx3
    have hi3 : i < 3 := hi
    walk_at "rds"
    refine ite2 (fun e => ?_) (fun e => ?_)
    · walk_at "rds"
      refine ⟨.inl ⟨rfl, _, sq hc⟩, ?_⟩
      obtain ⟨p1, p2⟩ := put_text' hd
      walk_at "rds"
      refine ⟨PySem.Flt.log2_lt_of (by decide) (Nat.lt_of_lt_of_le (show (d % 5).natAbs < 5 by omega) (by decide +kernel)), ?_⟩
      generalize Str.ofString (toString (d % 5)) = z at p1 p2
      have p3 := p2
      rw [Str.length_append] at p3
      refine ⟨_, _, rfl, rfl, sz1000 (by omega), ?_⟩
      generalize Str.ofString "put a " ++ z = z2 at p1 p2
      walk_at "rds"
      intro t ht
      have s3 := same_upd (o := .tup [.int c, .int (1 + d / 3 % 9), .str z2]) ht
      have et : upd H2 t (.tup [.int c, .int (1 + d / 3 % 9), .str z2]) t = some (.tup [.int c, .int (1 + d / 3 % 9), .str z2]) := upd_same
      generalize upd H2 t (.tup [.int c, .int (1 + d / 3 % 9), .str z2]) = H3 at s3 et
      have hc3 := s3 _ _ hc
      walk_at "rds"
      refine ⟨C, xs, _, rfl, rfl, hc3, sz1000' (by rw [hx.length]; omega), ?_⟩
      have hx4 := (CtL.snoc (c := (c, 1 + d / 3 % 9, z2)) et (hx.on s3)).put (ys := xs ++ [.ref t]) hc3
      have g4 : dCmd (ctD (c, 1 + d / 3 % 9, z2)) = true := ct_good ⟨c0, c1⟩ ⟨by omega, by omega⟩ p1 p2
      have eL4 : upd H3 C (.lst (xs ++ [.ref t])) L = some (.lst [.int (-3), .int (-2), .int (-1)]) := by rw [upd_ne nCL.symm]; exact s3 _ _ hl
      walk_at "rds"
      refine ⟨_, _, xs ++ [.ref t], cs ++ [(c, 1 + d / 3 % 9, z2)], rfl, by omega, same_mut (sm.trans s3) hC, eL4, upd_same, hx4, ⟨fun x m => ?_, fun x m => ?_, by rw [List.length_append, List.length_singleton]; omega⟩, by rw [List.length_append, List.length_singleton]; omega⟩
      · rcases List.mem_append.mp m with m | m
        · exact gc.ok x m
        · rw [List.mem_singleton.mp m]; exact g4
      · rcases List.mem_append.mp m with m | m
        · exact gc.sm x m
        · rw [List.mem_singleton.mp m]; show 1 + d / 3 % 9 ≤ 9; omega
    · walk_at "rds"
      exact ⟨_, _, xs, cs, rfl, by omega, sm, hl, hc, hx, gc, by omega⟩
  · obtain ⟨d, y, xs, cs, rfl, hd, sm, hl, hc, hx, gc, hlen⟩ := hp'
    walk_at "rds"
    refine ⟨C, xs, rfl, .inl ⟨sq hc, fun p hp => ?_⟩⟩
    exact q _ p xs cs (sm.trans (same_upd hp)) upd_same (hx.on (same_upd hp)) gc
/-- [(0, 0, 0, ())] is made -/
theorem rt_ok {K : PySem.W.Frag} {H : Hp} {t : Addr} {v : V} (d : Dt K H none v rtD) : OkB K H (v, rtD) := ⟨d, rfl, (ly_tup (k := 2) (ly_cons (ly_int _) (ly_cons (ly_int _) (ly_cons (ly_int _) (ly_cons (ly_tup (k := 1) ly_nil) ly_nil))))).mono (by decide), rt_isb⟩
theorem root_new {K : PySem.W.Frag} {H : Hp} {t1 t2 l : Addr} (h1 : H t1 = none) (h2 : upd H t1 (.tup []) t2 = none) (h3 : upd (upd H t1 (.tup [])) t2 (.tup [.int 0, .int 0, .int 0, .ref t1]) l = none) :
    Same H (upd (upd (upd H t1 (.tup [])) t2 (.tup [.int 0, .int 0, .int 0, .ref t1])) l (.lst [.ref t2])) ∧ OkB K (upd (upd (upd H t1 (.tup [])) t2 (.tup [.int 0, .int 0, .int 0, .ref t1])) l (.lst [.ref t2])) (.ref t2, rtD) := by
  have s1 := same_upd (o := .tup []) h1
  have s2 := same_upd (o := .tup [.int 0, .int 0, .int 0, .ref t1]) h2
  have s3 := same_upd (o := .lst [.ref t2]) h3
  have d1 : Dt K (upd H t1 (.tup [])) none (.ref t1) (.tuple []) := .tup (.inl upd_same) .nil
  exact ⟨s1.trans (s2.trans s3), rt_ok (t := t2) (.tup (.inl (s3 _ _ upd_same)) (.cons (.int _) (.cons (.int _) (.cons (.int _) (.cons ((d1.on s2).on s3) .nil)))))⟩
def spBuild (K : PySem.W.Frag) : Sp := fun vs H Q _ => ∃ (D : Addr) (ds : List Int), vs = [.ref D] ∧ H D = some (.lst (ds.map V.int)) ∧ (∀ d ∈ ds, 0 ≤ d) ∧ ds.length ≤ 10 ∧
  ∀ H' B (bs : List VD), Same H H' → H B = none → H' B = some (.lst (bs.map (·.1))) → (∀ b ∈ bs, OkB K H' b) → GrowB (bs.map (·.2)) → bs.length ≤ 10 → Q (.ref B) H'
theorem c__law_build {C_Ballot : Addr} {C_Chain : Addr} {C_BadBlock : Addr} (T : Txt K mg C_Ballot C_Chain C_BadBlock) : Cal P w K mg base 2 "_law_build" (spBuild K) [] := by
  have c__law_commands := c__law_commands (P := P) (w := w) (K := K) (base := base) T
  refine cal T.d__law_build sc__law_build (fun vs H Q E h => ?_) (fun f cdv A' outer s H vs Q E hr h => ?_)
  · obtain ⟨D, ds, rfl, _⟩ := h; rfl
  obtain ⟨D, ds, rfl, hDl, hds, lds, q⟩ := h
  refine ⟨_, (pss_cons (ps_set (i := 1) sc__law_build.nd rfl (Or.inl rfl) (pe_lst pa_nil))
      (pss_cons (ps_set (i := 2) sc__law_build.nd rfl (Or.inl rfl) pe_int)
      (pss_cons (ps_for PassesOwn.never rfl (pi_list (pv 0)) (pg_name (i := 3) sc__law_build.nd rfl (Or.inl rfl)) (pss_cons (ps_set (i := 2) sc__law_build.nd rfl (Or.inl rfl) (pe_op op_add (pe_op op_add (pv 2) pe_int) (pe_op op_mod (pv 3) pe_int)))
      (pss_cons (ps_set (i := 4) sc__law_build.nd rfl (Or.inl rfl) (pe_op op_cat (pe_lst (pa_cons (pe_tup (pa_cons pe_int (pa_cons pe_int (pa_cons pe_int (pa_cons (pe_tup pa_nil) pa_nil))))) pa_nil)) (pv 1)))
      (pss_cons (ps_set (i := 5) sc__law_build.nd rfl (Or.inl rfl) (pe_ix (kixl (K := K)) (pv 4) (pe_un un_neg pe_int) (fun _ _ => rfl)))
      (pss_cut (ps_if (pt_cmpR op_eq (pe_op op_mod (pe_op op_fdiv (pv 3) pe_int) pe_int) pe_int (nomark _)) (pss_one (ps_set (i := 5) sc__law_build.nd rfl (Or.inl rfl) (pe_ix (kixl (K := K)) (pv 4) (pe_op op_mod (pe_op op_fdiv (pv 3) pe_int) (pe_callB (klen (K := K)) (by rfl) T.z_len (by decide +kernel) (pa_cons (pv 4) pa_nil))) (fun _ _ => rfl)))) pss_nil)
      (pss_one (ps_expr (pe_bm PySem.F.plainAttrs_list PySem.F.slot_list_append PySem.F.type_list_append mt_append (pv 1) (pa_cons (pe_tup (pa_cons (pv 2) (pa_cons (pe_ix (kixt (K := K)) (pv 5) pe_int (fun _ _ => rfl)) (pa_cons (pe_op op_add (pe_ix (kixt (K := K)) (pv 5) pe_int (fun _ _ => rfl)) pe_int) (pa_cons (pe_c c__law_commands hr (by decide) (by rfl) (pa_cons (pe_op op_fdiv (pv 3) pe_int) pa_nil)) pa_nil))))) pa_nil)))))))))
      (pss_one (ps_ret (pv 1)))))), ?_⟩
  walk_at "rds"
  intro B hB
  have nDB : D ≠ B := ne_of_none hDl hB
  have s1 := same_upd (o := .lst []) hB
  have eB : upd H B (.lst []) B = some (.lst []) := upd_same
  generalize upd H B (.lst []) = H1 at s1 eB
  walk_at "rds"
  refine ⟨⟨_, sq (s1 _ _ hDl)⟩, ?_⟩
  refine for_it (walk_list (K := K) (a := D) (xs := ds.map V.int)) (Pv := fun i σ H' => ∃ e y3 y4 y5 bs, σ = [some (.ref D), some (.ref B), some (.int e), y3, y4, y5] ∧ Same H H' ∧ H' D = some (.lst (ds.map V.int)) ∧ H' B = some (.lst (bs.map (·.1))) ∧ (∀ b ∈ bs, OkB K H' b) ∧ GrowB (bs.map (·.2)) ∧ bs.length = i ∧ (∀ y ∈ rtD :: bs.map (·.2), eD y ≤ e)) ⟨0, none, none, none, [], rfl, s1, s1 _ _ hDl, eB, (fun _ m => nomatch m), .nil, rfl, fun y m => by rw [List.mem_singleton.mp m]; decide⟩ (fun i σ H' _ h => by obtain ⟨_, _, _, _, _, _, _, h, _⟩ := h; exact sq h) (fun i x σ H1 H2 hi hp' hy => ?_) (fun σ H1 hp' => ?_)
  · obtain ⟨e, y3, y4, y5, bs, rfl, sm, hDD, hBB, okb, gr, lb, le⟩ := hp'
    obtain ⟨rfl, gx⟩ := hy
    rw [List.length_map] at hi
    rw [List.getElem?_map, List.getElem?_eq_getElem hi] at gx
    obtain rfl : V.int ds[i] = x := Option.some.inj gx
    have hd0 := hds ds[i] (List.getElem_mem hi)
    generalize ds[i] = d at hd0
    walk_at "rds"
    intro t1 ht1
    walk_at "rds"
    intro t2 ht2
    walk_at "rds"
    intro l1 hl1
    obtain ⟨s3, okr⟩ := root_new (K := K) ht1 ht2 hl1
    have el1 : upd (upd (upd H2 t1 (.tup [])) t2 (.tup [.int 0, .int 0, .int 0, .ref t1])) l1 (.lst [.ref t2]) l1 = some (.lst [.ref t2]) := upd_same
    generalize upd (upd (upd H2 t1 (.tup [])) t2 (.tup [.int 0, .int 0, .int 0, .ref t1])) l1 (.lst [.ref t2]) = H3 at s3 okr el1
    clear hl1 ht2 ht1 t1
    walk_at "rds"
    refine ⟨l1, B, _, _, rfl, rfl, el1, s3 _ _ hBB, sz1000 (by rw [List.length_map, List.length_singleton]; omega), ?_⟩
    intro l2 hl2
    have s4 := same_upd (o := .lst ([.ref t2] ++ bs.map (·.1))) hl2
    have el2 : upd H3 l2 (.lst ([.ref t2] ++ bs.map (·.1))) l2 = some (.lst (((V.ref t2, rtD) :: bs).map (·.1))) := upd_same
    have s34 := s3.trans s4
    have okr := okr.on s4
    generalize upd H3 l2 (.lst ([.ref t2] ++ bs.map (·.1))) = H4 at s4 el2 s34 okr
    have okp : ∀ b ∈ (V.ref t2, rtD) :: bs, OkB K H4 b := fun b m => by
      rcases List.mem_cons.mp m with rfl | m
      · exact okr
      · exact (okb b m).on s34
    clear s3 el1 s4 okr
    have lps : ((V.ref t2, rtD) :: bs).length = i + 1 := by rw [List.length_cons]; omega
    have lpe : ∀ b ∈ (V.ref t2, rtD) :: bs, b.2 ∈ rtD :: bs.map (·.2) := fun b m => List.mem_map_of_mem (f := fun y : VD => y.2) m
    obtain ⟨ps, hps⟩ : ∃ ps, (V.ref t2, rtD) :: bs = ps := ⟨_, rfl⟩
    rw [hps] at el2 okp lps lpe
    walk_at "rds"
    obtain ⟨ps', b0, eps⟩ : ∃ ps' b0, ps = ps' ++ [b0] := by
      rcases List.eq_nil_or_concat ps with h | ⟨l, x, h⟩
      · rw [h] at lps; cases lps
      · exact ⟨l, x, by rw [h, List.concat_eq_append]⟩
    refine ⟨l2, _, (-1 : Int), b0.1, rfl, rfl, sq el2, by rw [eps, List.map_append]; exact atI_last _ _, ?_⟩
    refine ⟨fun σ' H' => ∃ b, b ∈ ps ∧ σ' = [some (V.ref D), some (V.ref B), some (V.int (e + 1 + d % 3)), some (V.int d), some (V.ref l2), some b.1] ∧ H' = H4, ?_, ?_⟩
    · walk_at "rds"
      refine ite2 (fun z => ?_) (fun z => ?_)
      · walk_at "rds"
        refine ⟨l2, _, rfl, .inl (sq el2), ?_⟩
        walk_at "rds"
        rw [List.length_map, lps]
        obtain ⟨v, mv, gv⟩ := atI_lt (xs := ps.map (·.1)) (i := d / 12 % ((i + 1 : Nat) : Int)) (Int.emod_nonneg _ (by omega)) (by rw [List.length_map, lps]; exact Int.emod_lt_of_pos _ (by omega))
        obtain ⟨b, mb, rfl⟩ := List.mem_map.mp mv
        refine ⟨by show (0 : Int) < _; omega, ?_⟩
        refine ⟨l2, _, _, b.1, rfl, rfl, sq el2, gv, ?_⟩
        exact ⟨b, mb, rfl, rfl⟩
      · exact ⟨b0, by rw [eps]; simp, rfl, rfl⟩
    rintro σ' _ ⟨b, mb, rfl, rfl⟩
    have okb1 := okp b mb
    obtain ⟨pa, pr, ea, ha⟩ := okb1.at_
    have ea : b.1 = .ref pa := ea
    rw [ea]
    walk_at "rds"
    refine ⟨.inl ⟨rfl, _, sq (s34 _ _ hBB)⟩, ?_⟩
    walk_at "rds"
    refine ⟨pa, _, 0, _, rfl, rfl, ha.sq, atI_nat (j := 0) rfl, ?_⟩
    walk_at "rds"
    refine ⟨pa, _, 2, _, rfl, rfl, ha.sq, atI_nat (j := 2) rfl, ?_⟩
    walk_at "rds"
    refine ⟨by omega, fun H5 tc ys cs s5 etc cc gc => ?_⟩
    walk_at "rds"
    intro t ht
    have s6 := same_upd (o := .tup [.int (e + 1 + d % 3), .int (eD b.2), .int (hD b.2 + 1), .ref tc]) ht
    have et : upd H5 t (.tup [.int (e + 1 + d % 3), .int (eD b.2), .int (hD b.2 + 1), .ref tc]) t = some (.tup [.int (e + 1 + d % 3), .int (eD b.2), .int (hD b.2 + 1), .ref tc]) := upd_same
    generalize upd H5 t (.tup [.int (e + 1 + d % 3), .int (eD b.2), .int (hD b.2 + 1), .ref tc]) = H6 at s6 et
    have dcs : Dt K H6 none (.ref tc) (.tuple (cs.map ctD)) := .tup (.inl (s6 _ _ etc)) ((cc.on s6).dt fun c m => by have := (ctD_str (gc.ok c m)).2; omega)
    have dt6 : Dt K H6 none (.ref t) (blD (e + 1 + d % 3) (eD b.2) (hD b.2 + 1) cs) := .tup (.inl et) (.cons (.int _) (.cons (.int _) (.cons (.int _) (.cons dcs .nil))))
    have law6 : LawB (blD (e + 1 + d % 3) (eD b.2) (hD b.2 + 1) cs) := ⟨_, _, _, _, rfl, gc⟩
    have ok6 : OkB K H6 (.ref t, blD (e + 1 + d % 3) (eD b.2) (hD b.2 + 1) cs) := ⟨dt6, dBlkOk_noL law6.blk, law6.ly, law6.isb⟩
    have s36 := s34.trans (s5.trans s6)
    have hB6 := s36 _ _ hBB
    walk_at "rds"
    refine ⟨B, _, _, rfl, rfl, hB6, sz1000' (by rw [List.length_map]; omega), ?_⟩
    have tp7 := tp_put (ys := bs.map (·.1) ++ [.ref t]) hB6
    have eD6 : eD (blD (e + 1 + d % 3) (eD b.2) (hD b.2 + 1) cs) = e + 1 + d % 3 := rfl
    refine ⟨_, _, _, _, bs ++ [(.ref t, blD (e + 1 + d % 3) (eD b.2) (hD b.2 + 1) cs)], rfl, same_mut (sm.trans s36) hB, ?_, ?_, fun x m => ?_, ?_, ?_, fun y m => ?_⟩
    · rw [upd_ne nDB]; exact s36 _ _ hDD
    · rw [upd_same, List.map_append]; rfl
    · rcases List.mem_append.mp m with m | m
      · exact ((okb x m).on s36).tp tp7
      · rw [List.mem_singleton.mp m]; exact ok6.tp tp7
    · rw [List.map_append]
      exact .snoc gr law6 (fun y m => by rw [eD6]; have := le y m; omega) (lpe b mb) rfl rfl
    · rw [List.length_append, List.length_singleton]; omega
    · rw [List.map_append, ← List.cons_append] at m
      rcases List.mem_append.mp m with m | m
      · have := le y m; omega
      · rw [List.mem_singleton.mp m]; exact Int.le_of_eq eD6
  · obtain ⟨e, y3, y4, y5, bs, rfl, sm, hDD, hBB, okb, gr, lb, le⟩ := hp'
    walk_at "rds"
    exact q _ B bs sm hB hBB okb gr (by rw [List.length_map] at lb; omega)
end

--@SPLIT
/-! ### _law_numbers -/
theorem OkB.dt4 {K : PySem.W.Frag} {H : Hp} {v : V} {d : PyData} (h : Dt K H none v d) (i : IsB d) : ∃ a r, v = .ref a ∧ TupAt K H a [.int (eD d), .int (nD d), .int (hD d), r] := by
  obtain ⟨e, n, t, r, rfl⟩ := i
  cases h with
  | tup ha hx =>
    cases hx with
    | cons h1 r1 => cases h1; cases r1 with
      | cons h2 r2 => cases h2; cases r2 with
        | cons h3 r3 => cases h3; cases r3 with
          | cons h4 r4 => cases r4; exact ⟨_, _, rfl, ha⟩
theorem fm_filter (e : Int) : ∀ ds : List PyData, ds.filterMap (fun d => if eD d = e then some d else none) = ds.filter fun d => decide (eD d = e)
  | [] => rfl
  | d :: r => by
    rw [List.filterMap_cons, List.filter_cons, fm_filter e r]
    by_cases z : eD d = e
    · rw [if_pos z, if_pos (decide_eq_true z)]
    · rw [if_neg z, if_neg (by rw [decide_eq_false z]; decide)]
def spLNum (K : PySem.W.Frag) : Sp := fun vs H Q _ => ∃ (B S : Addr) (bs : List VD) (ks : List (Int × Int)) (e : Int) (ds : List PyData), vs = [.ref B, .ref S, .int e] ∧ H B = some (.lst (bs.map (·.1))) ∧ (∀ b ∈ bs, OkB K H b) ∧ (∀ b ∈ bs, LawB b.2) ∧ bs.length ≤ 10 ∧
  Nd H S ks ∧ ks.length ≤ 100 ∧ PathD (bs.map (·.2)) e ds ∧ ds.length ≤ 10 ∧ ∀ r H', H r = none → Same H H' → Nd H' r (alongN ks ds.reverse) → Q (.ref r) H'
section
variable {P : Program} {w : World} {K : PySem.W.Frag} {mg : Str → Option Value} {base : Heap}
theorem c__law_numbers {C_Ballot : Addr} {C_Chain : Addr} {C_BadBlock : Addr} (T : Txt K mg C_Ballot C_Chain C_BadBlock) : Cal P w K mg base 1 "_law_numbers" (spLNum K) [] := by
  refine cal T.d__law_numbers sc__law_numbers (fun vs H Q E h => ?_) (fun f cdv A outer s H vs Q E hr h => ?_)
  · obtain ⟨B, S, bs, ks, e, ds, rfl, _⟩ := h; rfl
  obtain ⟨B, S, bs, ks, e, ds, rfl, hB, okb, lawb, lb, hS, lks, pth, lds, q⟩ := h
  refine ⟨_, (pss_cons (ps_set (i := 3) sc__law_numbers.nd rfl (Or.inl rfl) (pe_callTy call_dictD (by rfl) T.z_dict (by decide +kernel) (pa_cons (pv 1) pa_nil)))
      (pss_cons (ps_set (i := 4) sc__law_numbers.nd rfl (Or.inl rfl) (pe_lst pa_nil))
      (pss_cons (ps_while PassesOwn.never (PW.pt (pw_and (pt_cmpR op_ne (pv 2) pe_int (nomark _)) (pw_and1 (pt_cmpR op_lt (pe_callB (klen (K := K)) (by rfl) T.z_len (by decide +kernel) (pa_cons (pv 4) pa_nil)) pe_int (nomark _))))) (pss_cons (ps_set (i := 5) sc__law_numbers.nd rfl (Or.inl rfl) (pe_ix (kixl (K := K)) (pe_lc (own := [("row", 7)]) (g := gName 7) (by rfl) sc__law_numbers.nd (pi_list (pv 0)) (blkOk_by (own := [("row", 7)]) (N := ["blocks", "start", "epoch", "last", "path", "block", "command", "row"]) (sc := defScope s__law_numbers) (by decide +kernel)) (fun _ _ _ _ _ => pg_name (i := 7) sc__law_numbers.nd rfl (Or.inl rfl)) (fun _ _ _ _ _ => pts_one (pt_cmpR op_eq (pe_ix (kixt (K := K)) (pv 7) pe_int (fun _ _ => rfl)) (pv 2) (nomark _))) (fun _ _ _ _ _ => (pv 7))) pe_int (fun _ _ => rfl)))
      (pss_cons (ps_set (i := 4) sc__law_numbers.nd rfl (Or.inl rfl) (pe_op op_cat (pe_lst (pa_cons (pv 5) pa_nil)) (pv 4)))
      (pss_one (ps_set (i := 2) sc__law_numbers.nd rfl (Or.inr rfl) (pe_ix (kixt (K := K)) (pv 5) pe_int (fun _ _ => rfl)))))))
      (pss_cons (ps_for PassesOwn.never rfl (pi_list (pv 4)) (pg_name (i := 5) sc__law_numbers.nd rfl (Or.inl rfl)) (pss_one (ps_for PassesOwn.never rfl (pi_tup (pe_ix (kixt (K := K)) (pv 5) pe_int (fun _ _ => rfl))) (pg_name (i := 6) sc__law_numbers.nd rfl (Or.inl rfl)) (pss_one (ps_dput (hu_of hr) (pv 3) (pe_ix (kixt (K := K)) (pv 6) pe_int (fun _ _ => rfl)) (pe_ix (kixt (K := K)) (pv 6) pe_int (fun _ _ => rfl)) rfl)))))
      (pss_one (ps_ret (pv 3))))))), ?_⟩
  walk_at "rds"
  refine ⟨S, _, rfl, .inl hS, fun R hR => ?_⟩
  have s1 := same_upd (o := .dK (ks.map ndK)) hR
  have eR : Nd (upd H R (.dK (ks.map ndK))) R ks := upd_same
  generalize upd H R (.dK (ks.map ndK)) = H1 at s1 eR
  walk_at "rds"
  intro P0 hP0
  have nRP : R ≠ P0 := ne_of_none eR hP0
  have s2 := s1.trans (same_upd (o := .lst []) hP0)
  have eP : upd H1 P0 (.lst []) P0 = some (.lst []) := upd_same
  have eR2 : Nd (upd H1 P0 (.lst [])) R ks := by show upd H1 P0 (.lst []) R = _; rw [upd_ne nRP]; exact eR
  generalize upd H1 P0 (.lst []) = H2 at s2 eP eR2
  walk_at "rds"
  refine ⟨fun m σ' H' => ∃ (e' : Int) (pre rest : List PyData) (P0 : Addr) (xs : List V) (y5 y6 y7 : Option V), σ' = [some (.ref B), some (.ref S), some (.int e'), some (.ref R), some (.ref P0), y5, y6, y7] ∧ Same H H' ∧ Nd H' R ks ∧ H' P0 = some (.lst xs) ∧ DtAll K H' none xs pre.reverse ∧ PathD (bs.map (·.2)) e' rest ∧ pre ++ rest = ds ∧ rest.length = m, ⟨ds.length, e, [], ds, P0, [], none, none, none, rfl, s2, eR2, eP, .nil, pth, rfl, rfl⟩, fun m σ' Ha hp => ?_⟩
  obtain ⟨e', pre, rest, P0, xs, y5, y6, y7, rfl, sm, hRR, hP, hx, pth2, el, rfl⟩ := hp
  have lpre : pre.length + rest.length ≤ 10 := by rw [← List.length_append, el]; exact lds
  have lxs : xs.length = pre.length := by rw [hx.length, List.length_reverse]
  have hBa := sm _ _ hB
  walk_at "rds"
  rw [decV]
  cases pth2 with
  | nil =>
    refine ifF (by rw [decide_eq_true rfl]; rfl) ?_
    refine ifF rfl ?_
    rw [List.append_nil] at el
    subst el
    walk_at "rds"
    refine ⟨⟨_, sq hP⟩, ?_⟩
    refine for_it (walk_list (K := K) (a := P0) (xs := xs)) (Pv := fun i σ H' => ∃ y5 y6 y7 ks', σ = [some (.ref B), some (.ref S), some (.int 0), some (.ref R), some (.ref P0), y5, y6, y7] ∧ Same H H' ∧ Nd H' R ks' ∧ H' P0 = some (.lst xs) ∧ DtAll K H' none xs pre.reverse ∧ alongN ks pre.reverse = alongN ks' (pre.reverse.drop i) ∧ ks'.length ≤ 100 + 3 * i) ⟨y5, y6, y7, ks, rfl, sm, hRR, hP, hx, rfl, by omega⟩ (fun i σ H' _ h => by obtain ⟨_, _, _, _, _, _, _, h, _⟩ := h; exact sq h) (fun i x σ H3 H4 hi hp' hy => ?_) (fun σ H3 hp' => ?_)
    · obtain ⟨y5, y6, y7, ks', rfl, sm, hRR, hP, hx, eq, hkl⟩ := hp'
      obtain ⟨rfl, gx⟩ := hy
      obtain ⟨d, gd, hdx⟩ := hx.get gx
      have hid : i < pre.reverse.length := (List.getElem?_eq_some_iff.mp gd).1
      have edrop : pre.reverse.drop i = d :: pre.reverse.drop (i + 1) := by
        rw [List.drop_eq_getElem_cons hid]
        rw [List.getElem?_eq_getElem hid] at gd
        cases gd; rfl
      rw [edrop] at eq
      have md : d ∈ bs.map (·.2) := pth.mem d (by have := List.mem_of_getElem? gd; exact List.mem_reverse.mp this)
      obtain ⟨bb, mbb, ebb⟩ := List.mem_map.mp md
      obtain ⟨e1, n1, t1, cs, rfl, gc⟩ : LawB d := by rw [← ebb]; exact lawb bb mbb
      cases hdx with
      | tup hta hxx =>
        rename_i a ys
        obtain ⟨x1, x2, x3, x4, d1, d2, d3, d4, rfl, e, h1, h2, h3, h4⟩ := hxx.four (by rw [hxx.length]; rfl)
        cases e
        have eq : alongN ks pre.reverse = alongN (ndAfter ks' (cs.map ctD)) (pre.reverse.drop (i + 1)) := eq
        walk_at "rds"
        refine ⟨a, _, 3, _, rfl, rfl, hta.sq, atI_nat (j := 3) rfl, ?_⟩
        cases h4 with
        | tup htc hcc =>
          rename_i tc zs
          refine ⟨tc, rfl, ⟨_, htc.sq⟩, ?_⟩
          have lcs := gc.ln
          have lzs : zs.length = cs.length := by rw [hcc.length, List.length_map]
          refine for_it (walk_tup (K := K) (a := tc) (xs := zs)) (Pv := fun j σ H' => ∃ y6 y7 ks2, σ = [some (.ref B), some (.ref S), some (.int 0), some (.ref R), some (.ref P0), some (.ref a), y6, y7] ∧ Same H H' ∧ Nd H' R ks2 ∧ H' P0 = some (.lst xs) ∧ DtAll K H' none xs pre.reverse ∧ TupAt K H' tc zs ∧ DtAll K H' none zs (cs.map ctD) ∧ ndAfter ks' (cs.map ctD) = ndAfter ks2 ((cs.map ctD).drop j) ∧ ks2.length ≤ ks'.length + j) ⟨y6, y7, ks', rfl, sm, hRR, hP, hx, htc, hcc, rfl, by omega⟩ (fun j σ H' _ h => by obtain ⟨_, _, _, _, _, _, _, _, h, _⟩ := h; exact h.sq) (fun j x σ H5 H6 hj hp2 hy2 => ?_) (fun σ H5 hp2 => ?_)
          · obtain ⟨y6, y7, ks2, rfl, sm, hRR, hP, hx, htc, hcc, eq2, hk2⟩ := hp2
            obtain ⟨rfl, gz⟩ := hy2
            obtain ⟨dc, gdc, hdc⟩ := hcc.get gz
            have hjd : j < (cs.map ctD).length := (List.getElem?_eq_some_iff.mp gdc).1
            have edc : (cs.map ctD).drop j = dc :: (cs.map ctD).drop (j + 1) := by
              rw [List.drop_eq_getElem_cons hjd]
              rw [List.getElem?_eq_getElem hjd] at gdc
              cases gdc; rfl
            rw [edc] at eq2
            obtain ⟨c, mc, rfl⟩ := List.mem_map.mp (List.mem_of_getElem? gdc)
            obtain ⟨aq, z3, rfl, haq⟩ := Dt.nums (gc.ok c mc) hdc
            walk_at "rds"
            refine ⟨aq, _, 1, _, rfl, rfl, haq.sq, atI_nat (j := 1) rfl, ?_⟩
            walk_at "rds"
            refine ⟨aq, _, 0, _, rfl, rfl, haq.sq, atI_nat (j := 0) rfl, ?_⟩
            have hj3 : j < 3 := by rw [List.length_map] at hjd; omega
            have hip : i < 10 := by rw [List.length_reverse] at hid; omega
            have tp6 : Tp H6 (upd H6 R (.dK (putK (ks2.map ndK) (Sum.inl (dClient (ctD c))) (.int (dNum (ctD c)))))) := fun b0 zz ez => by rw [upd_ne (ne_of ez hRR (by intro z; cases z))]; exact ez
            have nPR : P0 ≠ R := ne_of hP hRR (by intro z; cases z)
            refine ⟨R, _, rfl, DPut.k (k := Sum.inl (dClient (ctD c))) hRR (by rw [List.length_map]; exact sz1000' (by omega)), ?_⟩
            refine ⟨_, _, putN ks2 (dClient (ctD c)) (dNum (ctD c)), rfl, same_mut sm hR, ?_, by rw [upd_ne nPR]; exact hP, DtAll.keep tp6 _ _ (noLs_all fun d md => ?_) hx, htc.tp tp6, DtAll.keep tp6 _ _ (noLs_cmds fun d md => ?_) hcc, eq2, by have := putN_len ks2 (dClient (ctD c)) (dNum (ctD c)); omega⟩
            · show upd _ R _ R = _
              rw [upd_same, nd_put]
            · obtain ⟨y, my, ey⟩ := List.mem_map.mp (pth.mem d (List.mem_reverse.mp md))
              rw [← ey]; exact (okb y my).nl
            · obtain ⟨c', mc', rfl⟩ := List.mem_map.mp md
              exact gc.ok c' mc'
          · obtain ⟨y6, y7, ks2, rfl, sm, hRR, hP, hx, htc, hcc, eq2, hk2⟩ := hp2
            rw [List.drop_of_length_le (by rw [hcc.length]; exact Nat.le_refl _)] at eq2
            exact ⟨_, _, _, ks2, rfl, sm, hRR, hP, hx, by rw [eq, eq2]; rfl, by omega⟩
    · obtain ⟨y5, y6, y7, ks', rfl, sm, hRR, hP, hx, eq, hkl⟩ := hp'
      walk_at "rds"
      rw [List.drop_of_length_le (by rw [hx.length]; exact Nat.le_refl _)] at eq
      refine q R _ hR sm ?_
      rw [eq]
      exact hRR
  | cons ne hd pr =>
    rename_i b rest
    refine ifT (by rw [decide_eq_false ne]; rfl) ?_
    walk_at "rds"
    refine ⟨P0, _, rfl, .inl (sq hP), ?_⟩
    walk_at "rds"
    rw [List.length_cons] at lpre
    refine ifT (decide_eq_true (by rw [lxs]; omega)) ?_
    refine ⟨_, fun _ _ h => h, ?_⟩
    walk_at "rds"
    refine ⟨⟨_, sq hBa⟩, fun F hF => ?_⟩
    have dts : DtAll K Ha none (bs.map (·.1)) (bs.map (·.2)) := vd_all fun y my => (okb y my).dt.on sm
    refine lc_list_dt (K := K) hF (sq hBa) dts (by rw [List.length_map]; omega) (fun d => if eD d = e' then some d else none) (fun d e0 md he => ?_) (fun x d H7 md s7 hdx R0 R1 r1 r2 => ?_) (fun H6 xs' s6 hF6 hx6 => ?_)
    · split at he
      · cases he
        obtain ⟨y, my, rfl⟩ := List.mem_map.mp md
        exact (okb y my).nl
      · cases he
    · obtain ⟨y, my, rfl⟩ := List.mem_map.mp md
      obtain ⟨a, r, rfl, hta⟩ := OkB.dt4 hdx (lawb y my).isb
      refine ⟨rfl, ?_⟩
      walk_at "rds"
      refine ⟨a, _, 0, _, rfl, rfl, hta.sq, atI_nat (j := 0) rfl, ?_⟩
      walk_at "rds"
      rw [decV]
      by_cases z : eD y.2 = e'
      · refine ifT (decide_eq_true z) ?_
        walk_at "rds"
        exact r1 y.2 (if_pos z) _ H7 (Same.refl _) hdx
      · refine ifF (decide_eq_false z) ?_
        exact r2 (if_neg z) H7 (Same.refl _)
    · have ef : (bs.map (·.2)).filterMap (fun d => if eD d = e' then some d else none) = (bs.map (·.2)).filter fun d => decide (eD d = e') := by
        exact fm_filter _ _
      rw [ef] at hx6
      obtain ⟨v, fs, efs⟩ : ∃ v fs, xs' = v :: fs := by
        cases xs' with
        | nil => cases hx6' : (bs.map (·.2)).filter (fun d => decide (eD d = e')) with
          | nil => rw [hx6'] at hd; cases hd
          | cons _ _ => rw [hx6'] at hx6; cases hx6
        | cons v fs => exact ⟨v, fs, rfl⟩
      subst efs
      obtain ⟨d0, g0, hv⟩ := hx6.get (i := 0) (x := v) rfl
      have : d0 = b := by rw [List.head?_eq_getElem?, g0] at hd; exact Option.some.inj hd
      subst this
      have sm6 := sm.trans s6
      walk_at "rds"
      refine ⟨F, _, 0, _, rfl, rfl, sq hF6, atI_nat (j := 0) rfl, ?_⟩
      walk_at "rds"
      intro q1 hq1
      have u1 := same_upd (o := .lst [v]) hq1
      have e1 : upd H6 q1 (.lst [v]) q1 = some (.lst [v]) := upd_same
      have hv1 := hv.on u1
      have s7 := s6.trans u1
      generalize upd H6 q1 (.lst [v]) = H7 at u1 e1 hv1 s7
      walk_at "rds"
      refine ⟨q1, P0, _, _, rfl, rfl, e1, s7 _ _ hP, sz1000 (by rw [List.length_singleton, lxs]; omega), fun q2 hq2 => ?_⟩
      have u2 := same_upd (o := .lst ([v] ++ xs)) hq2
      have e2 : upd H7 q2 (.lst ([v] ++ xs)) q2 = some (.lst (v :: xs)) := upd_same
      have s8 := s7.trans u2
      have hv2 := hv1.on u2
      generalize upd H7 q2 (.lst ([v] ++ xs)) = H8 at e2 s8 hv2
      have mb : d0 ∈ bs.map (·.2) := (head_mem hd).1
      obtain ⟨y, my, ey⟩ := List.mem_map.mp mb
      obtain ⟨a, r, rfl, hta⟩ := OkB.dt4 hv2 (by rw [← ey]; exact (lawb y my).isb)
      walk_at "rds"
      refine ⟨a, _, 1, _, rfl, rfl, hta.sq, atI_nat (j := 1) rfl, ?_⟩
      walk_at "rds"
      exact ⟨rest.length, Nat.lt_succ_self _, _, pre ++ [d0], rest, q2, _, _, _, _, rfl, sm.trans s8, s8 _ _ hRR, e2, by rw [List.reverse_append]; exact .cons hv2 (hx.on s8), pr, by rw [List.append_assoc]; exact el, rfl⟩
end

--@SPLIT
/-! ### _law_expected -/
def spExp (K : PySem.W.Frag) : Sp := fun vs H Q _ => ∃ (a t B L S : Addr) (be nb bh ep la fl top : Int) (ys xs : List V) (cs kn : List CT) (bs : List VD) (ds : List PyData) (pd : PyData) (ks : List (Int × Int)),
  vs = [.ref a, .int ep, .ref B, .int la, .int fl, .ref L, .ref S] ∧ H a = some (.tup [.int be, .int nb, .int bh, .ref t]) ∧ H t = some (.tup ys) ∧ CtL H ys cs ∧ (∀ c ∈ cs, dCmd (ctD c) = true) ∧ cs.length ≤ 100 ∧
  H B = some (.lst (bs.map (·.1))) ∧ (∀ b ∈ bs, OkB K H b) ∧ GrowB (bs.map (·.2)) ∧ bs.length ≤ 10 ∧ pd ∈ rtD :: bs.map (·.2) ∧ eD pd = nb ∧ PathD (bs.map (·.2)) nb ds ∧ ds.length ≤ 10 ∧
  H L = some (.lst xs) ∧ CtL H xs kn ∧ kn.length ≤ 1000 ∧ (∀ c ∈ kn, PyData.strOk c.2.2 = true) ∧ Nd H S ks ∧ ks.length ≤ 100 ∧ (∀ y ∈ rtD :: bs.map (·.2), hD y ≤ top) ∧ (∃ y ∈ rtD :: bs.map (·.2), hD y = top) ∧
  ∀ H', Same H H' → Q (.bl (mayB be ep la bh (hD pd) top fl kn cs (alongN ks ds.reverse))) H'
theorem dt_ints {K : PySem.W.Frag} {H : Hp} : ∀ {ns : List Int} {xs : List V}, DtAll K H none xs (ns.map PyData.int) → xs = ns.map V.int
  | [], _, .nil => rfl
  | n :: r, _, .cons h hr => by cases h; rw [List.map_cons, dt_ints hr]
theorem units65 {A : Around} {k : Nat} (hr : Room k A) : A.units + 65 < cLine := hu65 hr
section
variable {P : Program} {w : World} {K : PySem.W.Frag} {mg : Str → Option Value} {base : Heap}
theorem c__law_expected {C_Ballot : Addr} {C_Chain : Addr} {C_BadBlock : Addr} (T : Txt K mg C_Ballot C_Chain C_BadBlock) : Cal P w K mg base 2 "_law_expected" (spExp K) [] := by
  have c__law_numbers := c__law_numbers (P := P) (w := w) (K := K) (base := base) T
  refine cal T.d__law_expected sc__law_expected (fun vs H Q E h => ?_) (fun f cdv A outer s H vs Q E hr h => ?_)
  · obtain ⟨a, t, B, L, S, be, nb, bh, ep, la, fl, top, ys, xs, cs, kn, bs, ds, pd, ks, rfl, _⟩ := h; rfl
  obtain ⟨a, t, B, L, S, be, nb, bh, ep, la, fl, top, ys, xs, cs, kn, bs, ds, pd, ks, rfl, ha, ht, cc, hdc, lcs, hB, okb, gr, lb, mpd, epd, pth, lds, hL, ck, lkn, hkn, hS, lks, top1, top2, q⟩ := h
  refine ⟨_, (pss_cons (ps_if (PW.pt (pw_or (pt_cmpR op_ne (pe_ix (kixt (K := K)) (pv 0) pe_int (fun _ _ => rfl)) (pv 1) (nomark _)) (pw_or1 (pt_cmpR op_le (pv 1) (pv 3) (nomark _))))) (pss_one (ps_ret pe_bl)) pss_nil)
      (pss_cons (ps_setLc (i := 7) (own := [("row", 11)]) (g := gName 11) rfl sc__law_expected.nd rfl rfl (sw_true rfl rfl rfl (by decide +kernel)) (pi_list (pe_op op_cat (pe_lst (pa_cons (pe_tup (pa_cons pe_int (pa_cons pe_int (pa_cons pe_int (pa_cons (pe_tup pa_nil) pa_nil))))) pa_nil)) (pv 2))) (blkOk_by (own := [("row", 11)]) (N := ["block", "epoch", "blocks", "last", "floor", "known", "start", "parents", "top", "numbers", "command", "row"]) (sc := defScope s__law_expected) (by decide +kernel)) (fun _ _ _ _ _ => pg_name (i := 11) sc__law_expected.nd rfl (Or.inl rfl)) (fun _ _ _ _ _ => pts_one (pt_cmpR op_eq (pe_ix (kixt (K := K)) (pv 11) pe_int (fun _ _ => rfl)) (pe_ix (kixt (K := K)) (pv 0) pe_int (fun _ _ => rfl)) (nomark _))) (fun _ _ _ _ _ => (pv 11)))
      (pss_cons (ps_set (i := 8) sc__law_expected.nd rfl (Or.inl rfl) (pe_callB (cr_max rfl) (by rfl) T.z_max (by decide +kernel) (pa_cons (pe_lc (own := [("row", 11)]) (g := gName 11) (by rfl) sc__law_expected.nd (pi_list (pe_op op_cat (pe_lst (pa_cons (pe_tup (pa_cons pe_int (pa_cons pe_int (pa_cons pe_int (pa_cons (pe_tup pa_nil) pa_nil))))) pa_nil)) (pv 2))) (blkOk_by (own := [("row", 11)]) (N := ["block", "epoch", "blocks", "last", "floor", "known", "start", "parents", "top", "numbers", "command", "row"]) (sc := defScope s__law_expected) (by decide +kernel)) (fun _ _ _ _ _ => pg_name (i := 11) sc__law_expected.nd rfl (Or.inl rfl)) (fun _ _ _ _ _ => pts_nil) (fun _ _ _ _ _ => (pe_ix (kixt (K := K)) (pv 11) pe_int (fun _ _ => rfl)))) pa_nil)))
      (pss_cons (ps_if (PW.pt (pw_or (pt_cmpR op_eq (pe_callB (klen (K := K)) (by rfl) T.z_len (by decide +kernel) (pa_cons (pv 7) pa_nil)) pe_int (nomark _)) (pw_or1 (pt_cmpR op_ne (pe_ix (kixt (K := K)) (pv 0) pe_int (fun _ _ => rfl)) (pe_op op_add (pe_ix (kixt (K := K)) (pe_ix (kixl (K := K)) (pv 7) pe_int (fun _ _ => rfl)) pe_int (fun _ _ => rfl)) pe_int) (nomark _))))) (pss_one (ps_ret pe_bl)) pss_nil)
      (pss_cons (ps_if (PW.pt (pw_or (pt_cmpR op_lt (pe_ix (kixt (K := K)) (pe_ix (kixl (K := K)) (pv 7) pe_int (fun _ _ => rfl)) pe_int (fun _ _ => rfl)) (pv 8) (nomark _)) (pw_or1 (pt_cmpR op_lt (pe_ix (kixt (K := K)) (pe_ix (kixl (K := K)) (pv 7) pe_int (fun _ _ => rfl)) pe_int (fun _ _ => rfl)) (pv 4) (nomark _))))) (pss_one (ps_ret pe_bl)) pss_nil)
      (pss_cons (ps_set (i := 9) sc__law_expected.nd rfl (Or.inl rfl) (pe_c c__law_numbers hr (by decide) (by rfl) (pa_cons (pv 2) (pa_cons (pv 6) (pa_cons (pe_ix (kixt (K := K)) (pv 0) pe_int (fun _ _ => rfl)) pa_nil)))))
      (pss_cons (ps_for PassesOwn.never rfl (pi_tup (pe_ix (kixt (K := K)) (pv 0) pe_int (fun _ _ => rfl))) (pg_name (i := 10) sc__law_expected.nd rfl (Or.inl rfl)) (pss_one (ps_if (PW.pt (pw_or (pt_cmpR (op_notInD (units65 hr)) (pv 10) (pv 5) (by rfl)) (pw_or1 (pt_cmpR op_le (pe_ix (kixt (K := K)) (pv 10) pe_int (fun _ _ => rfl)) (pe_dget2 (hu1 hr) (pv 9) (pe_ix (kixt (K := K)) (pv 10) pe_int (fun _ _ => rfl)) pe_int ⟨by rfl, by rfl, by rfl, by rfl⟩) (nomark _))))) (pss_one (ps_ret pe_bl)) pss_nil)))
      (pss_one (ps_ret pe_bl))))))))), ?_⟩
  walk_at "rds"
  refine ⟨a, _, 0, _, rfl, rfl, SqT.of ha, atI_nat (j := 0) rfl, ?_⟩
  walk_at "rds"
  rw [decV]
  by_cases e1 : be = ep
  case neg =>
    refine ifT (by rw [decide_eq_false e1]; rfl) ?_
    refine ifT rfl ?_
    walk_at "rds"
    have := q H (Same.refl _)
    unfold mayB at this
    rw [decide_eq_false e1] at this
    exact this
  refine ifF (by rw [decide_eq_true e1]; rfl) ?_
  walk_at "rds"
  refine ite2 (fun e2 => ?_) (fun e2 => ?_)
  · have e2 : ep ≤ la := of_decide_eq_true e2
    walk_at "rds"
    have := q H (Same.refl _)
    unfold mayB at this
    rw [decide_eq_false (show ¬ la < ep by omega), Bool.and_false] at this
    exact this
  have e2 : la < ep := by
    have : ¬ ep ≤ la := fun z => e2 (decide_eq_true z)
    omega
  walk_at "rds"
  intro t1 ht1
  walk_at "rds"
  intro t2 ht2
  walk_at "rds"
  intro l1 hl1
  obtain ⟨s3, okr⟩ := root_new (K := K) ht1 ht2 hl1
  have el1 : upd (upd (upd H t1 (.tup [])) t2 (.tup [.int 0, .int 0, .int 0, .ref t1])) l1 (.lst [.ref t2]) l1 = some (.lst [.ref t2]) := upd_same
  generalize upd (upd (upd H t1 (.tup [])) t2 (.tup [.int 0, .int 0, .int 0, .ref t1])) l1 (.lst [.ref t2]) = H3 at s3 okr el1
  clear hl1 ht2 ht1 t1
  walk_at "rds"
  refine ⟨l1, B, _, _, rfl, rfl, el1, s3 _ _ hB, sz1000 (by rw [List.length_map, List.length_singleton]; omega), ?_⟩
  intro l2 hl2
  have s4 := same_upd (o := .lst ([.ref t2] ++ bs.map (·.1))) hl2
  have el2 : upd H3 l2 (.lst ([.ref t2] ++ bs.map (·.1))) l2 = some (.lst (((V.ref t2, rtD) :: bs).map (·.1))) := upd_same
  have s34 := s3.trans s4
  have okr := okr.on s4
  generalize upd H3 l2 (.lst ([.ref t2] ++ bs.map (·.1))) = H4 at s4 el2 s34 okr
  have isbs : ∀ d ∈ rtD :: bs.map (·.2), IsB d := fun d m => by
    rcases List.mem_cons.mp m with rfl | m
    · exact rt_isb
    · exact (gr.law d m).1.isb
  have dts : DtAll K H4 none (((V.ref t2, rtD) :: bs).map (·.1)) (rtD :: bs.map (·.2)) := .cons okr.dt (vd_all fun y my => (okb y my).dt.on s34)
  walk_at "rds"
  refine ⟨⟨_, sq el2⟩, fun F hF => ?_⟩
  refine lc_list_dt (K := K) hF (sq el2) dts (by rw [List.length_map, List.length_cons]; omega) (fun d => if eD d = nb then some d else none) (fun d e0 md he => ?_) (fun x d H7 md s7 hdx R0 R1 r1 r2 => ?_) (fun H6 xs' s6 hF6 hx6 => ?_)
  · split at he
    · cases he
      rcases List.mem_cons.mp md with rfl | md
      · rfl
      · exact dBlkOk_noL (gr.law _ md).1.blk
    · cases he
  · obtain ⟨pa, r, rfl, hta⟩ := OkB.dt4 hdx (isbs d md)
    refine ⟨rfl, ?_⟩
    walk_at "rds"
    refine ⟨pa, _, 0, _, rfl, rfl, hta.sq, atI_nat (j := 0) rfl, ?_⟩
    walk_at "rds"
    have ha7 := s7 _ _ (s34 _ _ ha)
    refine ⟨a, _, 1, _, rfl, rfl, SqT.of ha7, atI_nat (j := 1) rfl, ?_⟩
    walk_at "rds"
    rw [decV]
    by_cases z : eD d = nb
    · refine ifT (decide_eq_true z) ?_
      walk_at "rds"
      exact r1 d (if_pos z) _ H7 (Same.refl _) hdx
    · refine ifF (decide_eq_false z) ?_
      exact r2 (if_neg z) H7 (Same.refl _)
  rw [fm_filter] at hx6
  have s46 := s34.trans s6
  obtain ⟨fd, efd⟩ : ∃ fd, (rtD :: bs.map (·.2)).filter (fun d => decide (eD d = nb)) = pd :: fd := by
    cases z : (rtD :: bs.map (·.2)).filter (fun d => decide (eD d = nb)) with
    | nil => exact absurd (List.mem_filter.mpr ⟨mpd, decide_eq_true epd⟩) (by rw [z]; exact fun m => nomatch m)
    | cons y r =>
      have my : y ∈ (rtD :: bs.map (·.2)).filter (fun d => decide (eD d = nb)) := by rw [z]; exact List.mem_cons_self
      obtain ⟨m1, m2⟩ := List.mem_filter.mp my
      rw [gr.uniq y m1 pd mpd ((of_decide_eq_true m2).trans epd.symm)]
      exact ⟨r, rfl⟩
  rw [efd] at hx6
  obtain ⟨v, fs, rfl⟩ : ∃ v fs, xs' = v :: fs := by cases hx6; exact ⟨_, _, rfl⟩
  have hv : Dt K H6 none v pd := by cases hx6; assumption
  clear hx6 s6 el2 okr dts s34 s4 s3 el1
  walk_at "rds"
  intro t1 ht1
  walk_at "rds"
  intro t3 ht3
  walk_at "rds"
  intro l3 hl3
  obtain ⟨s3, okr⟩ := root_new (K := K) ht1 ht3 hl3
  have el1 : upd (upd (upd H6 t1 (.tup [])) t3 (.tup [.int 0, .int 0, .int 0, .ref t1])) l3 (.lst [.ref t3]) l3 = some (.lst [.ref t3]) := upd_same
  generalize upd (upd (upd H6 t1 (.tup [])) t3 (.tup [.int 0, .int 0, .int 0, .ref t1])) l3 (.lst [.ref t3]) = H7 at s3 okr el1
  clear hl3 ht3 ht1 t1
  have s47 := s46.trans s3
  walk_at "rds"
  refine ⟨l3, B, _, _, rfl, rfl, el1, s47 _ _ hB, sz1000 (by rw [List.length_map, List.length_singleton]; omega), ?_⟩
  intro l4 hl4
  have s4 := same_upd (o := .lst ([.ref t3] ++ bs.map (·.1))) hl4
  have el2 : upd H7 l4 (.lst ([.ref t3] ++ bs.map (·.1))) l4 = some (.lst (((V.ref t3, rtD) :: bs).map (·.1))) := upd_same
  have s48 := s47.trans s4
  have s68 := s3.trans s4
  have okr := okr.on s4
  generalize upd H7 l4 (.lst ([.ref t3] ++ bs.map (·.1))) = H8 at s4 el2 s48 s68 okr
  have dts : DtAll K H8 none (((V.ref t3, rtD) :: bs).map (·.1)) (rtD :: bs.map (·.2)) := .cons okr.dt (vd_all fun y my => (okb y my).dt.on s48)
  walk_at "rds"
  refine ⟨⟨_, sq el2⟩, fun G hG => ?_⟩
  refine lc_list_dt (K := K) hG (sq el2) dts (by rw [List.length_map, List.length_cons]; omega) (fun d => some (.int (hD d))) (fun d e0 md he => by cases he; rfl) (fun x d H7 md s7 hdx R0 R1 r1 r2 => ?_) (fun H9 xs2 s9 hG9 hx9 => ?_)
  · obtain ⟨pa, r, rfl, hta⟩ := OkB.dt4 hdx (isbs d md)
    refine ⟨rfl, ?_⟩
    walk_at "rds"
    refine ⟨pa, _, 2, _, rfl, rfl, hta.sq, atI_nat (j := 2) rfl, ?_⟩
    exact r1 _ rfl _ H7 (Same.refl _) (.int _)
  rw [show (rtD :: bs.map (·.2)).filterMap (fun d => some (PyData.int (hD d))) = ((rtD :: bs.map (·.2)).map hD).map PyData.int by rw [List.map_map]; exact congrFun List.filterMap_eq_map _] at hx9
  have ex2 := dt_ints hx9
  subst ex2
  have s49 := s48.trans s9
  have s69 := s68.trans s9
  walk_at "rds"
  refine ⟨G, _, rfl, sq hG9, by rw [List.length_map, List.length_cons]; omega, fun m mm ml => ?_⟩
  have em : m = top := by
    obtain ⟨y, my, ey⟩ := List.mem_map.mp mm
    have h1 := top1 y my
    obtain ⟨y2, my2, ey2⟩ := top2
    have h2 := ml _ (List.mem_map.mpr ⟨y2, my2, rfl⟩)
    omega
  subst em
  clear mm ml dts okr el2 s47 s46 s4 s3 s48 s68 s9
  walk_at "rds"
  refine ⟨F, _, rfl, .inl (sq (s69 _ _ hF6)), ?_⟩
  walk_at "rds"
  have ha9 := s49 _ _ ha
  have hF9 := s69 _ _ hF6
  have hv9 := hv.on s69
  obtain ⟨pa, pr, rfl, hpa⟩ := OkB.dt4 hv9 (isbs pd mpd)
  have q0 : ∀ {b : Bool}, mayB be ep la bh (hD pd) m fl kn cs (alongN ks ds.reverse) = b → Q (.bl b) H9 := fun {b} e => by have := q H9 s49; rw [e] at this; exact this
  refine ⟨a, _, 2, _, rfl, rfl, SqT.of ha9, atI_nat (j := 2) rfl, ?_⟩
  walk_at "rds"
  refine ⟨F, _, 0, _, rfl, rfl, sq hF9, atI_nat (j := 0) rfl, ?_⟩
  walk_at "rds"
  refine ⟨pa, _, 2, _, rfl, rfl, hpa.sq, atI_nat (j := 2) rfl, ?_⟩
  walk_at "rds"
  rw [decV]
  by_cases e3 : bh = hD pd + 1
  case neg =>
    refine ifT (by rw [decide_eq_false e3]; rfl) ?_
    walk_at "rds"
    refine q0 ?_
    unfold mayB
    rw [decide_eq_false e3, Bool.and_false]; rfl
  refine ifF (by rw [decide_eq_true e3]; rfl) ?_
  walk_at "rds"
  refine ⟨F, _, 0, _, rfl, rfl, sq hF9, atI_nat (j := 0) rfl, ?_⟩
  walk_at "rds"
  refine ⟨pa, _, 2, _, rfl, rfl, hpa.sq, atI_nat (j := 2) rfl, ?_⟩
  walk_at "rds"
  refine ite2 (fun e4 => ?_) (fun e4 => ?_)
  · have e4 : hD pd < m := of_decide_eq_true e4
    walk_at "rds"
    refine q0 ?_
    unfold mayB
    rw [decide_eq_false (show ¬ (m ≤ hD pd ∧ fl ≤ hD pd) by omega), Bool.and_false]; rfl
  have e4 : ¬ hD pd < m := fun z => e4 (decide_eq_true z)
  walk_at "rds"
  refine ⟨F, _, 0, _, rfl, rfl, sq hF9, atI_nat (j := 0) rfl, ?_⟩
  walk_at "rds"
  refine ⟨pa, _, 2, _, rfl, rfl, hpa.sq, atI_nat (j := 2) rfl, ?_⟩
  walk_at "rds"
  refine ite2 (fun e5 => ?_) (fun e5 => ?_)
  · have e5 : hD pd < fl := of_decide_eq_true e5
    walk_at "rds"
    refine q0 ?_
    unfold mayB
    rw [decide_eq_false (show ¬ (m ≤ hD pd ∧ fl ≤ hD pd) by omega), Bool.and_false]; rfl
  have e5 : ¬ hD pd < fl := fun z => e5 (decide_eq_true z)
  have eq0 : mayB be ep la bh (hD pd) m fl kn cs (alongN ks ds.reverse) = (allIn kn cs && dFresh (alongN ks ds.reverse) (cs.map ctD)) := by
    unfold mayB
    rw [decide_eq_true e1, decide_eq_true e2, decide_eq_true e3, decide_eq_true (show m ≤ hD pd ∧ fl ≤ hD pd by omega)]; rfl
  rw [eq0] at q
  clear q0 eq0
  walk_at "rds"
  refine ⟨a, _, 1, _, rfl, rfl, SqT.of ha9, atI_nat (j := 1) rfl, ?_⟩
  refine ⟨B, S, bs, ks, nb, ds, rfl, s49 _ _ hB, fun y my => (okb y my).on s49, fun y my => (gr.law _ (List.mem_map_of_mem (f := fun y : VD => y.2) my)).1, lb, s49 _ _ hS, lks, pth, lds, fun R H10 fR s10 hR => ?_⟩
  have s410 := s49.trans s10
  have ha10 := s410 _ _ ha
  have ht10 := s410 _ _ ht
  have cc10 := cc.on s410
  have ck10 := ck.on s410
  have hL10 := s410 _ _ hL
  have lay : Ly 20 (.list (kn.map ctD)) := (ly_lst (k := 3) fun d hd => by
    obtain ⟨c, mc, rfl⟩ := List.mem_map.mp hd
    exact (ct_shape (k := 0) (hkn c mc)).mono (by decide)).mono (by decide)
  generalize alongN ks ds.reverse = nk at hR q
  walk_at "rds"
  refine ⟨a, _, 3, _, rfl, rfl, SqT.of ha10, atI_nat (j := 3) rfl, ?_⟩
  refine ⟨t, rfl, ⟨_, SqT.of ht10⟩, ?_⟩
  refine for_it (walk_tup (K := K) (a := t) (xs := ys)) (Pv := fun i σ H' => ∃ y10 y11, σ = [some (.ref a), some (.int ep), some (.ref B), some (.int la), some (.int fl), some (.ref L), some (.ref S), some (.ref F), some (.int m), some (.ref R), y10, y11] ∧ H' = H10 ∧ (allIn kn cs && dFresh nk (cs.map ctD)) = (allIn kn (cs.drop i) && dFresh nk ((cs.drop i).map ctD))) ⟨none, none, rfl, rfl, rfl⟩ (fun i σ H' _ h => by obtain ⟨_, _, _, rfl, _⟩ := h; exact SqT.of ht10) (fun i x σ H3 H4 hi hp' hy => ?_) (fun σ H3 hp' => ?_)
  · obtain ⟨y10, y11, rfl, rfl, eq⟩ := hp'
    obtain ⟨rfl, gx⟩ := hy
    obtain ⟨ct, c, rfl, gc, hc⟩ := cc10.at_ gx
    have mc := List.mem_of_getElem? gc
    have hid : i < cs.length := (List.getElem?_eq_some_iff.mp gc).1
    have edrop : cs.drop i = c :: cs.drop (i + 1) := by
      rw [List.drop_eq_getElem_cons hid]
      rw [List.getElem?_eq_getElem hid] at gc
      cases gc; rfl
    rw [edrop] at eq
    have eq : (allIn kn cs && dFresh nk (cs.map ctD)) = ((decide (c ∈ kn) && allIn kn (cs.drop (i + 1))) && (decide (ndGet nk (dClient (ctD c)) < dNum (ctD c)) && dFresh nk ((cs.drop (i + 1)).map ctD))) := eq
    walk_at "rds"
    refine ⟨ctD c, kn.map ctD, .tup (SqT.of hc) (.cons (.int _) (.cons (.int _) (.cons (.str _) .nil))), .lst (sq hL10) ck10.dp, (shpL ((ct_shape (k := 0) (ctD_str (hdc c mc)).1).mono (by decide))).1, (shpL lay).1, ?_⟩
    rw [ct_any]
    by_cases ec : c ∈ kn
    case neg =>
      rw [decide_eq_false ec]
      refine ⟨_, rfl, ?_⟩
      refine ifT rfl ?_
      refine ifT rfl ?_
      walk_at "rds"
      have := q _ s410
      rw [eq, decide_eq_false ec, Bool.false_and, Bool.false_and] at this
      exact this
    rw [decide_eq_true ec]
    refine ⟨_, rfl, ?_⟩
    refine ifF rfl ?_
    walk_at "rds"
    refine ⟨ct, _, 1, _, rfl, rfl, SqT.of hc, atI_nat (j := 1) rfl, ?_⟩
    walk_at "rds"
    refine ⟨.inl ⟨_, .inl hR⟩, ?_⟩
    walk_at "rds"
    refine ⟨ct, _, 0, _, rfl, rfl, SqT.of hc, atI_nat (j := 0) rfl, ?_⟩
    walk_at "rds"
    refine ⟨_, DGet.k (k := Sum.inl c.1) hR, ?_⟩
    rw [nd_val]
    have eg : ((ndOpt nk c.1).map V.int).getD (.int 0) = .int (ndGet nk c.1) := by
      unfold ndGet
      cases ndOpt nk c.1 <;> rfl
    rw [eg]
    walk_at "rds"
    refine ite2 (fun e6 => ?_) (fun e6 => ?_)
    · have e6 : c.2.1 ≤ ndGet nk c.1 := of_decide_eq_true e6
      walk_at "rds"
      have := q _ s410
      rw [eq, decide_eq_false (show ¬ ndGet nk (dClient (ctD c)) < dNum (ctD c) from Int.not_lt.mpr e6), Bool.false_and, Bool.and_false] at this
      exact this
    · have e6 : ¬ c.2.1 ≤ ndGet nk c.1 := fun z => e6 (decide_eq_true z)
      exact ⟨_, _, rfl, rfl, by rw [eq, decide_eq_true ec, decide_eq_true (show ndGet nk (dClient (ctD c)) < dNum (ctD c) from Int.not_le.mp e6), Bool.true_and, Bool.true_and]⟩
  · obtain ⟨y10, y11, rfl, rfl, eq⟩ := hp'
    rw [List.drop_of_length_le (by rw [cc10.length]; exact Nat.le_refl _)] at eq
    walk_at "rds"
    have := q H3 s410
    rw [eq] at this
    exact this
end

--@SPLIT
/-! ### the law -/
theorem GrowB.at_ {bs : List PyData} (g : GrowB bs) : ∀ {i : Nat} {b : PyData}, bs[i]? = some b → (∀ y ∈ rtD :: bs.take i, eD y < eD b) ∧ ∃ p ∈ rtD :: bs.take i, nD b = eD p ∧ hD b = hD p + 1 := by
  induction g with
  | nil => intro i b h; simp at h
  | @snoc bs b0 p g l a mp n h ih =>
    intro i b e
    by_cases hi : i < bs.length
    · rw [List.getElem?_append_left hi] at e
      rw [List.take_append_of_le_length (by omega)]
      exact ih e
    · have hi2 : i < (bs ++ [b0]).length := (List.getElem?_eq_some_iff.mp e).1
      rw [List.length_append, List.length_singleton] at hi2
      have : i = bs.length := by omega
      subst this
      rw [List.getElem?_append_right (Nat.le_refl _), Nat.sub_self] at e
      cases e
      rw [List.take_append_of_le_length (Nat.le_refl _), List.take_of_length_le (Nat.le_refl _)]
      exact ⟨a, p, mp, n, h⟩
theorem conB_snoc (rt : VD) (bs : List VD) (b : VD) : conB rt (bs ++ [b]) = conB rt bs ++ [(eD b.2, b)] := by unfold conB; rw [← List.cons_append, List.map_append]; rfl
theorem ins_step {rt b : VD} {bs : List VD} {con' wai' : Sub} {out : List VD} (hr : rt.2 = rtD) (h0 : 0 < hD b.2) (ha : ∀ y ∈ rt :: bs, eD y.2 < eD b.2) (hp : ∃ p ∈ rt :: bs, nD b.2 = eD p.2 ∧ hD b.2 = hD p.2 + 1) (hu : ∀ x ∈ rt :: bs, ∀ y ∈ rt :: bs, eD x.2 = eD y.2 → x.2 = y.2)
    (ir : InsR rt (conB rt bs) [] b con' wai' out) : con' = conB rt (bs ++ [b]) ∧ wai' = [] := by
  have gn : gA (conB rt bs) (eD b.2) = none := gA_none.mpr fun m => by
    obtain ⟨⟨k, x⟩, mx, e⟩ := List.mem_map.mp m
    obtain ⟨mx, ek⟩ := conB_mem.mp mx
    have := ha x mx
    have e : k = eD b.2 := e
    omega
  rcases ir with ⟨rf, _⟩ | ⟨_, es, pe, _, rfl, rfl, _⟩
  · exfalso
    rcases rf with h | h | h | h
    · rw [gn] at h; cases h
    · cases h
    · have := ha rt List.mem_cons_self; omega
    · rw [hr] at h; have h : hD b.2 ≤ 0 := h; omega
  · have ees : es = [eD b.2] := List.perm_singleton.mp pe
    subst ees
    obtain ⟨p, mp, np, hp⟩ := hp
    obtain ⟨v, gv, mv, ev⟩ := conB_get mp
    have hv : hD v.2 = hD p.2 := by rw [hu v mv p mp ev]
    have gb : gA ([] ++ [(eD b.2, b)] : Sub) (eD b.2) = some b := by
      show gA [(eD b.2, b)] _ = _
      unfold gA
      rw [List.find?_cons, decide_eq_true rfl]; rfl
    have := conn1_yes (st := (conB rt bs, [] ++ [(eD b.2, b)], [])) (e := eD b.2) gb (p := v) (by show gA (conB rt bs) (nD b.2) = _; rw [np]; exact gv) (by omega)
    unfold conn
    rw [List.foldl_cons, List.foldl_nil, this]
    refine ⟨(conB_snoc rt bs b).symm, ?_⟩
    show rm ([] ++ [(eD b.2, b)]) (eD b.2) = []
    unfold rm
    simp
theorem CtL.dropLast {H : Hp} : ∀ {xs : List V} {cs : List CT}, CtL H xs cs → CtL H xs.dropLast cs.dropLast
  | _, _, .nil => .nil
  | _, _, .cons _ .nil => .nil
  | _, _, .cons h (.cons h2 r) => .cons h (CtL.dropLast (.cons h2 r))
theorem top_ex : ∀ (l : List PyData), l ≠ [] → ∃ top, (∀ y ∈ l, hD y ≤ top) ∧ ∃ y ∈ l, hD y = top
  | [x], _ => ⟨hD x, fun y m => by rw [List.mem_singleton.mp m]; exact Int.le_refl _, x, List.mem_cons_self, rfl⟩
  | x :: z :: r, _ => by
    obtain ⟨t, h1, y, my, ey⟩ := top_ex (z :: r) (by simp)
    by_cases h : hD x ≤ t
    · exact ⟨t, fun w m => by rcases List.mem_cons.mp m with rfl | m; exact h; exact h1 w m, y, List.mem_cons_of_mem _ my, ey⟩
    · exact ⟨hD x, fun w m => by rcases List.mem_cons.mp m with rfl | m; exact Int.le_refl _; have := h1 w m; omega, x, List.mem_cons_self, rfl⟩
theorem bt_sq {K : PySem.W.Frag} {H H' : Hp} {a A W Cc p : Addr} {xs : List V} {rt : VD} {con wai : Sub} (bt : But [A, W] H H') (h : SqL K H a xs) (ch : ChAt Cc K H p A W rt con wai) : SqL K H' a xs := by
  rcases h with (h | h) | h
  · exact .inl (.inl (bt _ _ (fun m => by
      rcases List.mem_cons.mp m with z | m
      · rw [z, ch.ca.at_] at h; cases h
      · rw [List.mem_singleton.mp m, ch.wa.at_] at h; cases h) h))
  · obtain ⟨o, h⟩ := h
    exact .inl (.inr ⟨o, bt _ _ (fun m => by
      rcases List.mem_cons.mp m with z | m
      · rw [z, ch.ca.at_] at h; cases h
      · rw [List.mem_singleton.mp m, ch.wa.at_] at h; cases h) h⟩)
  · exact .inr h
section
variable {P : Program} {w : World} {K : PySem.W.Frag} {mg : Str → Option Value} {base : Heap}
theorem ok_law {C_Ballot : Addr} {C_Chain : Addr} {C_BadBlock : Addr} {f : Addr} {fd : FuncData} (F : L2.Fun K "law" "law" s_law f fd) (T : Txt K mg C_Ballot C_Chain C_BadBlock) : FnOk P w K mg base L2.CX0 8 f fd ["script"] (spLaw K) := by
  have c__law_cell := c__law_cell (P := P) (w := w) (base := base) T
  have c__law_draws := c__law_draws (P := P) (w := w) (base := base) T
  have c__law_build := c__law_build (P := P) (w := w) (K := K) (base := base) T
  have c__law_numbers := c__law_numbers (P := P) (w := w) (K := K) (base := base) T
  have c__law_expected := c__law_expected (P := P) (w := w) (K := K) (base := base) T
  have c_may_vote := c_may_vote (P := P) (w := w) (K := K) (base := base) T
  have k_Chain := k_Chain (P := P) (w := w) (base := base) T
  have k_Ballot := k_Ballot (P := P) (w := w) (base := base) T
  have m_Chain__insert := m_Chain__insert (P := P) (w := w) (K := K) (base := base) T
  have m_Ballot__restore := m_Ballot__restore (P := P) (w := w) (base := base) T
  refine F.ok sc_law (fun vs H Q E h => ?_) (fun cdv A outer s H vs Q E hr h => ?_)
  · obtain ⟨a, ns, rfl, _⟩ := h; rfl
  obtain ⟨a, ns, rfl, hS, hlen, q⟩ := h
  refine ⟨_, (pss_cons (ps_set (i := 1) sc_law.nd rfl (Or.inl rfl) (pe_c c__law_draws hr (by decide) (by rfl) (pa_cons (pv 0) (pa_cons pe_int (pa_cons pe_int pa_nil)))))
      (pss_cons (ps_set (i := 2) sc_law.nd rfl (Or.inl rfl) (pe_c c__law_build hr (by decide) (by rfl) (pa_cons (pv 1) pa_nil)))
      (pss_cons (ps_set (i := 3) sc_law.nd rfl (Or.inl rfl) (pe_mk k_Chain hr (by decide) (by rfl) (pa_cons (pe_tup (pa_cons pe_int (pa_cons pe_int (pa_cons pe_int (pa_cons (pe_tup pa_nil) pa_nil))))) pa_nil)))
      (pss_cons (ps_for PassesOwn.never rfl (pi_list (pv 2)) (pg_name (i := 4) sc_law.nd rfl (Or.inl rfl)) (pss_one (ps_expr (pe_mt m_Chain__insert hr (by decide) (pv 3) (pa_cons (pv 4) pa_nil)))))
      (pss_cons (ps_set (i := 5) sc_law.nd rfl (Or.inl rfl) (pe_c c__law_cell hr (by decide) (by rfl) (pa_cons (pv 0) (pa_cons pe_int pa_nil))))
      (pss_cons (ps_set (i := 6) sc_law.nd rfl (Or.inl rfl) (pe_disp (pps_cons (pe_un un_neg pe_int) (pe_op op_mod (pv 5) pe_int) (pps_cons (pe_un un_neg pe_int) (pe_op op_mod (pe_op op_fdiv (pv 5) pe_int) pe_int) pps_nil)) rfl rfl (by intro z; cases z) (by decide)))
      (pss_cons (ps_set (i := 7) sc_law.nd rfl (Or.inl rfl) (pe_callB cr_sortedPO (by rfl) T.z_sorted (by decide +kernel) (pa_cons (pe_lc (own := [("row", 4)]) (g := gName 4) (by rfl) sc_law.nd (pi_list (pe_op op_cat (pe_lst (pa_cons (pe_tup (pa_cons pe_int (pa_cons pe_int (pa_cons pe_int (pa_cons (pe_tup pa_nil) pa_nil))))) pa_nil)) (pv 2))) (blkOk_by (own := [("row", 4)]) (N := ["script", "draws", "blocks", "chain", "row", "cell", "start", "tops", "parent", "epoch", "numbers", "pick", "commands", "client", "step", "block", "known", "ballot", "floor", "last", "current", "actual"]) (sc := defScope s_law) (by decide +kernel)) (fun _ _ _ _ _ => pg_name (i := 4) sc_law.nd rfl (Or.inl rfl)) (fun _ _ _ _ _ => pts_nil) (fun _ _ _ _ _ => (pe_tup (pa_cons (pe_ix (kixt (K := K)) (pv 4) pe_int (fun _ _ => rfl)) (pa_cons (pe_ix (kixt (K := K)) (pv 4) pe_int (fun _ _ => rfl)) pa_nil))))) pa_nil)))
      (pss_cons (ps_set (i := 8) sc_law.nd rfl (Or.inl rfl) (pe_ix (kixl (K := K)) (pv 7) (pe_un un_neg pe_int) (fun _ _ => rfl)))
      (pss_cut (ps_if (pt_cmpR op_eq (pe_op op_mod (pe_op op_fdiv (pv 5) pe_int) pe_int) pe_int (nomark _)) (pss_one (ps_set (i := 8) sc_law.nd rfl (Or.inl rfl) (pe_ix (kixl (K := K)) (pv 7) (pe_op op_mod (pe_op op_fdiv (pv 5) pe_int) (pe_callB (klen (K := K)) (by rfl) T.z_len (by decide +kernel) (pa_cons (pv 7) pa_nil))) (fun _ _ => rfl)))) pss_nil)
      (pss_cons (ps_set (i := 9) sc_law.nd rfl (Or.inl rfl) (pe_op op_add (pe_op op_add (pe_callB (cr_max rfl) (by rfl) T.z_max (by decide +kernel) (pa_cons (pe_op op_cat (pe_lst (pa_cons pe_int pa_nil)) (pe_lc (own := [("row", 4)]) (g := gName 4) (by rfl) sc_law.nd (pi_list (pv 2)) (blkOk_by (own := [("row", 4)]) (N := ["script", "draws", "blocks", "chain", "row", "cell", "start", "tops", "parent", "epoch", "numbers", "pick", "commands", "client", "step", "block", "known", "ballot", "floor", "last", "current", "actual"]) (sc := defScope s_law) (by decide +kernel)) (fun _ _ _ _ _ => pg_name (i := 4) sc_law.nd rfl (Or.inl rfl)) (fun _ _ _ _ _ => pts_nil) (fun _ _ _ _ _ => (pe_ix (kixt (K := K)) (pv 4) pe_int (fun _ _ => rfl))))) pa_nil)) pe_int) (pe_op op_mod (pe_op op_fdiv (pv 5) pe_int) pe_int)))
      (pss_cons (ps_set (i := 10) sc_law.nd rfl (Or.inl rfl) (pe_c c__law_numbers hr (by decide) (by rfl) (pa_cons (pv 2) (pa_cons (pv 6) (pa_cons (pe_ix (kixt (K := K)) (pv 8) pe_int (fun _ _ => rfl)) pa_nil)))))
      (pss_cons (ps_set (i := 11) sc_law.nd rfl (Or.inl rfl) (pe_c c__law_cell hr (by decide) (by rfl) (pa_cons (pv 0) (pa_cons pe_int pa_nil))))
      (pss_cons (ps_set (i := 12) sc_law.nd rfl (Or.inl rfl) (pe_lst pa_nil))
      (pss_cons (ps_for PassesOwn.never rfl (pi_list (pe_lst (pa_cons (pe_un un_neg pe_int) (pa_cons (pe_un un_neg pe_int) (pa_cons (pe_un un_neg pe_int) pa_nil))))) (pg_name (i := 13) sc_law.nd rfl (Or.inl rfl)) (pss_cons (ps_if (pt_cmpR op_eq (pe_op op_mod (pv 11) pe_int) pe_int (nomark _)) (pss_cons (ps_set (i := 14) sc_law.nd rfl (Or.inl rfl) pe_int)
      (pss_cut (ps_if (pt_cmpR op_eq (pe_op op_mod (pe_op op_fdiv (pv 11) pe_int) pe_int) pe_int (nomark _)) (pss_one (ps_set (i := 14) sc_law.nd rfl (Or.inl rfl) pe_int)) pss_nil)
      (pss_one (ps_expr (pe_bm PySem.F.plainAttrs_list PySem.F.slot_list_append PySem.F.type_list_append mt_append (pv 12) (pa_cons (pe_tup (pa_cons (pv 13) (pa_cons (pe_callB (call_max2 rfl) (by rfl) T.z_max (by decide +kernel) (pa_cons pe_int (pa_cons (pe_op op_add (pe_dget2 (hu1 hr) (pv 10) (pv 13) pe_int ⟨by rfl, by rfl, by rfl, by rfl⟩) (pv 14)) pa_nil))) (pa_cons pe_str pa_nil)))) pa_nil)))))) pss_nil)
      (pss_one (ps_set (i := 11) sc_law.nd rfl (Or.inl rfl) (pe_op op_fdiv (pv 11) pe_int)))))
      (pss_cons (ps_set (i := 15) sc_law.nd rfl (Or.inl rfl) (pe_tup (pa_cons (pv 9) (pa_cons (pe_ix (kixt (K := K)) (pv 8) pe_int (fun _ _ => rfl)) (pa_cons (pe_op op_add (pe_ix (kixt (K := K)) (pv 8) pe_int (fun _ _ => rfl)) pe_int) (pa_cons (pe_callTy call_tuple_of (by rfl) T.z_tuple (by decide +kernel) (pa_cons (pv 12) pa_nil)) pa_nil))))))
      (pss_cut (ps_if (PW.pt (pw_and (pt_cmpR op_eq (pe_op op_mod (pe_op op_fdiv (pv 5) pe_int) pe_int) pe_int (nomark _)) (pw_and1 (pt_cmpR op_gt (pe_ix (kixt (K := K)) (pv 8) pe_int (fun _ _ => rfl)) pe_int (nomark _))))) (pss_one (ps_set (i := 15) sc_law.nd rfl (Or.inl rfl) (pe_tup (pa_cons (pv 9) (pa_cons (pe_ix (kixt (K := K)) (pv 8) pe_int (fun _ _ => rfl)) (pa_cons (pe_callB (call_max2 rfl) (by rfl) T.z_max (by decide +kernel) (pa_cons pe_int (pa_cons (pe_ix (kixt (K := K)) (pv 8) pe_int (fun _ _ => rfl)) pa_nil))) (pa_cons (pe_callTy call_tuple_of (by rfl) T.z_tuple (by decide +kernel) (pa_cons (pv 12) pa_nil)) pa_nil))))))) pss_nil)
      (pss_cons (ps_set (i := 16) sc_law.nd rfl (Or.inl rfl) (pe_callTy call_list_of (by rfl) T.z_list (by decide +kernel) (pa_cons (pv 12) pa_nil)))
      (pss_cut (ps_if (PW.pt (pw_and (pt_cmpR op_eq (pe_op op_mod (pe_op op_fdiv (pv 5) pe_int) pe_int) pe_int (nomark _)) (pw_and1 (pt_cmpR op_gt (pe_callB (klen (K := K)) (by rfl) T.z_len (by decide +kernel) (pa_cons (pv 16) pa_nil)) pe_int (nomark _))))) (pss_one (ps_expr (pe_bm0 PySem.F.plainAttrs_list PySem.F.slot_list_pop PySem.F.type_list_pop mt_pop (pv 16)))) pss_nil)
      (pss_cons (ps_expr (pe_bm PySem.F.plainAttrs_list PySem.F.slot_list_append PySem.F.type_list_append mt_append (pv 16) (pa_cons (pe_tup (pa_cons (pe_un un_neg pe_int) (pa_cons pe_int (pa_cons pe_str pa_nil)))) pa_nil)))
      (pss_cons (ps_set (i := 17) sc_law.nd rfl (Or.inl rfl) (pe_mk k_Ballot hr (by decide) (by rfl) (pa_cons (pe_lst pa_nil) pa_nil)))
      (pss_cons (ps_set (i := 18) sc_law.nd rfl (Or.inl rfl) (pe_callB (call_max2 rfl) (by rfl) T.z_max (by decide +kernel) (pa_cons pe_int (pa_cons (pe_op op_add (pe_op op_sub (pe_ix (kixt (K := K)) (pv 8) pe_int (fun _ _ => rfl)) pe_int) (pe_op op_mod (pe_op op_fdiv (pv 5) pe_int) pe_int)) pa_nil))))
      (pss_cons (ps_set (i := 19) sc_law.nd rfl (Or.inl rfl) (pe_callB (call_max2 rfl) (by rfl) T.z_max (by decide +kernel) (pa_cons pe_int (pa_cons (pe_op op_add (pe_op op_sub (pv 9) pe_int) (pe_op op_mod (pe_op op_fdiv (pv 5) pe_int) pe_int)) pa_nil))))
      (pss_cons (ps_expr (pe_mt m_Ballot__restore hr (by decide) (pv 17) (pa_cons (pv 19) (pa_cons (pv 18) pa_nil))))
      (pss_cons (ps_set (i := 20) sc_law.nd rfl (Or.inl rfl) (pe_op op_add (pv 9) (pe_op op_fdiv (pe_op op_mod (pe_op op_fdiv (pv 5) pe_int) pe_int) pe_int)))
      (pss_cons (ps_set (i := 21) sc_law.nd rfl (Or.inl rfl) (pe_c c_may_vote hr (by decide) (by rfl) (pa_cons (pv 15) (pa_cons (pv 20) (pa_cons (pv 3) (pa_cons (pv 17) (pa_cons (pv 16) (pa_cons (pv 6) pa_nil))))))))
      (pss_cons (ps_if (pt_val (pe_c c__law_expected hr (by decide) (by rfl) (pa_cons (pv 15) (pa_cons (pv 20) (pa_cons (pv 2) (pa_cons (pv 19) (pa_cons (pv 18) (pa_cons (pv 16) (pa_cons (pv 6) pa_nil))))))))) (pss_one (ps_ret (pe_cmpR op_is_bl (pv 21) pe_bl (nomark _)))) pss_nil)
      (pss_one (ps_ret (pe_cmpR op_is_bl (pv 21) pe_bl (nomark _)))))))))))))))))))))))))))))), ?_⟩
  walk_at "rds"
  refine ⟨a, ns, 2, 10, rfl, hS, hlen, fun H1 D ds s1 fD hD hds lds => ?_⟩
  walk_at "rds"
  refine ⟨D, ds, rfl, hD, fun d m => (hds d m).1, lds, fun H2 B bs s2 fB hB okb gr lb => ?_⟩
  have sq2 := (s1.trans s2).seq hS
  clear s1 s2 hD fD
  walk_at "rds"
  intro t1 ht1
  walk_at "rds"
  intro t2 ht2
  have sm := (same_upd (o := .tup []) ht1).trans (same_upd (o := .tup [.int 0, .int 0, .int 0, .ref t1]) ht2)
  have okr : OkB K (upd (upd H2 t1 (.tup [])) t2 (.tup [.int 0, .int 0, .int 0, .ref t1])) (.ref t2, rtD) :=
    rt_ok (t := t2) (.tup (.inl upd_same) (.cons (.int _) (.cons (.int _) (.cons (.int _) (.cons ((Dt.tup (.inl upd_same) .nil : Dt K (upd H2 t1 (.tup [])) none (.ref t1) (.tuple [])).on (same_upd ht2)) .nil)))))
  generalize upd (upd H2 t1 (.tup [])) t2 (.tup [.int 0, .int 0, .int 0, .ref t1]) = H3 at sm okr
  have sq3 := sm.seq sq2
  have hB3 := sm _ _ hB
  have okb3 : ∀ b ∈ bs, OkB K H3 b := fun b m => (okb b m).on sm
  clear ht2 ht1 t1 sm okb hB sq2
  walk_at "rds"
  intro p dx hp hdx npd
  have s7a := same_upd (o := .own p) hdx
  have hp1 : upd H3 dx (.own p) p = none := by rw [upd_ne npd.symm]; exact hp
  have s7 := s7a.trans (same_upd (o := .ins C_Chain dx []) hp1)
  have e7 : upd (upd H3 dx (.own p)) p (.ins C_Chain dx []) p = some (.ins C_Chain dx []) := upd_same
  generalize upd (upd H3 dx (.own p)) p (.ins C_Chain dx []) = H7 at s7 e7
  refine ⟨p, dx, (.ref t2, rtD), rfl, e7, okr.on s7, fun H8 A W k8 fA fW ch0 => ?_⟩
  have s8 : Same H3 H8 := fun b o e => k8 b o (s7 b o e) (fun z => by rw [z, hp] at e; cases e)
  have fA6 := same_none s7 fA
  have fW6 := same_none s7 fW
  refine ⟨rfl, ?_⟩
  have eB8 := s8 _ _ hB3
  have okb8 : ∀ b ∈ bs, OkB K H8 b := fun b m => (okb3 b m).on s8
  have nBA : B ≠ A := ne_of_none hB3 fA6
  have nBW : B ≠ W := ne_of_none hB3 fW6
  have sq8 := s8.seq sq3
  clear k8 s8 e7 s7 s7a hp1 hB3 okb3 okr sq3
  walk_at "rds"
  refine ⟨⟨_, sq eB8⟩, ?_⟩
  have md : ∀ y ∈ (V.ref t2, rtD) :: bs, y.2 ∈ rtD :: bs.map (·.2) := fun y my => by
    rcases List.mem_cons.mp my with rfl | my
    · exact List.mem_cons_self
    · exact List.mem_cons_of_mem _ (List.mem_map_of_mem (f := fun y : VD => y.2) my)
  have tpk : ∀ {H' : Hp}, But [A, W] H8 H' → Tp H8 H' := fun {H'} bt b xs e => bt b _ (fun m => by
    rcases List.mem_cons.mp m with z | m
    · rw [z, ch0.ca.at_] at e; cases e
    · rw [List.mem_singleton.mp m, ch0.wa.at_] at e; cases e) e
  have lbs : bs.length ≤ 10 := lb
  refine for_it (walk_list (K := K) (a := B) (xs := bs.map (·.1))) (Pv := fun i σ H' => ∃ y4, σ = [some (V.ref a), some (V.ref D), some (V.ref B), some (V.ref p), y4, none, none, none, none, none, none, none, none, none, none, none, none, none, none, none, none, none] ∧ But [A, W] H8 H' ∧ ChAt C_Chain K H' p A W (.ref t2, rtD) (conB (.ref t2, rtD) (bs.take i)) []) ⟨none, rfl, fun _ _ _ e => e, ch0⟩ (fun i σ H' _ h => by obtain ⟨_, _, bt, _⟩ := h; exact sq (bt B _ (by simp [nBA, nBW]) eB8)) (fun i x σ Ha Hb hi hp hy => ?_) (fun σ Ha hp => ?_)
  · obtain ⟨y4, rfl, bt, ch⟩ := hp
    obtain ⟨rfl, gx⟩ := hy
    rw [List.length_map] at hi
    have gb : bs[i]? = some bs[i] := List.getElem?_eq_getElem hi
    rw [List.getElem?_map, gb] at gx
    obtain rfl : bs[i].1 = x := Option.some.inj gx
    have mb : bs[i] ∈ bs := List.getElem_mem hi
    generalize bs[i] = b at gb mb
    obtain ⟨ha1, pp, hpm, hp1, hp2⟩ := gr.at_ (i := i) (b := b.2) (by rw [List.getElem?_map, gb]; rfl)
    obtain ⟨lb1, lb2, lb3⟩ := gr.law b.2 (List.mem_map_of_mem (f := fun y : VD => y.2) mb)
    have okb' := (okb8 b mb).tp (tpk bt)
    obtain ⟨dx1, gp1⟩ := ch.ins
    walk_at "rds"
    refine ⟨p, dx1, _, rfl, gp1, rfl, ?_⟩
    walk_at "rds"
    refine ⟨p, A, W, _, b, _, [], rfl, ch, okb', Nat.zero_lt_succ _, ?_, fun _ m => (nomatch m), fun Hc l zs con' wai' out ir btc frc ch' hl el pz pw => ?_⟩
    · unfold conB; rw [List.length_map, List.length_cons, List.length_take]; show _ + 0 ≤ 800; omega
    have subm : ∀ y ∈ (V.ref t2, rtD) :: bs.take i, y ∈ (V.ref t2, rtD) :: bs := fun y m => by
      rcases List.mem_cons.mp m with rfl | m
      · exact List.mem_cons_self
      · exact List.mem_cons_of_mem _ (List.mem_of_mem_take m)
    have inm : ∀ y ∈ (V.ref t2, rtD) :: bs.take i, y.2 ∈ rtD :: (bs.map (·.2)).take i := fun y m => by
      rcases List.mem_cons.mp m with rfl | m
      · exact List.mem_cons_self
      · exact List.mem_cons_of_mem _ (by rw [← List.map_take]; exact List.mem_map_of_mem (f := fun y : VD => y.2) m)
    have epp : ∃ p ∈ (V.ref t2, rtD) :: bs.take i, nD b.2 = eD p.2 ∧ hD b.2 = hD p.2 + 1 := by
      rcases List.mem_cons.mp hpm with rfl | hpm
      · exact ⟨_, List.mem_cons_self, hp1, hp2⟩
      · rw [← List.map_take] at hpm
        obtain ⟨y, my, rfl⟩ := List.mem_map.mp hpm
        exact ⟨y, List.mem_cons_of_mem _ my, hp1, hp2⟩
    obtain ⟨e1, e2⟩ := ins_step (rt := (V.ref t2, rtD)) rfl lb3 (fun y m => ha1 _ (inm y m)) epp (fun x mx y my e => gr.uniq _ (md x (subm x mx)) _ (md y (subm y my)) e) ir
    subst e1 e2
    have tk : bs.take (i + 1) = bs.take i ++ [b] := by rw [List.take_add_one, gb]; rfl
    walk_at "rds"
    exact ⟨_, rfl, fun x o n e => btc x o n (bt x o n e), by rw [tk]; exact ch'⟩
  obtain ⟨y4, rfl, bt, ch⟩ := hp
  rw [List.length_map, List.take_of_length_le (Nat.le_refl _)] at ch
  have eB9 := bt B _ (by simp [nBA, nBW]) eB8
  have okb9 : ∀ b ∈ bs, OkB K Ha b := fun b m => (okb8 b m).tp (tpk bt)
  have sq9 : SqL K Ha a (ns.map V.int) := bt_sq bt sq8 ch0
  have isbs : ∀ d ∈ rtD :: bs.map (·.2), IsB d := fun d m => by
    rcases List.mem_cons.mp m with rfl | m
    · exact rt_isb
    · exact (gr.law d m).1.isb
  clear ch0 bt sq8 okb8 eB8 fA fA6 fW fW6 nBA nBW tpk
  generalize hrt : V.ref t2 = rv at ch md
  clear hrt
  walk_at "rds"
  refine ⟨a, ns, 0, rfl, sq9, ?_⟩
  have hc0 := cellA_nonneg ns 0
  generalize cellA ns 0 = c at hc0
  walk_at "rds"
  intro S hSn
  walk_at "rds"
  refine ⟨upd_same, [(Sum.inl (-1), .int (c % 4)), (Sum.inl (-2), .int (c / 4 % 4))], rfl, (by show 2 ≤ 15; decide), ?_⟩
  have em : mergeK [] [((Sum.inl (-1) : Key), V.int (c % 4)), (Sum.inl (-2), .int (c / 4 % 4))] = [((-1 : Int), c % 4), (-2, c / 4 % 4)].map ndK := rfl
  rw [em]
  have s10 : Same Ha (upd (upd Ha S (.dK [])) S (.dK ([((-1 : Int), c % 4), (-2, c / 4 % 4)].map ndK))) := same_mut (same_upd hSn) hSn
  have eS : Nd (upd (upd Ha S (.dK [])) S (.dK ([((-1 : Int), c % 4), (-2, c / 4 % 4)].map ndK))) S [((-1 : Int), c % 4), (-2, c / 4 % 4)] := upd_same
  generalize upd (upd Ha S (.dK [])) S (.dK ([((-1 : Int), c % 4), (-2, c / 4 % 4)].map ndK)) = H10 at s10 eS
  have sks : SmN [((-1 : Int), c % 4), (-2, c / 4 % 4)] := fun k m => by
    simp only [List.mem_cons, List.not_mem_nil, or_false] at m
    rcases m with rfl | rfl
    · show c % 4 ≤ 9; omega
    · show c / 4 % 4 ≤ 9; omega
  have lks : [((-1 : Int), c % 4), (-2, c / 4 % 4)].length ≤ 100 := by show 2 ≤ 100; decide
  generalize [((-1 : Int), c % 4), (-2, c / 4 % 4)] = ks at eS sks lks
  have ch10 := ch.on s10
  have sq10 := s10.seq sq9
  have eB10 := s10 _ _ eB9
  have okb10 : ∀ b ∈ bs, OkB K H10 b := fun b m => (okb9 b m).on s10
  clear s10 ch sq9 eB9 okb9 em hSn
  walk_at "rds"
  intro t1 ht1
  walk_at "rds"
  intro t3 ht3
  walk_at "rds"
  intro l3 hl3
  obtain ⟨s3, okr⟩ := root_new (K := K) ht1 ht3 hl3
  have el1 : upd (upd (upd H10 t1 (.tup [])) t3 (.tup [.int 0, .int 0, .int 0, .ref t1])) l3 (.lst [.ref t3]) l3 = some (.lst [.ref t3]) := upd_same
  generalize upd (upd (upd H10 t1 (.tup [])) t3 (.tup [.int 0, .int 0, .int 0, .ref t1])) l3 (.lst [.ref t3]) = H11 at s3 okr el1
  clear hl3 ht3 ht1 t1
  walk_at "rds"
  refine ⟨l3, B, _, _, rfl, rfl, el1, s3 _ _ eB10, sz1000 (by rw [List.length_map, List.length_singleton]; omega), ?_⟩
  intro l4 hl4
  have s4 := same_upd (o := .lst ([.ref t3] ++ bs.map (·.1))) hl4
  have el2 : upd H11 l4 (.lst ([.ref t3] ++ bs.map (·.1))) l4 = some (.lst (((V.ref t3, rtD) :: bs).map (·.1))) := upd_same
  have s34 := s3.trans s4
  have okr := okr.on s4
  generalize upd H11 l4 (.lst ([.ref t3] ++ bs.map (·.1))) = H12 at s4 el2 s34 okr
  have dts : DtAll K H12 none (((V.ref t3, rtD) :: bs).map (·.1)) (rtD :: bs.map (·.2)) := .cons okr.dt (vd_all fun y my => (okb10 y my).dt.on s34)
  obtain ⟨pds, hpds⟩ : ∃ pds, rtD :: bs.map (·.2) = pds := ⟨_, rfl⟩
  have lpd : pds.length ≤ 11 := by rw [← hpds, List.length_cons, List.length_map]; omega
  rw [hpds] at dts
  have isb' : ∀ d ∈ pds, IsB d := fun d m => isbs d (by rw [hpds]; exact m)
  walk_at "rds"
  refine ⟨⟨_, sq el2⟩, fun G hG => ?_⟩
  refine lc_it (walk_list (K := K) (a := l4) (xs := ((V.ref t3, rtD) :: bs).map (·.1))) (Pv := fun i H' => Same H12 H' ∧ ∃ xs, H' G = some (.lst xs) ∧ PrL H' xs ((pds.take i).map fun d => (hD d, eD d))) ⟨same_upd hG, [], upd_same, .nil⟩ (fun i H' _ h => sq (h.1 _ _ el2)) (fun i x Hx Hy hi hp hy => ?_) (fun H13 hp => ?_)
  · obtain ⟨rfl, gx⟩ := hy
    obtain ⟨sx, xs, hx, pk⟩ := hp
    obtain ⟨d, gd, hdx⟩ := dts.get gx
    obtain ⟨pa, r, rfl, hta⟩ := OkB.dt4 (hdx.on sx) (isb' d (List.mem_of_getElem? gd))
    refine ⟨rfl, ?_⟩
    walk_at "rds"
    refine ⟨pa, _, 2, _, rfl, rfl, hta.sq, atI_nat (j := 2) rfl, ?_⟩
    walk_at "rds"
    refine ⟨pa, _, 0, _, rfl, rfl, hta.sq, atI_nat (j := 0) rfl, ?_⟩
    walk_at "rds"
    intro t ht
    have sv := same_upd (o := .tup [.int (hD d), .int (eD d)]) ht
    have ev : upd Hy t (.tup [.int (hD d), .int (eD d)]) t = some (.tup [.int (hD d), .int (eD d)]) := upd_same
    generalize upd Hy t (.tup [.int (hD d), .int (eD d)]) = Hz at sv ev
    have hiL : i < pds.length := (List.getElem?_eq_some_iff.mp gd).1
    refine ⟨xs, sv _ _ hx, sz1000' (by rw [pk.length, List.length_map, List.length_take]; omega), same_mut (sx.trans sv) hG, xs ++ [.ref t], upd_same, ?_⟩
    rw [List.take_add_one, gd, List.map_append]
    exact ((pk.on sv).snoc (a := hD d) (b := eD d) ev).tp (tp_put (sv _ _ hx))
  obtain ⟨s13, xs, hG13, pk⟩ := hp
  rw [dts.length, List.take_of_length_le (Nat.le_refl _)] at pk
  have s313 := s34.trans s13
  walk_at "rds"
  refine ⟨G, xs, prK H13, rfl, sq hG13, pk.mem, fun zs O srt stb hO => ?_⟩
  obtain ⟨qs, pq, pm, _⟩ := pk.sorted srt stb
  have s14 := same_upd (o := .lst zs) hO
  have eO : upd H13 O (.lst zs) O = some (.lst zs) := upd_same
  have s314 := s313.trans s14
  have pq := pq.on s14
  generalize upd H13 O (.lst zs) = H14 at s314 eO pq
  have ch14 := ch10.on s314
  have sq14 := s314.seq sq10
  have eB14 := s314 _ _ eB10
  have okb14 : ∀ b ∈ bs, OkB K H14 b := fun b m => (okb10 b m).on s314
  have eS14 : Nd H14 S ks := s314 _ _ eS
  have qpd : ∀ y ∈ qs, ∃ d ∈ pds, y = (hD d, eD d) := fun y m => by
    obtain ⟨d, md, e⟩ := List.mem_map.mp (pm.mem_iff.mp m)
    exact ⟨d, md, e.symm⟩
  have lqs : qs.length = bs.length + 1 := by rw [pm.length_eq, List.length_map, ← hpds, List.length_cons, List.length_map]
  have lzs : zs.length = bs.length + 1 := by rw [pq.length, lqs]
  clear s314 s14 hO srt stb pm pk hG13 s313 s13 dts okr s34 s4 el2 el1 s3 sq10 eB10 okb10 eS ch10 hG hl4
  walk_at "rds"
  obtain ⟨zs', v0, ezs⟩ : ∃ zs' v0, zs = zs' ++ [v0] := by
    rcases List.eq_nil_or_concat zs with h | ⟨l, x, h⟩
    · rw [h] at lzs; cases lzs
    · exact ⟨l, x, by rw [h, List.concat_eq_append]⟩
  refine ⟨O, _, (-1 : Int), v0, rfl, rfl, sq eO, by rw [ezs]; exact atI_last _ _, ?_⟩
  refine ⟨fun σ' H' => ∃ (pt : Addr) (pd : PyData), pd ∈ pds ∧ H14 pt = some (.tup [.int (hD pd), .int (eD pd)]) ∧ σ' = [some (V.ref a), some (V.ref D), some (V.ref B), some (V.ref p), y4, some (V.int c), some (V.ref S), some (V.ref O), some (V.ref pt), none, none, none, none, none, none, none, none, none, none, none, none, none] ∧ H' = H14, ?_, ?_⟩
  · have pick : ∀ v ∈ zs, ∃ (pt : Addr) (pd : PyData), pd ∈ pds ∧ H14 pt = some (.tup [.int (hD pd), .int (eD pd)]) ∧ v = .ref pt := fun v m => by
      obtain ⟨i, gi⟩ := List.getElem?_of_mem m
      obtain ⟨t, pr, rfl, gq, ht⟩ := pq.at_ gi
      obtain ⟨d, md, rfl⟩ := qpd pr (List.mem_of_getElem? gq)
      exact ⟨t, d, md, ht, rfl⟩
    walk_at "rds"
    refine ite2 (fun z => ?_) (fun z => ?_)
    · walk_at "rds"
      refine ⟨O, _, rfl, .inl (sq eO), ?_⟩
      walk_at "rds"
      rw [lzs]
      obtain ⟨v, mv, gv⟩ := atI_lt (xs := zs) (i := c / 80 % ((bs.length + 1 : Nat) : Int)) (Int.emod_nonneg _ (by omega)) (by rw [lzs]; exact Int.emod_lt_of_pos _ (by omega))
      refine ⟨O, _, _, v, rfl, rfl, sq eO, gv, ?_⟩
      obtain ⟨pt, pd, m1, m2, rfl⟩ := pick v mv
      exact ⟨pt, pd, m1, m2, rfl, rfl⟩
    · obtain ⟨pt, pd, m1, m2, rfl⟩ := pick v0 (by rw [ezs]; simp)
      exact ⟨pt, pd, m1, m2, rfl, rfl⟩
  rintro σ' Hc ⟨pt, pd, mpd, hpt, rfl, eH⟩
  obtain rfl := eH.symm
  walk_at "rds"
  intro z0 hz0
  have u0 := same_upd (o := .lst [.int 0]) hz0
  have ez0 : upd H14 z0 (.lst [.int 0]) z0 = some (.lst [.int 0]) := upd_same
  generalize upd H14 z0 (.lst [.int 0]) = H15 at u0 ez0
  have dts5 : DtAll K H15 none (bs.map (·.1)) (bs.map (·.2)) := vd_all fun y my => (okb14 y my).dt.on u0
  walk_at "rds"
  refine ⟨⟨_, sq (u0 _ _ eB14)⟩, fun G2 hG2 => ?_⟩
  refine lc_list_dt (K := K) hG2 (sq (u0 _ _ eB14)) dts5 (by rw [List.length_map]; omega) (fun d => some (.int (eD d))) (fun d e0 md he => by cases he; rfl) (fun x d H7 md s7 hdx R0 R1 r1 r2 => ?_) (fun H16 xs2 s16 hG16 hx16 => ?_)
  · obtain ⟨pa, r, rfl, hta⟩ := OkB.dt4 hdx (isbs d (List.mem_cons_of_mem _ md))
    refine ⟨rfl, ?_⟩
    walk_at "rds"
    refine ⟨pa, _, 0, _, rfl, rfl, hta.sq, atI_nat (j := 0) rfl, ?_⟩
    exact r1 _ rfl _ H7 (Same.refl _) (.int _)
  rw [show (bs.map (·.2)).filterMap (fun d => some (PyData.int (eD d))) = ((bs.map (·.2)).map eD).map PyData.int by rw [List.map_map (l := bs.map (·.2))]; exact congrFun List.filterMap_eq_map _] at hx16
  have ex2 := dt_ints hx16
  subst ex2
  have u16 := u0.trans s16
  walk_at "rds"
  refine ⟨z0, G2, _, _, rfl, rfl, s16 _ _ ez0, hG16, sz1000 (by simp only [List.length_map, List.length_singleton]; omega), ?_⟩
  intro c2 hc2
  have u17 := same_upd (o := .lst ([V.int 0] ++ ((bs.map (·.2)).map eD).map V.int)) hc2
  have ec2 : upd H16 c2 (.lst ([V.int 0] ++ ((bs.map (·.2)).map eD).map V.int)) c2 = some (.lst ((0 :: (bs.map (·.2)).map eD).map V.int)) := upd_same
  have s1417 := u16.trans u17
  generalize upd H16 c2 (.lst ([V.int 0] ++ ((bs.map (·.2)).map eD).map V.int)) = H17 at ec2 s1417
  walk_at "rds"
  refine ⟨c2, _, rfl, sq ec2, Nat.zero_lt_succ _, fun mxe _ _ => ?_⟩
  walk_at "rds"
  have ch17 := ch14.on s1417
  have sq17 := s1417.seq sq14
  have eB17 := s1417 _ _ eB14
  have okb17 : ∀ b ∈ bs, OkB K H17 b := fun b m => (okb14 b m).on s1417
  have eS17 : Nd H17 S ks := s1417 _ _ eS14
  have hpt17 := s1417 _ _ hpt
  clear s1417 u17 ec2 hx16 s16 hG16 u16 u0 ez0 dts5 ch14 sq14 eB14 okb14 eS14 hpt hc2 hG2 hz0
  refine ⟨pt, _, 1, _, rfl, rfl, SqT.of hpt17, atI_nat (j := 1) rfl, ?_⟩
  obtain ⟨pds2, pth, lpth⟩ := gr.path pd (by rw [hpds]; exact mpd)
  have lds2 : pds2.length ≤ 10 := by rw [List.length_map] at lpth; omega
  refine ⟨B, S, bs, ks, eD pd, pds2, rfl, eB17, okb17, fun b m => (gr.law _ (List.mem_map_of_mem (f := fun y : VD => y.2) m)).1, lbs, eS17, lks, pth, lds2, fun Nn H18 fN s18 hN => ?_⟩
  have lawpath : ∀ b ∈ pds2.reverse, LawB b := fun b m => (gr.law _ (pth.mem b (List.mem_reverse.mp m))).1
  have snk := alongN_sm pds2.reverse sks lawpath
  have ch18 := ch17.on s18
  have sq18 := s18.seq sq17
  have eB18 := s18 _ _ eB17
  have okb18 : ∀ b ∈ bs, OkB K H18 b := fun b m => (okb17 b m).on s18
  have eS18 : Nd H18 S ks := s18 _ _ eS17
  have hpt18 := s18 _ _ hpt17
  clear s18 ch17 sq17 eB17 okb17 eS17 hpt17 fN
  walk_at "rds"
  refine ⟨a, ns, 1, rfl, sq18, ?_⟩
  have hk0 := cellA_nonneg ns 1
  generalize cellA ns 1 = pk0 at hk0
  walk_at "rds"
  intro C hC
  have u1 := same_upd (o := .lst []) hC
  have eC : upd H18 C (.lst []) C = some (.lst []) := upd_same
  generalize upd H18 C (.lst []) = H19 at u1 eC
  walk_at "rds"
  intro L hL
  have nCL : C ≠ L := ne_of_none eC hL
  have u2 := u1.trans (same_upd (o := .lst [.int (-3), .int (-2), .int (-1)]) hL)
  have eL : upd H19 L (.lst [.int (-3), .int (-2), .int (-1)]) L = some (.lst [.int (-3), .int (-2), .int (-1)]) := upd_same
  have eC2 : upd H19 L (.lst [.int (-3), .int (-2), .int (-1)]) C = some (.lst []) := by rw [upd_ne nCL]; exact eC
  generalize upd H19 L (.lst [.int (-3), .int (-2), .int (-1)]) = H20 at u2 eL eC2
  walk_at "rds"
  refine ⟨⟨_, sq eL⟩, ?_⟩
  obtain ⟨nk, hnk⟩ : ∃ nk, alongN ks pds2.reverse = nk := ⟨_, rfl⟩
  rw [hnk] at hN snk
  refine for_it (walk_list (K := K) (a := L) (xs := [.int (-3), .int (-2), .int (-1)])) (Pv := fun i σ H' => ∃ k y13 y14 xs cs, σ = [some (V.ref a), some (V.ref D), some (V.ref B), some (V.ref p), y4, some (V.int c), some (V.ref S), some (V.ref O), some (V.ref pt), some (V.int (mxe + 1 + c / 16 % 2)), some (V.ref Nn), some (V.int k), some (V.ref C), y13, y14, none, none, none, none, none, none, none] ∧ 0 ≤ k ∧ Same H18 H' ∧ H' L = some (.lst [.int (-3), .int (-2), .int (-1)]) ∧ H' C = some (.lst xs) ∧ CtL H' xs cs ∧ (∀ x ∈ cs, dCmd (ctD x) = true) ∧ cs.length ≤ i) ⟨pk0, none, none, [], [], rfl, hk0, u2, eL, eC2, .nil, (fun _ m => nomatch m), Nat.le_refl _⟩ (fun i σ H' _ h => by obtain ⟨_, _, _, _, _, _, _, _, h, _⟩ := h; exact sq h) (fun i x σ Hx Hy hi hp' hy => ?_) (fun σ H21 hp' => ?_)
  · obtain ⟨k, y13, y14, xs, cs, rfl, hk, sm, hl, hc, hx, gc, hlen⟩ := hp'
    obtain ⟨rfl, gx⟩ := hy
    have hx3 : ∃ c : Int, x = .int c ∧ -100 ≤ c ∧ c ≤ -1 := by
      match i, gx with
      | 0, gx => cases gx; exact ⟨-3, rfl, by decide, by decide⟩
      | 1, gx => cases gx; exact ⟨-2, rfl, by decide, by decide⟩
      | 2, gx => cases gx; exact ⟨-1, rfl, by decide, by decide⟩
    obtain ⟨cl, rfl, c0, c1⟩ := hx3
    have hi3 : i < 3 := hi
    walk_at "rds"
    refine ite2 (fun e => ?_) (fun e => ?_)
    · walk_at "rds"
      refine ⟨fun σ' H' => ∃ st : Int, 0 ≤ st ∧ st ≤ 1 ∧ σ' = [some (V.ref a), some (V.ref D), some (V.ref B), some (V.ref p), y4, some (V.int c), some (V.ref S), some (V.ref O), some (V.ref pt), some (V.int (mxe + 1 + c / 16 % 2)), some (V.ref Nn), some (V.int k), some (V.ref C), some (V.int cl), some (V.int st), none, none, none, none, none, none, none] ∧ H' = Hy, ?_, ?_⟩
      · walk_at "rds"
        refine ite2 (fun _ => ?_) (fun _ => ?_)
        · walk_at "rds"
          exact ⟨0, by decide, by decide, rfl, rfl⟩
        · exact ⟨1, by decide, by decide, rfl, rfl⟩
      rintro σ' Hc ⟨st, st0, st1, rfl, eH⟩
      obtain rfl := eH.symm
      walk_at "rds"
      refine ⟨.inl ⟨rfl, _, sq hc⟩, ?_⟩
      walk_at "rds"
      refine ⟨.inl ⟨_, .inl (sm _ _ hN)⟩, ?_⟩
      walk_at "rds"
      refine ⟨_, DGet.k (k := Sum.inl cl) (sm _ _ hN), ?_⟩
      rw [nd_val]
      have eg : ((ndOpt nk cl).map V.int).getD (.int 0) = .int (ndGet nk cl) := by
        unfold ndGet
        cases ndOpt nk cl <;> rfl
      rw [eg]
      have hg := ndGet_sm snk cl
      walk_at "rds"
      refine ⟨_, _, rfl, ?_⟩
      obtain ⟨nn, hnn⟩ : ∃ nn, (if ndGet nk cl + st > 1 then ndGet nk cl + st else 1) = nn := ⟨_, rfl⟩
      have hn1 : 1 ≤ nn ∧ nn ≤ 10 := by rw [← hnn]; split <;> omega
      rw [hnn]
      walk_at "rds"
      intro t ht
      have s3 := same_upd (o := .tup [.int cl, .int nn, .str (Str.ofString "get a")]) ht
      have et : upd Hy t (.tup [.int cl, .int nn, .str (Str.ofString "get a")]) t = some (.tup [.int cl, .int nn, .str (Str.ofString "get a")]) := upd_same
      generalize upd Hy t (.tup [.int cl, .int nn, .str (Str.ofString "get a")]) = H3 at s3 et
      have hc3 := s3 _ _ hc
      walk_at "rds"
      refine ⟨C, xs, _, rfl, rfl, hc3, sz1000' (by rw [hx.length]; omega), ?_⟩
      have hx4 := (CtL.snoc (c := (cl, nn, Str.ofString "get a")) et (hx.on s3)).put (ys := xs ++ [.ref t]) hc3
      have g4 : dCmd (ctD (cl, nn, Str.ofString "get a")) = true := ct_good ⟨c0, c1⟩ ⟨by omega, by omega⟩ (by decide +kernel) (by decide +kernel)
      have eL4 : upd H3 C (.lst (xs ++ [.ref t])) L = some (.lst [.int (-3), .int (-2), .int (-1)]) := by rw [upd_ne nCL.symm]; exact s3 _ _ hl
      walk_at "rds"
      refine ⟨_, _, _, xs ++ [.ref t], cs ++ [(cl, nn, Str.ofString "get a")], rfl, by omega, same_mut (sm.trans s3) hC, eL4, upd_same, hx4, fun x m => ?_, by rw [List.length_append, List.length_singleton]; omega⟩
      rcases List.mem_append.mp m with m | m
      · exact gc x m
      · rw [List.mem_singleton.mp m]; exact g4
    · walk_at "rds"
      exact ⟨_, _, _, xs, cs, rfl, by omega, sm, hl, hc, hx, gc, by omega⟩
  obtain ⟨k, y13, y14, xs, cs, rfl, hk, sm, hl, hc, hx, gc, hlen⟩ := hp'
  generalize mxe + 1 + c / 16 % 2 = be
  have lcs : cs.length ≤ 3 := hlen
  have ch21 := ch18.on sm
  have sq21 := sm.seq sq18
  have eB21 := sm _ _ eB18
  have okb21 : ∀ b ∈ bs, OkB K H21 b := fun b m => (okb18 b m).on sm
  have eS21 : Nd H21 S ks := sm _ _ eS18
  have hpt21 := sm _ _ hpt18
  clear sm ch18 sq18 eB18 okb18 eS18 hpt18 hN hl eL eC2 u2 eC u1
  walk_at "rds"
  refine ⟨pt, _, 1, _, rfl, rfl, SqT.of hpt21, atI_nat (j := 1) rfl, ?_⟩
  walk_at "rds"
  refine ⟨pt, _, 0, _, rfl, rfl, SqT.of hpt21, atI_nat (j := 0) rfl, ?_⟩
  walk_at "rds"
  refine ⟨C, xs, rfl, .inl ⟨sq hc, fun tc htc => ?_⟩⟩
  have v1 := same_upd (o := .tup xs) htc
  have etc : upd H21 tc (.tup xs) tc = some (.tup xs) := upd_same
  generalize upd H21 tc (.tup xs) = H22 at v1 etc
  walk_at "rds"
  intro b1 hb1
  have v2 := v1.trans (same_upd (o := .tup [.int be, .int (eD pd), .int (hD pd + 1), .ref tc]) hb1)
  have eb1 : upd H22 b1 (.tup [.int be, .int (eD pd), .int (hD pd + 1), .ref tc]) b1 = some (.tup [.int be, .int (eD pd), .int (hD pd + 1), .ref tc]) := upd_same
  have etc1 := (same_upd (o := .tup [.int be, .int (eD pd), .int (hD pd + 1), .ref tc]) hb1) _ _ etc
  generalize upd H22 b1 (.tup [.int be, .int (eD pd), .int (hD pd + 1), .ref tc]) = H23 at v2 eb1 etc1
  clear v1 etc hb1 htc
  refine ⟨fun σ' H' => ∃ (bk tc : Addr) (bh : Int), σ' = [some (V.ref a), some (V.ref D), some (V.ref B), some (V.ref p), y4, some (V.int c), some (V.ref S), some (V.ref O), some (V.ref pt), some (V.int be), some (V.ref Nn), some (V.int k), some (V.ref C), y13, y14, some (V.ref bk), none, none, none, none, none, none] ∧ Same H21 H' ∧ H' bk = some (.tup [.int be, .int (eD pd), .int bh, .ref tc]) ∧ H' tc = some (.tup xs), ?_, ?_⟩
  · walk_at "rds"
    refine ite2 (fun z => ?_) (fun z => ?_)
    · walk_at "rds"
      refine ⟨pt, _, 1, _, rfl, rfl, SqT.of (v2 _ _ hpt21), atI_nat (j := 1) rfl, ?_⟩
      walk_at "rds"
      refine ite2 (fun z => ?_) (fun z => ?_)
      · walk_at "rds"
        refine ⟨pt, _, 1, _, rfl, rfl, SqT.of (v2 _ _ hpt21), atI_nat (j := 1) rfl, ?_⟩
        walk_at "rds"
        refine ⟨pt, _, 0, _, rfl, rfl, SqT.of (v2 _ _ hpt21), atI_nat (j := 0) rfl, ?_⟩
        refine ⟨_, _, rfl, ?_⟩
        walk_at "rds"
        refine ⟨C, xs, rfl, .inl ⟨sq (v2 _ _ hc), fun tc2 htc2 => ?_⟩⟩
        have v3 := v2.trans (same_upd (o := .tup xs) htc2)
        have etc2 : upd H23 tc2 (.tup xs) tc2 = some (.tup xs) := upd_same
        generalize upd H23 tc2 (.tup xs) = H24 at v3 etc2
        walk_at "rds"
        intro b2 hb2
        exact ⟨b2, tc2, _, rfl, v3.trans (same_upd hb2), upd_same, (same_upd hb2) _ _ etc2⟩
      · exact ⟨b1, tc, _, rfl, v2, eb1, etc1⟩
    · exact ⟨b1, tc, _, rfl, v2, eb1, etc1⟩
  rintro σ' H25 ⟨bk, tc, bh, rfl, v5, ebk, etc5⟩
  clear v2 eb1 etc1
  have ch25 := ch21.on v5
  have sq25 := v5.seq sq21
  have eB25 := v5 _ _ eB21
  have okb25 : ∀ b ∈ bs, OkB K H25 b := fun b m => (okb21 b m).on v5
  have eS25 : Nd H25 S ks := v5 _ _ eS21
  have hpt25 := v5 _ _ hpt21
  have hc25 := v5 _ _ hc
  have hx25 := hx.on v5
  clear v5 ch21 sq21 eB21 okb21 eS21 hpt21 hc hx
  walk_at "rds"
  refine ⟨C, xs, rfl, .inl (sq hc25), fun Lk hLk => ?_⟩
  have v6 := same_upd (o := .lst xs) hLk
  have eLk : upd H25 Lk (.lst xs) Lk = some (.lst xs) := upd_same
  generalize upd H25 Lk (.lst xs) = H26 at v6 eLk
  refine ⟨fun σ' H' => ∃ xs2 cs2, σ' = [some (V.ref a), some (V.ref D), some (V.ref B), some (V.ref p), y4, some (V.int c), some (V.ref S), some (V.ref O), some (V.ref pt), some (V.int be), some (V.ref Nn), some (V.int k), some (V.ref C), y13, y14, some (V.ref bk), some (V.ref Lk), none, none, none, none, none] ∧ Same H25 H' ∧ H' Lk = some (.lst xs2) ∧ CtL H' xs2 cs2 ∧ (∀ x ∈ cs2, dCmd (ctD x) = true) ∧ cs2.length ≤ 3, ?_, ?_⟩
  · walk_at "rds"
    refine ite2 (fun z => ?_) (fun z => ?_)
    · walk_at "rds"
      refine ⟨Lk, _, rfl, .inl (sq eLk), ?_⟩
      walk_at "rds"
      refine ite2 (fun z => ?_) (fun z => ?_)
      · have z : (0 : Int) < xs.length := of_decide_eq_true z
        walk_at "rds"
        refine ⟨.inl ⟨rfl, _, sq eLk⟩, ?_⟩
        refine ⟨Lk, xs, _, rfl, rfl, eLk, List.getElem?_eq_getElem (by omega), ?_⟩
        exact ⟨xs.dropLast, cs.dropLast, rfl, same_mut v6 hLk, upd_same, ((hx25.on v6).dropLast).put eLk, fun x m => gc x ((List.dropLast_sublist cs).subset m), by rw [List.length_dropLast]; omega⟩
      · exact ⟨xs, cs, rfl, v6, eLk, hx25.on v6, gc, lcs⟩
    · exact ⟨xs, cs, rfl, v6, eLk, hx25.on v6, gc, lcs⟩
  rintro σ' H27 ⟨xs2, cs2, rfl, v7, eLk7, hx7, gc7, lcs7⟩
  walk_at "rds"
  refine ⟨.inl ⟨rfl, _, sq eLk7⟩, ?_⟩
  walk_at "rds"
  intro t ht
  have v8 := same_upd (o := .tup [.int (-9), .int 1, .str (Str.ofString "get b")]) ht
  have et : upd H27 t (.tup [.int (-9), .int 1, .str (Str.ofString "get b")]) t = some (.tup [.int (-9), .int 1, .str (Str.ofString "get b")]) := upd_same
  generalize upd H27 t (.tup [.int (-9), .int 1, .str (Str.ofString "get b")]) = H28 at v8 et
  have eLk8 := v8 _ _ eLk7
  walk_at "rds"
  refine ⟨Lk, xs2, _, rfl, rfl, eLk8, sz1000' (by rw [hx7.length]; omega), ?_⟩
  have hx9 := (CtL.snoc (c := (-9, 1, Str.ofString "get b")) et (hx7.on v8)).put (ys := xs2 ++ [.ref t]) eLk8
  have v9 : Same H25 (upd H28 Lk (.lst (xs2 ++ [.ref t]))) := same_mut (v7.trans v8) hLk
  have eLk9 : upd H28 Lk (.lst (xs2 ++ [.ref t])) Lk = some (.lst (xs2 ++ [.ref t])) := upd_same
  generalize upd H28 Lk (.lst (xs2 ++ [.ref t])) = H29 at hx9 v9 eLk9
  have okn : ∀ x ∈ cs2 ++ [((-9 : Int), (1 : Int), Str.ofString "get b")], PyData.strOk x.2.2 = true := fun x m => by
    rcases List.mem_append.mp m with m | m
    · exact (ctD_str (gc7 x m)).1
    · rw [List.mem_singleton.mp m]; show PyData.strOk (Str.ofString "get b") = true; decide +kernel
  have lkn : (cs2 ++ [((-9 : Int), (1 : Int), Str.ofString "get b")]).length ≤ 1000 := by rw [List.length_append, List.length_singleton]; omega
  generalize cs2 ++ [((-9 : Int), (1 : Int), Str.ofString "get b")] = kn at hx9 okn lkn
  generalize xs2 ++ [V.ref t] = kxs at hx9 eLk9
  clear v8 et eLk8 hx7 v7 eLk7 v6 eLk ht
  have ch29 := ch25.on v9
  have eB29 := v9 _ _ eB25
  have okb29 : ∀ b ∈ bs, OkB K H29 b := fun b m => (okb25 b m).on v9
  have eS29 : Nd H29 S ks := v9 _ _ eS25
  have hpt29 := v9 _ _ hpt25
  have ebk29 := v9 _ _ ebk
  have etc29 := v9 _ _ etc5
  have hx29 := hx25.on v9
  clear v9 ch25 eB25 okb25 eS25 hpt25 ebk etc5 hx25 sq25 hc25
  walk_at "rds"
  intro em hem
  have w1 := same_upd (o := .lst []) hem
  have eem : upd H29 em (.lst []) em = some (.lst []) := upd_same
  generalize upd H29 em (.lst []) = H30 at w1 eem
  walk_at "rds"
  intro bp dxb hbp hdxb npb
  have s7a := same_upd (o := .own bp) hdxb
  have hp1 : upd H30 dxb (.own bp) bp = none := by rw [upd_ne npb.symm]; exact hbp
  have s7 := s7a.trans (same_upd (o := .ins C_Ballot dxb []) hp1)
  have e7 : upd (upd H30 dxb (.own bp)) bp (.ins C_Ballot dxb []) bp = some (.ins C_Ballot dxb []) := upd_same
  generalize upd (upd H30 dxb (.own bp)) bp (.ins C_Ballot dxb []) = H31 at s7 e7
  refine ⟨bp, dxb, em, [], [], rfl, e7, s7 _ _ eem, .nil, (fun _ m => nomatch m), rfl, by decide, trivial, fun H32 bl k8 fbl bal => ?_⟩
  have fbp29 : H29 bp = none := same_none w1 hbp
  have w2 : Same H29 H32 := fun b o e => k8 b o (s7 _ _ (w1 b o e)) (fun z => by rw [z, fbp29] at e; cases e)
  refine ⟨rfl, ?_⟩
  walk_at "rds"
  refine ⟨pt, _, 0, _, rfl, rfl, SqT.of (w2 _ _ hpt29), atI_nat (j := 0) rfl, ?_⟩
  walk_at "rds"
  refine ⟨_, _, rfl, ?_⟩
  walk_at "rds"
  refine ⟨_, _, rfl, ?_⟩
  obtain ⟨fl, hfl⟩ : ∃ fl, (if hD pd - 2 + c / 19200 % 4 > 0 then hD pd - 2 + c / 19200 % 4 else 0) = fl := ⟨_, rfl⟩
  obtain ⟨la, hla⟩ : ∃ la, (if be - 3 + c / 76800 % 4 > 0 then be - 3 + c / 76800 % 4 else 0) = la := ⟨_, rfl⟩
  have fl0 : 0 ≤ fl := by rw [← hfl]; split <;> omega
  have la0 : 0 ≤ la := by rw [← hla]; split <;> omega
  obtain ⟨⟨dxb2, gb2⟩, _⟩ := id bal
  walk_at "rds"
  refine ⟨bp, dxb2, _, rfl, gb2, rfl, ?_⟩
  walk_at "rds"
  rw [hfl, hla]
  refine ⟨bp, bl, la, fl, [], 0, 0, rfl, bal, fun H33 k9 bal2 => ?_⟩
  rw [show mx 0 la = la by unfold mx; split <;> omega, show mx 0 fl = fl by unfold mx; split <;> omega] at bal2
  have w3 : Same H29 H33 := fun b o e => k9 b o (w2 b o e) (fun z => by rw [z, fbp29] at e; cases e)
  have ch33 := ch29.on w3
  have eB33 := w3 _ _ eB29
  have okb33 : ∀ b ∈ bs, OkB K H33 b := fun b m => (okb29 b m).on w3
  have eS33 : Nd H33 S ks := w3 _ _ eS29
  have ebk33 := w3 _ _ ebk29
  have etc33 := w3 _ _ etc29
  have hx33 := hx29.on w3
  have eLk33 := w3 _ _ eLk9
  have ck33 := hx9.on w3
  clear w3 w2 bal gb2 k9 k8 s7 s7a e7 hp1 w1 eem ch29 eB29 okb29 eS29 hpt29 ebk29 etc29 hx29 hx9 eLk9 hla hfl
  walk_at "rds"
  obtain ⟨y, my, ey⟩ : ∃ y ∈ (rv, rtD) :: bs, y.2 = pd := by
    rw [← hpds] at mpd
    rcases List.mem_cons.mp mpd with rfl | m
    · exact ⟨_, List.mem_cons_self, rfl⟩
    · obtain ⟨y, my, e⟩ := List.mem_map.mp m
      exact ⟨y, List.mem_cons_of_mem _ my, e⟩
  obtain ⟨pb, gpb, mpb, epb⟩ := conB_get my
  have hpb : pb.2 = pd := by rw [← ey]; exact gr.uniq _ (md pb mpb) _ (md y my) epb
  rw [ey] at gpb
  obtain ⟨ls, lp, elp, mls⟩ := PathD.chain (rt := (rv, rtD)) rfl gr pth
  have enk : alongN ks (ls.reverse.map (·.2)) = nk := by rw [List.map_reverse, elp, hnk]
  obtain ⟨top, top1, top2⟩ := top_ex pds (by rw [← hpds]; simp)
  have conm : ∀ {k0 y0}, (k0, y0) ∈ conB (rv, rtD) bs → y0.2 ∈ pds := fun {k0 y0} m => by rw [← hpds]; exact md _ (conB_mem.mp m).1
  refine ⟨bk, tc, p, A, W, bp, bl, Lk, S, be, eD pd, bh, be + c / 307200 % 5 / 4, la, fl, top, xs, [], kxs, cs, kn, (rv, rtD), pb, conB (rv, rtD) bs, [], ls, ks, rfl, ebk33, etc33, hx33, gc, by omega, ch33, gpb, lp, fun x m => ⟨(gr.law _ (List.mem_map_of_mem (f := fun y : VD => y.2) (mls x m))).1.blk, (okb33 x (mls x m)).dt⟩, ?_, ?_, fun k0 y0 m => top1 _ (conm m), ?_, bal2, eLk33, ck33, lkn, eS33, by omega, fun H34 s34 => ?_⟩
  · have := congrArg List.length elp
    rw [List.length_map] at this
    omega
  · unfold conB; rw [List.length_map, List.length_cons]; omega
  · obtain ⟨d, m, e⟩ := top2
    rw [← hpds] at m
    rcases List.mem_cons.mp m with rfl | m
    · exact ⟨_, _, conB_mem.mpr ⟨List.mem_cons_self, rfl⟩, e⟩
    · obtain ⟨y, my, rfl⟩ := List.mem_map.mp m
      exact ⟨_, _, conB_mem.mpr ⟨List.mem_cons_of_mem _ my, rfl⟩, e⟩
  rw [hpb, enk]
  walk_at "rds"
  refine ⟨bk, tc, B, Lk, S, be, eD pd, bh, be + c / 307200 % 5 / 4, la, fl, top, xs, kxs, cs, kn, bs, pds2, pd, ks, rfl, s34 _ _ ebk33, s34 _ _ etc33, hx33.on s34, gc, by omega, s34 _ _ eB33, fun b m => (okb33 b m).on s34, gr, lbs, by rw [hpds]; exact mpd, rfl, pth, lds2, s34 _ _ eLk33, ck33.on s34, lkn, okn, s34 _ _ eS33, lks, by rw [hpds]; exact top1, by rw [hpds]; exact top2, fun H35 s35 => ?_⟩
  rw [hnk]
  cases mayB be (be + c / 307200 % 5 / 4) la bh (hD pd) top fl kn cs nk with
  | true =>
    walk_at "rds"
    rw [decide_eq_true rfl]
    exact q _
  | false =>
    walk_at "rds"
    rw [decide_eq_true rfl]
    exact q _
end

theorem fin {C_Ballot : Addr} {C_Chain : Addr} {C_BadBlock : Addr} {P : Program} {w : World} {K : PySem.W.Frag} {mg : Str → Option Value} {fa : Addr} (hfa : mg "law" = some (.ref fa)) (T : Txt K mg C_Ballot C_Chain C_BadBlock) :
    ∃ fd : FuncData, (∀ (s : Shared) (u : Value), BindsTo s fd ⟨[u], []⟩ [("script", u)]) ∧ ∀ base : Heap, K.In base → base.Ns mainGlobals mg → FnOk P w K mg base L2.CX0 8 fa fd ["script"] (spLaw K) := by
  obtain ⟨f, fd, F, hm, b⟩ := T.d_law.ex
  cases hfa.symm.trans hm
  refine ⟨fd, fun s u => ?_, fun base _ _ => ok_law F T⟩
  obtain ⟨oc, od, kV, doc, pm, an, cdv, ct, osl, rfl, l, _⟩ := F.ex
  exact .of_eq rfl

theorem all_mk {K : PySem.W.Frag} {h : Heap} {mg : Str → Option Value} (X : K.In h) (G : h.Ns mainGlobals mg)
    {f_last_number : Addr} {od_last_number an_last_number : Option Addr} {sl_last_number : Array (Option Value)} {oc_last_number kV_last_number dc_last_number pm_last_number cd_last_number ct_last_number : Value}
    {f_all_fresh : Addr} {od_all_fresh an_all_fresh : Option Addr} {sl_all_fresh : Array (Option Value)} {oc_all_fresh kV_all_fresh dc_all_fresh pm_all_fresh cd_all_fresh ct_all_fresh : Value}
    {f_numbers_after : Addr} {od_numbers_after an_numbers_after : Option Addr} {sl_numbers_after : Array (Option Value)} {oc_numbers_after kV_numbers_after dc_numbers_after pm_numbers_after cd_numbers_after ct_numbers_after : Value}
    {f_numbers_along : Addr} {od_numbers_along an_numbers_along : Option Addr} {sl_numbers_along : Array (Option Value)} {oc_numbers_along kV_numbers_along dc_numbers_along pm_numbers_along cd_numbers_along ct_numbers_along : Value}
    {f_may_vote : Addr} {od_may_vote an_may_vote : Option Addr} {sl_may_vote : Array (Option Value)} {oc_may_vote kV_may_vote dc_may_vote pm_may_vote cd_may_vote ct_may_vote : Value}
    {f_all_known : Addr} {od_all_known an_all_known : Option Addr} {sl_all_known : Array (Option Value)} {oc_all_known kV_all_known dc_all_known pm_all_known cd_all_known ct_all_known : Value}
    {f_has_parent : Addr} {od_has_parent an_has_parent : Option Addr} {sl_has_parent : Array (Option Value)} {oc_has_parent kV_has_parent dc_has_parent pm_has_parent cd_has_parent ct_has_parent : Value}
    {f_place : Addr} {od_place an_place : Option Addr} {sl_place : Array (Option Value)} {oc_place kV_place dc_place pm_place cd_place ct_place : Value}
    {f_highest : Addr} {od_highest an_highest : Option Addr} {sl_highest : Array (Option Value)} {oc_highest kV_highest dc_highest pm_highest cd_highest ct_highest : Value}
    {f__law_cell : Addr} {od__law_cell an__law_cell : Option Addr} {sl__law_cell : Array (Option Value)} {oc__law_cell kV__law_cell dc__law_cell pm__law_cell cd__law_cell ct__law_cell : Value}
    {f__law_draws : Addr} {od__law_draws an__law_draws : Option Addr} {sl__law_draws : Array (Option Value)} {oc__law_draws kV__law_draws dc__law_draws pm__law_draws cd__law_draws ct__law_draws : Value}
    {f__law_commands : Addr} {od__law_commands an__law_commands : Option Addr} {sl__law_commands : Array (Option Value)} {oc__law_commands kV__law_commands dc__law_commands pm__law_commands cd__law_commands ct__law_commands : Value}
    {f__law_build : Addr} {od__law_build an__law_build : Option Addr} {sl__law_build : Array (Option Value)} {oc__law_build kV__law_build dc__law_build pm__law_build cd__law_build ct__law_build : Value}
    {f__law_numbers : Addr} {od__law_numbers an__law_numbers : Option Addr} {sl__law_numbers : Array (Option Value)} {oc__law_numbers kV__law_numbers dc__law_numbers pm__law_numbers cd__law_numbers ct__law_numbers : Value}
    {f__law_expected : Addr} {od__law_expected an__law_expected : Option Addr} {sl__law_expected : Array (Option Value)} {oc__law_expected kV__law_expected dc__law_expected pm__law_expected cd__law_expected ct__law_expected : Value}
    {f_law : Addr} {od_law an_law : Option Addr} {sl_law : Array (Option Value)} {oc_law kV_law dc_law pm_law cd_law ct_law : Value}
    {C_Ballot : Addr}
    {f_Ballot____init__ : Addr} {od_Ballot____init__ an_Ballot____init__ : Option Addr} {sl_Ballot____init__ : Array (Option Value)} {oc_Ballot____init__ kV_Ballot____init__ dc_Ballot____init__ pm_Ballot____init__ cd_Ballot____init__ ct_Ballot____init__ : Value}
    {f_Ballot__last : Addr} {od_Ballot__last an_Ballot__last : Option Addr} {sl_Ballot__last : Array (Option Value)} {oc_Ballot__last kV_Ballot__last dc_Ballot__last pm_Ballot__last cd_Ballot__last ct_Ballot__last : Value}
    {f_Ballot__floor : Addr} {od_Ballot__floor an_Ballot__floor : Option Addr} {sl_Ballot__floor : Array (Option Value)} {oc_Ballot__floor kV_Ballot__floor dc_Ballot__floor pm_Ballot__floor cd_Ballot__floor ct_Ballot__floor : Value}
    {f_Ballot__restore : Addr} {od_Ballot__restore an_Ballot__restore : Option Addr} {sl_Ballot__restore : Array (Option Value)} {oc_Ballot__restore kV_Ballot__restore dc_Ballot__restore pm_Ballot__restore cd_Ballot__restore ct_Ballot__restore : Value}
    {f_Ballot__record : Addr} {od_Ballot__record an_Ballot__record : Option Addr} {sl_Ballot__record : Array (Option Value)} {oc_Ballot__record kV_Ballot__record dc_Ballot__record pm_Ballot__record cd_Ballot__record ct_Ballot__record : Value}
    {f_Ballot__blocks : Addr} {od_Ballot__blocks an_Ballot__blocks : Option Addr} {sl_Ballot__blocks : Array (Option Value)} {oc_Ballot__blocks kV_Ballot__blocks dc_Ballot__blocks pm_Ballot__blocks cd_Ballot__blocks ct_Ballot__blocks : Value}
    {C_Chain : Addr}
    {f_Chain____init__ : Addr} {od_Chain____init__ an_Chain____init__ : Option Addr} {sl_Chain____init__ : Array (Option Value)} {oc_Chain____init__ kV_Chain____init__ dc_Chain____init__ pm_Chain____init__ cd_Chain____init__ ct_Chain____init__ : Value}
    {f_Chain__insert : Addr} {od_Chain__insert an_Chain__insert : Option Addr} {sl_Chain__insert : Array (Option Value)} {oc_Chain__insert kV_Chain__insert dc_Chain__insert pm_Chain__insert cd_Chain__insert ct_Chain__insert : Value}
    {f_Chain__connected : Addr} {od_Chain__connected an_Chain__connected : Option Addr} {sl_Chain__connected : Array (Option Value)} {oc_Chain__connected kV_Chain__connected dc_Chain__connected pm_Chain__connected cd_Chain__connected ct_Chain__connected : Value}
    {f_Chain__tip : Addr} {od_Chain__tip an_Chain__tip : Option Addr} {sl_Chain__tip : Array (Option Value)} {oc_Chain__tip kV_Chain__tip dc_Chain__tip pm_Chain__tip cd_Chain__tip ct_Chain__tip : Value}
    {f_Chain__path : Addr} {od_Chain__path an_Chain__path : Option Addr} {sl_Chain__path : Array (Option Value)} {oc_Chain__path kV_Chain__path dc_Chain__path pm_Chain__path cd_Chain__path ct_Chain__path : Value}
    {f_Chain___connect_waiting : Addr} {od_Chain___connect_waiting an_Chain___connect_waiting : Option Addr} {sl_Chain___connect_waiting : Array (Option Value)} {oc_Chain___connect_waiting kV_Chain___connect_waiting dc_Chain___connect_waiting pm_Chain___connect_waiting cd_Chain___connect_waiting ct_Chain___connect_waiting : Value}
    {C_BadBlock : Addr}
    (a_last_number : PySem.W.nsIn K mainGlobals "last_number" = some (some (.ref f_last_number)))
    (l_last_number : K.lookup f_last_number = some ⟨oc_last_number, od_last_number, .func (PySem.W.fnOf "last_number" "last_number" (defArgs s_last_number) (defBody s_last_number) (defScope s_last_number) .none kV_last_number dc_last_number pm_last_number an_last_number cd_last_number ct_last_number), sl_last_number⟩)
    (e_last_number : PySem.W.codeIn K cd_last_number "last_number" = true)
    (k_last_number : PySem.W.keepIn K (.ref f_last_number) = true)
    (a_all_fresh : PySem.W.nsIn K mainGlobals "all_fresh" = some (some (.ref f_all_fresh)))
    (l_all_fresh : K.lookup f_all_fresh = some ⟨oc_all_fresh, od_all_fresh, .func (PySem.W.fnOf "all_fresh" "all_fresh" (defArgs s_all_fresh) (defBody s_all_fresh) (defScope s_all_fresh) .none kV_all_fresh dc_all_fresh pm_all_fresh an_all_fresh cd_all_fresh ct_all_fresh), sl_all_fresh⟩)
    (e_all_fresh : PySem.W.codeIn K cd_all_fresh "all_fresh" = true)
    (k_all_fresh : PySem.W.keepIn K (.ref f_all_fresh) = true)
    (a_numbers_after : PySem.W.nsIn K mainGlobals "numbers_after" = some (some (.ref f_numbers_after)))
    (l_numbers_after : K.lookup f_numbers_after = some ⟨oc_numbers_after, od_numbers_after, .func (PySem.W.fnOf "numbers_after" "numbers_after" (defArgs s_numbers_after) (defBody s_numbers_after) (defScope s_numbers_after) .none kV_numbers_after dc_numbers_after pm_numbers_after an_numbers_after cd_numbers_after ct_numbers_after), sl_numbers_after⟩)
    (e_numbers_after : PySem.W.codeIn K cd_numbers_after "numbers_after" = true)
    (k_numbers_after : PySem.W.keepIn K (.ref f_numbers_after) = true)
    (a_numbers_along : PySem.W.nsIn K mainGlobals "numbers_along" = some (some (.ref f_numbers_along)))
    (l_numbers_along : K.lookup f_numbers_along = some ⟨oc_numbers_along, od_numbers_along, .func (PySem.W.fnOf "numbers_along" "numbers_along" (defArgs s_numbers_along) (defBody s_numbers_along) (defScope s_numbers_along) .none kV_numbers_along dc_numbers_along pm_numbers_along an_numbers_along cd_numbers_along ct_numbers_along), sl_numbers_along⟩)
    (e_numbers_along : PySem.W.codeIn K cd_numbers_along "numbers_along" = true)
    (k_numbers_along : PySem.W.keepIn K (.ref f_numbers_along) = true)
    (a_may_vote : PySem.W.nsIn K mainGlobals "may_vote" = some (some (.ref f_may_vote)))
    (l_may_vote : K.lookup f_may_vote = some ⟨oc_may_vote, od_may_vote, .func (PySem.W.fnOf "may_vote" "may_vote" (defArgs s_may_vote) (defBody s_may_vote) (defScope s_may_vote) .none kV_may_vote dc_may_vote pm_may_vote an_may_vote cd_may_vote ct_may_vote), sl_may_vote⟩)
    (e_may_vote : PySem.W.codeIn K cd_may_vote "may_vote" = true)
    (k_may_vote : PySem.W.keepIn K (.ref f_may_vote) = true)
    (a_all_known : PySem.W.nsIn K mainGlobals "all_known" = some (some (.ref f_all_known)))
    (l_all_known : K.lookup f_all_known = some ⟨oc_all_known, od_all_known, .func (PySem.W.fnOf "all_known" "all_known" (defArgs s_all_known) (defBody s_all_known) (defScope s_all_known) .none kV_all_known dc_all_known pm_all_known an_all_known cd_all_known ct_all_known), sl_all_known⟩)
    (e_all_known : PySem.W.codeIn K cd_all_known "all_known" = true)
    (k_all_known : PySem.W.keepIn K (.ref f_all_known) = true)
    (a_has_parent : PySem.W.nsIn K mainGlobals "has_parent" = some (some (.ref f_has_parent)))
    (l_has_parent : K.lookup f_has_parent = some ⟨oc_has_parent, od_has_parent, .func (PySem.W.fnOf "has_parent" "has_parent" (defArgs s_has_parent) (defBody s_has_parent) (defScope s_has_parent) .none kV_has_parent dc_has_parent pm_has_parent an_has_parent cd_has_parent ct_has_parent), sl_has_parent⟩)
    (e_has_parent : PySem.W.codeIn K cd_has_parent "has_parent" = true)
    (k_has_parent : PySem.W.keepIn K (.ref f_has_parent) = true)
    (a_place : PySem.W.nsIn K mainGlobals "place" = some (some (.ref f_place)))
    (l_place : K.lookup f_place = some ⟨oc_place, od_place, .func (PySem.W.fnOf "place" "place" (defArgs s_place) (defBody s_place) (defScope s_place) .none kV_place dc_place pm_place an_place cd_place ct_place), sl_place⟩)
    (e_place : PySem.W.codeIn K cd_place "place" = true)
    (k_place : PySem.W.keepIn K (.ref f_place) = true)
    (a_highest : PySem.W.nsIn K mainGlobals "highest" = some (some (.ref f_highest)))
    (l_highest : K.lookup f_highest = some ⟨oc_highest, od_highest, .func (PySem.W.fnOf "highest" "highest" (defArgs s_highest) (defBody s_highest) (defScope s_highest) .none kV_highest dc_highest pm_highest an_highest cd_highest ct_highest), sl_highest⟩)
    (e_highest : PySem.W.codeIn K cd_highest "highest" = true)
    (k_highest : PySem.W.keepIn K (.ref f_highest) = true)
    (a__law_cell : PySem.W.nsIn K mainGlobals "_law_cell" = some (some (.ref f__law_cell)))
    (l__law_cell : K.lookup f__law_cell = some ⟨oc__law_cell, od__law_cell, .func (PySem.W.fnOf "_law_cell" "_law_cell" (defArgs s__law_cell) (defBody s__law_cell) (defScope s__law_cell) .none kV__law_cell dc__law_cell pm__law_cell an__law_cell cd__law_cell ct__law_cell), sl__law_cell⟩)
    (e__law_cell : PySem.W.codeIn K cd__law_cell "_law_cell" = true)
    (k__law_cell : PySem.W.keepIn K (.ref f__law_cell) = true)
    (a__law_draws : PySem.W.nsIn K mainGlobals "_law_draws" = some (some (.ref f__law_draws)))
    (l__law_draws : K.lookup f__law_draws = some ⟨oc__law_draws, od__law_draws, .func (PySem.W.fnOf "_law_draws" "_law_draws" (defArgs s__law_draws) (defBody s__law_draws) (defScope s__law_draws) .none kV__law_draws dc__law_draws pm__law_draws an__law_draws cd__law_draws ct__law_draws), sl__law_draws⟩)
    (e__law_draws : PySem.W.codeIn K cd__law_draws "_law_draws" = true)
    (k__law_draws : PySem.W.keepIn K (.ref f__law_draws) = true)
    (a__law_commands : PySem.W.nsIn K mainGlobals "_law_commands" = some (some (.ref f__law_commands)))
    (l__law_commands : K.lookup f__law_commands = some ⟨oc__law_commands, od__law_commands, .func (PySem.W.fnOf "_law_commands" "_law_commands" (defArgs s__law_commands) (defBody s__law_commands) (defScope s__law_commands) .none kV__law_commands dc__law_commands pm__law_commands an__law_commands cd__law_commands ct__law_commands), sl__law_commands⟩)
    (e__law_commands : PySem.W.codeIn K cd__law_commands "_law_commands" = true)
    (k__law_commands : PySem.W.keepIn K (.ref f__law_commands) = true)
    (a__law_build : PySem.W.nsIn K mainGlobals "_law_build" = some (some (.ref f__law_build)))
    (l__law_build : K.lookup f__law_build = some ⟨oc__law_build, od__law_build, .func (PySem.W.fnOf "_law_build" "_law_build" (defArgs s__law_build) (defBody s__law_build) (defScope s__law_build) .none kV__law_build dc__law_build pm__law_build an__law_build cd__law_build ct__law_build), sl__law_build⟩)
    (e__law_build : PySem.W.codeIn K cd__law_build "_law_build" = true)
    (k__law_build : PySem.W.keepIn K (.ref f__law_build) = true)
    (a__law_numbers : PySem.W.nsIn K mainGlobals "_law_numbers" = some (some (.ref f__law_numbers)))
    (l__law_numbers : K.lookup f__law_numbers = some ⟨oc__law_numbers, od__law_numbers, .func (PySem.W.fnOf "_law_numbers" "_law_numbers" (defArgs s__law_numbers) (defBody s__law_numbers) (defScope s__law_numbers) .none kV__law_numbers dc__law_numbers pm__law_numbers an__law_numbers cd__law_numbers ct__law_numbers), sl__law_numbers⟩)
    (e__law_numbers : PySem.W.codeIn K cd__law_numbers "_law_numbers" = true)
    (k__law_numbers : PySem.W.keepIn K (.ref f__law_numbers) = true)
    (a__law_expected : PySem.W.nsIn K mainGlobals "_law_expected" = some (some (.ref f__law_expected)))
    (l__law_expected : K.lookup f__law_expected = some ⟨oc__law_expected, od__law_expected, .func (PySem.W.fnOf "_law_expected" "_law_expected" (defArgs s__law_expected) (defBody s__law_expected) (defScope s__law_expected) .none kV__law_expected dc__law_expected pm__law_expected an__law_expected cd__law_expected ct__law_expected), sl__law_expected⟩)
    (e__law_expected : PySem.W.codeIn K cd__law_expected "_law_expected" = true)
    (k__law_expected : PySem.W.keepIn K (.ref f__law_expected) = true)
    (a_law : PySem.W.nsIn K mainGlobals "law" = some (some (.ref f_law)))
    (l_law : K.lookup f_law = some ⟨oc_law, od_law, .func (PySem.W.fnOf "law" "law" (defArgs s_law) (defBody s_law) (defScope s_law) .none kV_law dc_law pm_law an_law cd_law ct_law), sl_law⟩)
    (e_law : PySem.W.codeIn K cd_law "law" = true)
    (k_law : PySem.W.keepIn K (.ref f_law) = true)
    (ac_Ballot : PySem.W.nsIn K mainGlobals "Ballot" = some (some (.ref C_Ballot)))
    (pg_Ballot : PySem.W.plainGet K C_Ballot Str.empty = true)
    (hd_Ballot : PySem.W.hasDictIn K C_Ballot = true)
    (po_Ballot : PySem.W.plainOver K C_Ballot = true)
    (sa_Ballot : PySem.W.findIn K (.ref C_Ballot) "__setattr__" = some (some (.builtin "object.__setattr__")))
    (mk_Ballot : PySem.W.makesIn K C_Ballot = true)
    (kc_Ballot : PySem.W.keepIn K (.ref C_Ballot) = true)
    (na_Ballot__blocks : PySem.W.findIn K (.ref C_Ballot) "_blocks" = some none)
    (na_Ballot__last : PySem.W.findIn K (.ref C_Ballot) "_last" = some none)
    (na_Ballot__floor : PySem.W.findIn K (.ref C_Ballot) "_floor" = some none)
    (a_Ballot____init__ : PySem.W.findIn K (.ref C_Ballot) "__init__" = some (some (.ref f_Ballot____init__)))
    (i_Ballot____init__ : PySem.W.isFn K (.ref f_Ballot____init__) = true)
    (l_Ballot____init__ : K.lookup f_Ballot____init__ = some ⟨oc_Ballot____init__, od_Ballot____init__, .func (PySem.W.fnOf "__init__" "Ballot.__init__" (defArgs s_Ballot____init__) (defBody s_Ballot____init__) (defScope s_Ballot____init__) .none kV_Ballot____init__ dc_Ballot____init__ pm_Ballot____init__ an_Ballot____init__ cd_Ballot____init__ ct_Ballot____init__), sl_Ballot____init__⟩)
    (e_Ballot____init__ : PySem.W.codeIn K cd_Ballot____init__ "Ballot.__init__" = true)
    (k_Ballot____init__ : PySem.W.keepIn K (.ref f_Ballot____init__) = true)
    (a_Ballot__last : PySem.W.findIn K (.ref C_Ballot) "last" = some (some (.ref f_Ballot__last)))
    (i_Ballot__last : PySem.W.isFn K (.ref f_Ballot__last) = true)
    (l_Ballot__last : K.lookup f_Ballot__last = some ⟨oc_Ballot__last, od_Ballot__last, .func (PySem.W.fnOf "last" "Ballot.last" (defArgs s_Ballot__last) (defBody s_Ballot__last) (defScope s_Ballot__last) .none kV_Ballot__last dc_Ballot__last pm_Ballot__last an_Ballot__last cd_Ballot__last ct_Ballot__last), sl_Ballot__last⟩)
    (e_Ballot__last : PySem.W.codeIn K cd_Ballot__last "Ballot.last" = true)
    (k_Ballot__last : PySem.W.keepIn K (.ref f_Ballot__last) = true)
    (a_Ballot__floor : PySem.W.findIn K (.ref C_Ballot) "floor" = some (some (.ref f_Ballot__floor)))
    (i_Ballot__floor : PySem.W.isFn K (.ref f_Ballot__floor) = true)
    (l_Ballot__floor : K.lookup f_Ballot__floor = some ⟨oc_Ballot__floor, od_Ballot__floor, .func (PySem.W.fnOf "floor" "Ballot.floor" (defArgs s_Ballot__floor) (defBody s_Ballot__floor) (defScope s_Ballot__floor) .none kV_Ballot__floor dc_Ballot__floor pm_Ballot__floor an_Ballot__floor cd_Ballot__floor ct_Ballot__floor), sl_Ballot__floor⟩)
    (e_Ballot__floor : PySem.W.codeIn K cd_Ballot__floor "Ballot.floor" = true)
    (k_Ballot__floor : PySem.W.keepIn K (.ref f_Ballot__floor) = true)
    (a_Ballot__restore : PySem.W.findIn K (.ref C_Ballot) "restore" = some (some (.ref f_Ballot__restore)))
    (i_Ballot__restore : PySem.W.isFn K (.ref f_Ballot__restore) = true)
    (l_Ballot__restore : K.lookup f_Ballot__restore = some ⟨oc_Ballot__restore, od_Ballot__restore, .func (PySem.W.fnOf "restore" "Ballot.restore" (defArgs s_Ballot__restore) (defBody s_Ballot__restore) (defScope s_Ballot__restore) .none kV_Ballot__restore dc_Ballot__restore pm_Ballot__restore an_Ballot__restore cd_Ballot__restore ct_Ballot__restore), sl_Ballot__restore⟩)
    (e_Ballot__restore : PySem.W.codeIn K cd_Ballot__restore "Ballot.restore" = true)
    (k_Ballot__restore : PySem.W.keepIn K (.ref f_Ballot__restore) = true)
    (a_Ballot__record : PySem.W.findIn K (.ref C_Ballot) "record" = some (some (.ref f_Ballot__record)))
    (i_Ballot__record : PySem.W.isFn K (.ref f_Ballot__record) = true)
    (l_Ballot__record : K.lookup f_Ballot__record = some ⟨oc_Ballot__record, od_Ballot__record, .func (PySem.W.fnOf "record" "Ballot.record" (defArgs s_Ballot__record) (defBody s_Ballot__record) (defScope s_Ballot__record) .none kV_Ballot__record dc_Ballot__record pm_Ballot__record an_Ballot__record cd_Ballot__record ct_Ballot__record), sl_Ballot__record⟩)
    (e_Ballot__record : PySem.W.codeIn K cd_Ballot__record "Ballot.record" = true)
    (k_Ballot__record : PySem.W.keepIn K (.ref f_Ballot__record) = true)
    (a_Ballot__blocks : PySem.W.findIn K (.ref C_Ballot) "blocks" = some (some (.ref f_Ballot__blocks)))
    (i_Ballot__blocks : PySem.W.isFn K (.ref f_Ballot__blocks) = true)
    (l_Ballot__blocks : K.lookup f_Ballot__blocks = some ⟨oc_Ballot__blocks, od_Ballot__blocks, .func (PySem.W.fnOf "blocks" "Ballot.blocks" (defArgs s_Ballot__blocks) (defBody s_Ballot__blocks) (defScope s_Ballot__blocks) .none kV_Ballot__blocks dc_Ballot__blocks pm_Ballot__blocks an_Ballot__blocks cd_Ballot__blocks ct_Ballot__blocks), sl_Ballot__blocks⟩)
    (e_Ballot__blocks : PySem.W.codeIn K cd_Ballot__blocks "Ballot.blocks" = true)
    (k_Ballot__blocks : PySem.W.keepIn K (.ref f_Ballot__blocks) = true)
    (ac_Chain : PySem.W.nsIn K mainGlobals "Chain" = some (some (.ref C_Chain)))
    (pg_Chain : PySem.W.plainGet K C_Chain Str.empty = true)
    (hd_Chain : PySem.W.hasDictIn K C_Chain = true)
    (po_Chain : PySem.W.plainOver K C_Chain = true)
    (sa_Chain : PySem.W.findIn K (.ref C_Chain) "__setattr__" = some (some (.builtin "object.__setattr__")))
    (mk_Chain : PySem.W.makesIn K C_Chain = true)
    (kc_Chain : PySem.W.keepIn K (.ref C_Chain) = true)
    (na_Chain_root : PySem.W.findIn K (.ref C_Chain) "root" = some none)
    (na_Chain__connected : PySem.W.findIn K (.ref C_Chain) "_connected" = some none)
    (na_Chain__waiting : PySem.W.findIn K (.ref C_Chain) "_waiting" = some none)
    (a_Chain____init__ : PySem.W.findIn K (.ref C_Chain) "__init__" = some (some (.ref f_Chain____init__)))
    (i_Chain____init__ : PySem.W.isFn K (.ref f_Chain____init__) = true)
    (l_Chain____init__ : K.lookup f_Chain____init__ = some ⟨oc_Chain____init__, od_Chain____init__, .func (PySem.W.fnOf "__init__" "Chain.__init__" (defArgs s_Chain____init__) (defBody s_Chain____init__) (defScope s_Chain____init__) .none kV_Chain____init__ dc_Chain____init__ pm_Chain____init__ an_Chain____init__ cd_Chain____init__ ct_Chain____init__), sl_Chain____init__⟩)
    (e_Chain____init__ : PySem.W.codeIn K cd_Chain____init__ "Chain.__init__" = true)
    (k_Chain____init__ : PySem.W.keepIn K (.ref f_Chain____init__) = true)
    (a_Chain__insert : PySem.W.findIn K (.ref C_Chain) "insert" = some (some (.ref f_Chain__insert)))
    (i_Chain__insert : PySem.W.isFn K (.ref f_Chain__insert) = true)
    (l_Chain__insert : K.lookup f_Chain__insert = some ⟨oc_Chain__insert, od_Chain__insert, .func (PySem.W.fnOf "insert" "Chain.insert" (defArgs s_Chain__insert) (defBody s_Chain__insert) (defScope s_Chain__insert) .none kV_Chain__insert dc_Chain__insert pm_Chain__insert an_Chain__insert cd_Chain__insert ct_Chain__insert), sl_Chain__insert⟩)
    (e_Chain__insert : PySem.W.codeIn K cd_Chain__insert "Chain.insert" = true)
    (k_Chain__insert : PySem.W.keepIn K (.ref f_Chain__insert) = true)
    (a_Chain__connected : PySem.W.findIn K (.ref C_Chain) "connected" = some (some (.ref f_Chain__connected)))
    (i_Chain__connected : PySem.W.isFn K (.ref f_Chain__connected) = true)
    (l_Chain__connected : K.lookup f_Chain__connected = some ⟨oc_Chain__connected, od_Chain__connected, .func (PySem.W.fnOf "connected" "Chain.connected" (defArgs s_Chain__connected) (defBody s_Chain__connected) (defScope s_Chain__connected) .none kV_Chain__connected dc_Chain__connected pm_Chain__connected an_Chain__connected cd_Chain__connected ct_Chain__connected), sl_Chain__connected⟩)
    (e_Chain__connected : PySem.W.codeIn K cd_Chain__connected "Chain.connected" = true)
    (k_Chain__connected : PySem.W.keepIn K (.ref f_Chain__connected) = true)
    (a_Chain__tip : PySem.W.findIn K (.ref C_Chain) "tip" = some (some (.ref f_Chain__tip)))
    (i_Chain__tip : PySem.W.isFn K (.ref f_Chain__tip) = true)
    (l_Chain__tip : K.lookup f_Chain__tip = some ⟨oc_Chain__tip, od_Chain__tip, .func (PySem.W.fnOf "tip" "Chain.tip" (defArgs s_Chain__tip) (defBody s_Chain__tip) (defScope s_Chain__tip) .none kV_Chain__tip dc_Chain__tip pm_Chain__tip an_Chain__tip cd_Chain__tip ct_Chain__tip), sl_Chain__tip⟩)
    (e_Chain__tip : PySem.W.codeIn K cd_Chain__tip "Chain.tip" = true)
    (k_Chain__tip : PySem.W.keepIn K (.ref f_Chain__tip) = true)
    (a_Chain__path : PySem.W.findIn K (.ref C_Chain) "path" = some (some (.ref f_Chain__path)))
    (i_Chain__path : PySem.W.isFn K (.ref f_Chain__path) = true)
    (l_Chain__path : K.lookup f_Chain__path = some ⟨oc_Chain__path, od_Chain__path, .func (PySem.W.fnOf "path" "Chain.path" (defArgs s_Chain__path) (defBody s_Chain__path) (defScope s_Chain__path) .none kV_Chain__path dc_Chain__path pm_Chain__path an_Chain__path cd_Chain__path ct_Chain__path), sl_Chain__path⟩)
    (e_Chain__path : PySem.W.codeIn K cd_Chain__path "Chain.path" = true)
    (k_Chain__path : PySem.W.keepIn K (.ref f_Chain__path) = true)
    (a_Chain___connect_waiting : PySem.W.findIn K (.ref C_Chain) "_connect_waiting" = some (some (.ref f_Chain___connect_waiting)))
    (i_Chain___connect_waiting : PySem.W.isFn K (.ref f_Chain___connect_waiting) = true)
    (l_Chain___connect_waiting : K.lookup f_Chain___connect_waiting = some ⟨oc_Chain___connect_waiting, od_Chain___connect_waiting, .func (PySem.W.fnOf "_connect_waiting" "Chain._connect_waiting" (defArgs s_Chain___connect_waiting) (defBody s_Chain___connect_waiting) (defScope s_Chain___connect_waiting) .none kV_Chain___connect_waiting dc_Chain___connect_waiting pm_Chain___connect_waiting an_Chain___connect_waiting cd_Chain___connect_waiting ct_Chain___connect_waiting), sl_Chain___connect_waiting⟩)
    (e_Chain___connect_waiting : PySem.W.codeIn K cd_Chain___connect_waiting "Chain._connect_waiting" = true)
    (k_Chain___connect_waiting : PySem.W.keepIn K (.ref f_Chain___connect_waiting) = true)
    (xa_BadBlock : PySem.W.nsIn K mainGlobals "BadBlock" = some (some (.ref C_BadBlock)))
    (xe_BadBlock : PySem.W.excIn K C_BadBlock [.type "ValueError", .type "Exception", .type "BaseException", .type "object"] "ValueError.__new__" = true)
    (xk_BadBlock : PySem.W.keepIn K (.ref C_BadBlock) = true)
    (xb_BadBlock : PySem.W.subIn K (.ref C_BadBlock) (.type "BaseException") = some true)
    (xt_BadBlock : PySem.W.typeIn K (.ref C_BadBlock) = some (.type "type"))
    (xh_BadBlock : PySem.W.hasDictIn K C_BadBlock = true)
    (u_BadBlock_BadBlock : PySem.W.subIn K (.ref C_BadBlock) (.ref C_BadBlock) = some true)
    (z_abs : PySem.W.nsIn K mainGlobals "abs" = some none)
    (z_all : PySem.W.nsIn K mainGlobals "all" = some none)
    (z_dict : PySem.W.nsIn K mainGlobals "dict" = some none)
    (z_int : PySem.W.nsIn K mainGlobals "int" = some none)
    (z_len : PySem.W.nsIn K mainGlobals "len" = some none)
    (z_list : PySem.W.nsIn K mainGlobals "list" = some none)
    (z_max : PySem.W.nsIn K mainGlobals "max" = some none)
    (z_range : PySem.W.nsIn K mainGlobals "range" = some none)
    (z_sorted : PySem.W.nsIn K mainGlobals "sorted" = some none)
    (z_str : PySem.W.nsIn K mainGlobals "str" = some none)
    (z_tuple : PySem.W.nsIn K mainGlobals "tuple" = some none) : Txt K mg C_Ballot C_Chain C_BadBlock :=
  { d_last_number := ⟨_, _, (fun_mk l_last_number e_last_number k_last_number), PySem.W.mg_of X G a_last_number, ((fun_mk (st := s_last_number) l_last_number e_last_number k_last_number).binds (ps := ["last", "client"]) fun _ _ _ _ _ _ us hl => match us, hl with | [_, _], _ => rfl)⟩,
    d_all_fresh := ⟨_, _, (fun_mk l_all_fresh e_all_fresh k_all_fresh), PySem.W.mg_of X G a_all_fresh, ((fun_mk (st := s_all_fresh) l_all_fresh e_all_fresh k_all_fresh).binds (ps := ["last", "commands"]) fun _ _ _ _ _ _ us hl => match us, hl with | [_, _], _ => rfl)⟩,
    d_numbers_after := ⟨_, _, (fun_mk l_numbers_after e_numbers_after k_numbers_after), PySem.W.mg_of X G a_numbers_after, ((fun_mk (st := s_numbers_after) l_numbers_after e_numbers_after k_numbers_after).binds (ps := ["last", "commands"]) fun _ _ _ _ _ _ us hl => match us, hl with | [_, _], _ => rfl)⟩,
    d_numbers_along := ⟨_, _, (fun_mk l_numbers_along e_numbers_along k_numbers_along), PySem.W.mg_of X G a_numbers_along, ((fun_mk (st := s_numbers_along) l_numbers_along e_numbers_along k_numbers_along).binds (ps := ["numbers", "path"]) fun _ _ _ _ _ _ us hl => match us, hl with | [_, _], _ => rfl)⟩,
    d_may_vote := ⟨_, _, (fun_mk l_may_vote e_may_vote k_may_vote), PySem.W.mg_of X G a_may_vote, ((fun_mk (st := s_may_vote) l_may_vote e_may_vote k_may_vote).binds (ps := ["block", "epoch", "chain", "ballot", "known", "numbers"]) fun _ _ _ _ _ _ us hl => match us, hl with | [_, _, _, _, _, _], _ => rfl)⟩,
    d_all_known := ⟨_, _, (fun_mk l_all_known e_all_known k_all_known), PySem.W.mg_of X G a_all_known, ((fun_mk (st := s_all_known) l_all_known e_all_known k_all_known).binds (ps := ["known", "commands"]) fun _ _ _ _ _ _ us hl => match us, hl with | [_, _], _ => rfl)⟩,
    d_has_parent := ⟨_, _, (fun_mk l_has_parent e_has_parent k_has_parent), PySem.W.mg_of X G a_has_parent, ((fun_mk (st := s_has_parent) l_has_parent e_has_parent k_has_parent).binds (ps := ["connected", "block"]) fun _ _ _ _ _ _ us hl => match us, hl with | [_, _], _ => rfl)⟩,
    d_place := ⟨_, _, (fun_mk l_place e_place k_place), PySem.W.mg_of X G a_place, ((fun_mk (st := s_place) l_place e_place k_place).binds (ps := ["block"]) fun _ _ _ _ _ _ us hl => match us, hl with | [_], _ => rfl)⟩,
    d_highest := ⟨_, _, (fun_mk l_highest e_highest k_highest), PySem.W.mg_of X G a_highest, ((fun_mk (st := s_highest) l_highest e_highest k_highest).binds (ps := ["blocks"]) fun _ _ _ _ _ _ us hl => match us, hl with | [_], _ => rfl)⟩,
    d__law_cell := ⟨_, _, (fun_mk l__law_cell e__law_cell k__law_cell), PySem.W.mg_of X G a__law_cell, ((fun_mk (st := s__law_cell) l__law_cell e__law_cell k__law_cell).binds (ps := ["script", "k"]) fun _ _ _ _ _ _ us hl => match us, hl with | [_, _], _ => rfl)⟩,
    d__law_draws := ⟨_, _, (fun_mk l__law_draws e__law_draws k__law_draws), PySem.W.mg_of X G a__law_draws, ((fun_mk (st := s__law_draws) l__law_draws e__law_draws k__law_draws).binds (ps := ["script", "start", "most"]) fun _ _ _ _ _ _ us hl => match us, hl with | [_, _, _], _ => rfl)⟩,
    d__law_commands := ⟨_, _, (fun_mk l__law_commands e__law_commands k__law_commands), PySem.W.mg_of X G a__law_commands, ((fun_mk (st := s__law_commands) l__law_commands e__law_commands k__law_commands).binds (ps := ["draw"]) fun _ _ _ _ _ _ us hl => match us, hl with | [_], _ => rfl)⟩,
    d__law_build := ⟨_, _, (fun_mk l__law_build e__law_build k__law_build), PySem.W.mg_of X G a__law_build, ((fun_mk (st := s__law_build) l__law_build e__law_build k__law_build).binds (ps := ["draws"]) fun _ _ _ _ _ _ us hl => match us, hl with | [_], _ => rfl)⟩,
    d__law_numbers := ⟨_, _, (fun_mk l__law_numbers e__law_numbers k__law_numbers), PySem.W.mg_of X G a__law_numbers, ((fun_mk (st := s__law_numbers) l__law_numbers e__law_numbers k__law_numbers).binds (ps := ["blocks", "start", "epoch"]) fun _ _ _ _ _ _ us hl => match us, hl with | [_, _, _], _ => rfl)⟩,
    d__law_expected := ⟨_, _, (fun_mk l__law_expected e__law_expected k__law_expected), PySem.W.mg_of X G a__law_expected, ((fun_mk (st := s__law_expected) l__law_expected e__law_expected k__law_expected).binds (ps := ["block", "epoch", "blocks", "last", "floor", "known", "start"]) fun _ _ _ _ _ _ us hl => match us, hl with | [_, _, _, _, _, _, _], _ => rfl)⟩,
    d_law := ⟨_, _, (fun_mk l_law e_law k_law), PySem.W.mg_of X G a_law, ((fun_mk (st := s_law) l_law e_law k_law).binds (ps := ["script"]) fun _ _ _ _ _ _ us hl => match us, hl with | [_], _ => rfl)⟩,
    cl_Ballot := ⟨pg_Ballot, hd_Ballot, po_Ballot, sa_Ballot⟩,
    g_Ballot := PySem.W.mg_of X G ac_Ballot,
    na_Ballot__blocks := na_Ballot__blocks,
    na_Ballot__last := na_Ballot__last,
    na_Ballot__floor := na_Ballot__floor,
    mk_Ballot := ⟨_, _, ⟨mk_Ballot, a_Ballot____init__, i_Ballot____init__, kc_Ballot⟩, (fun_mk l_Ballot____init__ e_Ballot____init__ k_Ballot____init__), ((fun_mk (st := s_Ballot____init__) l_Ballot____init__ e_Ballot____init__ k_Ballot____init__).binds (ps := ["self", "blocks"]) fun _ _ _ _ _ _ us hl => match us, hl with | [_, _], _ => rfl)⟩,
    me_Ballot__last := ⟨_, _, ⟨a_Ballot__last, i_Ballot__last, k_Ballot__last⟩, (fun_mk l_Ballot__last e_Ballot__last k_Ballot__last), ((fun_mk (st := s_Ballot__last) l_Ballot__last e_Ballot__last k_Ballot__last).binds (ps := ["self"]) fun _ _ _ _ _ _ us hl => match us, hl with | [_], _ => rfl)⟩,
    me_Ballot__floor := ⟨_, _, ⟨a_Ballot__floor, i_Ballot__floor, k_Ballot__floor⟩, (fun_mk l_Ballot__floor e_Ballot__floor k_Ballot__floor), ((fun_mk (st := s_Ballot__floor) l_Ballot__floor e_Ballot__floor k_Ballot__floor).binds (ps := ["self"]) fun _ _ _ _ _ _ us hl => match us, hl with | [_], _ => rfl)⟩,
    me_Ballot__restore := ⟨_, _, ⟨a_Ballot__restore, i_Ballot__restore, k_Ballot__restore⟩, (fun_mk l_Ballot__restore e_Ballot__restore k_Ballot__restore), ((fun_mk (st := s_Ballot__restore) l_Ballot__restore e_Ballot__restore k_Ballot__restore).binds (ps := ["self", "epoch", "floor"]) fun _ _ _ _ _ _ us hl => match us, hl with | [_, _, _], _ => rfl)⟩,
    me_Ballot__record := ⟨_, _, ⟨a_Ballot__record, i_Ballot__record, k_Ballot__record⟩, (fun_mk l_Ballot__record e_Ballot__record k_Ballot__record), ((fun_mk (st := s_Ballot__record) l_Ballot__record e_Ballot__record k_Ballot__record).binds (ps := ["self", "block"]) fun _ _ _ _ _ _ us hl => match us, hl with | [_, _], _ => rfl)⟩,
    me_Ballot__blocks := ⟨_, _, ⟨a_Ballot__blocks, i_Ballot__blocks, k_Ballot__blocks⟩, (fun_mk l_Ballot__blocks e_Ballot__blocks k_Ballot__blocks), ((fun_mk (st := s_Ballot__blocks) l_Ballot__blocks e_Ballot__blocks k_Ballot__blocks).binds (ps := ["self"]) fun _ _ _ _ _ _ us hl => match us, hl with | [_], _ => rfl)⟩,
    cl_Chain := ⟨pg_Chain, hd_Chain, po_Chain, sa_Chain⟩,
    g_Chain := PySem.W.mg_of X G ac_Chain,
    na_Chain_root := na_Chain_root,
    na_Chain__connected := na_Chain__connected,
    na_Chain__waiting := na_Chain__waiting,
    mk_Chain := ⟨_, _, ⟨mk_Chain, a_Chain____init__, i_Chain____init__, kc_Chain⟩, (fun_mk l_Chain____init__ e_Chain____init__ k_Chain____init__), ((fun_mk (st := s_Chain____init__) l_Chain____init__ e_Chain____init__ k_Chain____init__).binds (ps := ["self", "root"]) fun _ _ _ _ _ _ us hl => match us, hl with | [_, _], _ => rfl)⟩,
    me_Chain__insert := ⟨_, _, ⟨a_Chain__insert, i_Chain__insert, k_Chain__insert⟩, (fun_mk l_Chain__insert e_Chain__insert k_Chain__insert), ((fun_mk (st := s_Chain__insert) l_Chain__insert e_Chain__insert k_Chain__insert).binds (ps := ["self", "block"]) fun _ _ _ _ _ _ us hl => match us, hl with | [_, _], _ => rfl)⟩,
    me_Chain__connected := ⟨_, _, ⟨a_Chain__connected, i_Chain__connected, k_Chain__connected⟩, (fun_mk l_Chain__connected e_Chain__connected k_Chain__connected), ((fun_mk (st := s_Chain__connected) l_Chain__connected e_Chain__connected k_Chain__connected).binds (ps := ["self", "epoch"]) fun _ _ _ _ _ _ us hl => match us, hl with | [_, _], _ => rfl)⟩,
    me_Chain__tip := ⟨_, _, ⟨a_Chain__tip, i_Chain__tip, k_Chain__tip⟩, (fun_mk l_Chain__tip e_Chain__tip k_Chain__tip), ((fun_mk (st := s_Chain__tip) l_Chain__tip e_Chain__tip k_Chain__tip).binds (ps := ["self"]) fun _ _ _ _ _ _ us hl => match us, hl with | [_], _ => rfl)⟩,
    me_Chain__path := ⟨_, _, ⟨a_Chain__path, i_Chain__path, k_Chain__path⟩, (fun_mk l_Chain__path e_Chain__path k_Chain__path), ((fun_mk (st := s_Chain__path) l_Chain__path e_Chain__path k_Chain__path).binds (ps := ["self", "epoch"]) fun _ _ _ _ _ _ us hl => match us, hl with | [_, _], _ => rfl)⟩,
    me_Chain___connect_waiting := ⟨_, _, ⟨a_Chain___connect_waiting, i_Chain___connect_waiting, k_Chain___connect_waiting⟩, (fun_mk l_Chain___connect_waiting e_Chain___connect_waiting k_Chain___connect_waiting), ((fun_mk (st := s_Chain___connect_waiting) l_Chain___connect_waiting e_Chain___connect_waiting k_Chain___connect_waiting).binds (ps := ["self"]) fun _ _ _ _ _ _ us hl => match us, hl with | [_], _ => rfl)⟩,
    x_BadBlock := ⟨xe_BadBlock, PySem.W.mg_of X G xa_BadBlock, xk_BadBlock, xb_BadBlock, xt_BadBlock, xh_BadBlock⟩,
    u_BadBlock_BadBlock := u_BadBlock_BadBlock,
    z_abs := PySem.W.mg_none_of X G z_abs,
    z_all := PySem.W.mg_none_of X G z_all,
    z_dict := PySem.W.mg_none_of X G z_dict,
    z_int := PySem.W.mg_none_of X G z_int,
    z_len := PySem.W.mg_none_of X G z_len,
    z_list := PySem.W.mg_none_of X G z_list,
    z_max := PySem.W.mg_none_of X G z_max,
    z_range := PySem.W.mg_none_of X G z_range,
    z_sorted := PySem.W.mg_none_of X G z_sorted,
    z_str := PySem.W.mg_none_of X G z_str,
    z_tuple := PySem.W.mg_none_of X G z_tuple }
end Law
open PySem PySem.W PyProof.Rows
set_option maxRecDepth 100000 in
set_option maxHeartbeats 0 in
theorem PySem.Challenge.cw_oathledger_k36_may_vote_holds : PySem.Challenge.rw_oathledger_k36_may_vote.Holds := by
  w_on; o_law; k_head; (case hw => w_witness2)
  k_fill
  refine L2.walk_of (l := PySem.Challenge.rw_oathledger_k36_may_vote) (n := 63) (k := 8) (x := "script") (CX := fun _ => L2.CX0) (sp := fun w => Law.spLaw _) rfl (by decide) rfl ⟨rfl, by decide, by decide⟩ (fun w h Y => PySem.W.kIn_of Y) ?F (fun _ _ a ns hl _ hS => ⟨a, ns, rfl, hS, hl, fun _ => rfl⟩) (fun _ _ _ _ _ h => h)
  case F =>
    intro w mg fa h KX G hmg
    refine' Law.fin hmg (Law.all_mk KX G ?a_last_number ?l_last_number ?e_last_number ?k_last_number ?a_all_fresh ?l_all_fresh ?e_all_fresh ?k_all_fresh ?a_numbers_after ?l_numbers_after ?e_numbers_after ?k_numbers_after ?a_numbers_along ?l_numbers_along ?e_numbers_along ?k_numbers_along ?a_may_vote ?l_may_vote ?e_may_vote ?k_may_vote ?a_all_known ?l_all_known ?e_all_known ?k_all_known ?a_has_parent ?l_has_parent ?e_has_parent ?k_has_parent ?a_place ?l_place ?e_place ?k_place ?a_highest ?l_highest ?e_highest ?k_highest ?a__law_cell ?l__law_cell ?e__law_cell ?k__law_cell ?a__law_draws ?l__law_draws ?e__law_draws ?k__law_draws ?a__law_commands ?l__law_commands ?e__law_commands ?k__law_commands ?a__law_build ?l__law_build ?e__law_build ?k__law_build ?a__law_numbers ?l__law_numbers ?e__law_numbers ?k__law_numbers ?a__law_expected ?l__law_expected ?e__law_expected ?k__law_expected ?a_law ?l_law ?e_law ?k_law ?ac_Ballot ?pg_Ballot ?hd_Ballot ?po_Ballot ?sa_Ballot ?mk_Ballot ?kc_Ballot ?na_Ballot__blocks ?na_Ballot__last ?na_Ballot__floor ?a_Ballot____init__ ?i_Ballot____init__ ?l_Ballot____init__ ?e_Ballot____init__ ?k_Ballot____init__ ?a_Ballot__last ?i_Ballot__last ?l_Ballot__last ?e_Ballot__last ?k_Ballot__last ?a_Ballot__floor ?i_Ballot__floor ?l_Ballot__floor ?e_Ballot__floor ?k_Ballot__floor ?a_Ballot__restore ?i_Ballot__restore ?l_Ballot__restore ?e_Ballot__restore ?k_Ballot__restore ?a_Ballot__record ?i_Ballot__record ?l_Ballot__record ?e_Ballot__record ?k_Ballot__record ?a_Ballot__blocks ?i_Ballot__blocks ?l_Ballot__blocks ?e_Ballot__blocks ?k_Ballot__blocks ?ac_Chain ?pg_Chain ?hd_Chain ?po_Chain ?sa_Chain ?mk_Chain ?kc_Chain ?na_Chain_root ?na_Chain__connected ?na_Chain__waiting ?a_Chain____init__ ?i_Chain____init__ ?l_Chain____init__ ?e_Chain____init__ ?k_Chain____init__ ?a_Chain__insert ?i_Chain__insert ?l_Chain__insert ?e_Chain__insert ?k_Chain__insert ?a_Chain__connected ?i_Chain__connected ?l_Chain__connected ?e_Chain__connected ?k_Chain__connected ?a_Chain__tip ?i_Chain__tip ?l_Chain__tip ?e_Chain__tip ?k_Chain__tip ?a_Chain__path ?i_Chain__path ?l_Chain__path ?e_Chain__path ?k_Chain__path ?a_Chain___connect_waiting ?i_Chain___connect_waiting ?l_Chain___connect_waiting ?e_Chain___connect_waiting ?k_Chain___connect_waiting ?xa_BadBlock ?xe_BadBlock ?xk_BadBlock ?xb_BadBlock ?xt_BadBlock ?xh_BadBlock ?u_BadBlock_BadBlock ?z_abs ?z_all ?z_dict ?z_int ?z_len ?z_list ?z_max ?z_range ?z_sorted ?z_str ?z_tuple)
    (case a_last_number => k_is)
    (case l_last_number => k_is)
    (case e_last_number => k_is)
    (case k_last_number => k_is)
    (case a_all_fresh => k_is)
    (case l_all_fresh => k_is)
    (case e_all_fresh => k_is)
    (case k_all_fresh => k_is)
    (case a_numbers_after => k_is)
    (case l_numbers_after => k_is)
    (case e_numbers_after => k_is)
    (case k_numbers_after => k_is)
    (case a_numbers_along => k_is)
    (case l_numbers_along => k_is)
    (case e_numbers_along => k_is)
    (case k_numbers_along => k_is)
    (case a_may_vote => k_is)
    (case l_may_vote => k_is)
    (case e_may_vote => k_is)
    (case k_may_vote => k_is)
    (case a_all_known => k_is)
    (case l_all_known => k_is)
    (case e_all_known => k_is)
    (case k_all_known => k_is)
    (case a_has_parent => k_is)
    (case l_has_parent => k_is)
    (case e_has_parent => k_is)
    (case k_has_parent => k_is)
    (case a_place => k_is)
    (case l_place => k_is)
    (case e_place => k_is)
    (case k_place => k_is)
    (case a_highest => k_is)
    (case l_highest => k_is)
    (case e_highest => k_is)
    (case k_highest => k_is)
    (case a__law_cell => k_is)
    (case l__law_cell => k_is)
    (case e__law_cell => k_is)
    (case k__law_cell => k_is)
    (case a__law_draws => k_is)
    (case l__law_draws => k_is)
    (case e__law_draws => k_is)
    (case k__law_draws => k_is)
    (case a__law_commands => k_is)
    (case l__law_commands => k_is)
    (case e__law_commands => k_is)
    (case k__law_commands => k_is)
    (case a__law_build => k_is)
    (case l__law_build => k_is)
    (case e__law_build => k_is)
    (case k__law_build => k_is)
    (case a__law_numbers => k_is)
    (case l__law_numbers => k_is)
    (case e__law_numbers => k_is)
    (case k__law_numbers => k_is)
    (case a__law_expected => k_is)
    (case l__law_expected => k_is)
    (case e__law_expected => k_is)
    (case k__law_expected => k_is)
    (case a_law => k_is)
    (case l_law => k_is)
    (case e_law => k_is)
    (case k_law => k_is)
    (case ac_Ballot => k_is)
    (case pg_Ballot => k_is)
    (case hd_Ballot => k_is)
    (case po_Ballot => k_is)
    (case sa_Ballot => k_is)
    (case mk_Ballot => k_is)
    (case kc_Ballot => k_is)
    (case na_Ballot__blocks => k_is)
    (case na_Ballot__last => k_is)
    (case na_Ballot__floor => k_is)
    (case a_Ballot____init__ => k_is)
    (case i_Ballot____init__ => k_is)
    (case l_Ballot____init__ => k_is)
    (case e_Ballot____init__ => k_is)
    (case k_Ballot____init__ => k_is)
    (case a_Ballot__last => k_is)
    (case i_Ballot__last => k_is)
    (case l_Ballot__last => k_is)
    (case e_Ballot__last => k_is)
    (case k_Ballot__last => k_is)
    (case a_Ballot__floor => k_is)
    (case i_Ballot__floor => k_is)
    (case l_Ballot__floor => k_is)
    (case e_Ballot__floor => k_is)
    (case k_Ballot__floor => k_is)
    (case a_Ballot__restore => k_is)
    (case i_Ballot__restore => k_is)
    (case l_Ballot__restore => k_is)
    (case e_Ballot__restore => k_is)
    (case k_Ballot__restore => k_is)
    (case a_Ballot__record => k_is)
    (case i_Ballot__record => k_is)
    (case l_Ballot__record => k_is)
    (case e_Ballot__record => k_is)
    (case k_Ballot__record => k_is)
    (case a_Ballot__blocks => k_is)
    (case i_Ballot__blocks => k_is)
    (case l_Ballot__blocks => k_is)
    (case e_Ballot__blocks => k_is)
    (case k_Ballot__blocks => k_is)
    (case ac_Chain => k_is)
    (case pg_Chain => k_is)
    (case hd_Chain => k_is)
    (case po_Chain => k_is)
    (case sa_Chain => k_is)
    (case mk_Chain => k_is)
    (case kc_Chain => k_is)
    (case na_Chain_root => k_is)
    (case na_Chain__connected => k_is)
    (case na_Chain__waiting => k_is)
    (case a_Chain____init__ => k_is)
    (case i_Chain____init__ => k_is)
    (case l_Chain____init__ => k_is)
    (case e_Chain____init__ => k_is)
    (case k_Chain____init__ => k_is)
    (case a_Chain__insert => k_is)
    (case i_Chain__insert => k_is)
    (case l_Chain__insert => k_is)
    (case e_Chain__insert => k_is)
    (case k_Chain__insert => k_is)
    (case a_Chain__connected => k_is)
    (case i_Chain__connected => k_is)
    (case l_Chain__connected => k_is)
    (case e_Chain__connected => k_is)
    (case k_Chain__connected => k_is)
    (case a_Chain__tip => k_is)
    (case i_Chain__tip => k_is)
    (case l_Chain__tip => k_is)
    (case e_Chain__tip => k_is)
    (case k_Chain__tip => k_is)
    (case a_Chain__path => k_is)
    (case i_Chain__path => k_is)
    (case l_Chain__path => k_is)
    (case e_Chain__path => k_is)
    (case k_Chain__path => k_is)
    (case a_Chain___connect_waiting => k_is)
    (case i_Chain___connect_waiting => k_is)
    (case l_Chain___connect_waiting => k_is)
    (case e_Chain___connect_waiting => k_is)
    (case k_Chain___connect_waiting => k_is)
    (case xa_BadBlock => k_is)
    (case xe_BadBlock => first | k_is | k_exc)
    (case xk_BadBlock => k_is)
    (case xb_BadBlock => k_is)
    (case xt_BadBlock => k_is)
    (case xh_BadBlock => k_is)
    (case u_BadBlock_BadBlock => k_is)
    (case z_abs => k_is)
    (case z_all => k_is)
    (case z_dict => k_is)
    (case z_int => k_is)
    (case z_len => k_is)
    (case z_list => k_is)
    (case z_max => k_is)
    (case z_range => k_is)
    (case z_sorted => k_is)
    (case z_str => k_is)
    (case z_tuple => k_is)

