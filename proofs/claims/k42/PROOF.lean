--@ins
--@caught _law_raises_base BadCommand
import PyProof.Rows.All
import Wide.All
import OpenK.AllK
import Wide.FinOn
import HandS.ForMost
import HandS.Walk
import HandS.Flow
import HandS.Codes
import HandS.IsInst
import HandS.Conv
import HandS.StrMore
import PyProof.MeetsSeq2
import PyProof.DictTable
import HandS.Wide
import HandS.TupAny
import HandS.More
import HandS.Dict
import HandS.ForExc
import HandS.ExcIs
import HandS.ExcField
import HandS.DeepEq
import HandS.TupLe
import HandS.Steps
import HandS.ExcInit
import HandS.HotCalls
import HandS.TryMany
import HandS.FStr
import HandS.WideBits
import HandS.SortRule
import HandS.SortKw
import HandS.Keys
import KE.SortKeyHeap
import KE.DataMinMax
import KE.SortData
import HandS.RaiseMore
import HandS.Zip
import HandS.DictSubView
import HandS.Deep
import HandS.Sort
import HandS.SetKeys
import HandS.Strs
import HandS.SetFor
import HandS.DictComp
import HandS.Style
import HandS.StrSplit
import PySem.Challenge.RW_oathledger_k42_statements_of_a_text
set_option Elab.async false
set_option linter.all false
set_option maxRecDepth 100000
set_option maxHeartbeats 4000000
namespace Law
open PySem PySem.Spec PyProof.Rows L2
open C8 (Cal Met Mak pe_c pe_mk pe_mt pe_mt0 pe_gc pss_cut tCut)
/-! ### a def of the top, by its name -/
structure DefOk (K : PySem.W.Frag) (mg : Str → Option Value) (x : Str) (st : Stmt) (ps : List Str) : Prop where
  ex : ∃ (f : Addr) (fd : FuncData), L2.Fun K x x st f fd ∧ mg x = some (.ref f) ∧ Binds K fd ps []
section
variable {P : Program} {w : World} {K : PySem.W.Frag} {mg : Str → Option Value} {base : Heap}
/-- a def's promise, by its body -/
theorem cal {x : Str} {st : Stmt} {N ps : List Str} {k : Nat} {sp : Sp} (D : DefOk K mg x st ps) (S : FnScope N ps (defScope st)) (len : ∀ vs H Q E, sp vs H Q E → vs.length = ps.length)
    (hbody : ∀ (f : Addr) (cdv : Value) (A : Around) (outer : List Env) (s : Shared) (H : Hp) (vs : List V) (Q : VK) (E : XK), Room k (A.deeper (envOfC x (defScope st) s.heap.objs.size f cdv)) → sp vs H Q E →
      ∃ t, PSs (cxOf L2.CX0 P w K mg base N x (defScope st) f cdv A outer s H E).nox (defBody st) t ∧ t { nx := fun _ H' => Q .non H', rt := Q } (start N vs) H) : Cal P w K mg base (k + 1) x sp [] := by
  obtain ⟨f, fd, F, hm, b⟩ := D.ex
  exact ⟨f, fd, ps, [], F.ok S len (fun cdv A outer s H vs Q E hr h => hbody f cdv A outer s H vs Q E hr h), hm, F.kp, b, .nil⟩
/-- a call without arguments -/
theorem pe_c0 {X : Cx} {k j : Nat} {x : Str} {sp : Sp} {dvs : List V} {p pos : Pos} (c : Cal X.prog X.w X.K X.mg X.base k x sp dvs) (hr : Room j X.A) (hk : k ≤ j) (hg : Gl X x)
    (hdb : (x == ("__debug__" : Str)) = false := by decide) : PE X (.Call (.Name x p) [] [] pos) (tCall sp dvs L2.E0 tNil) := by
  obtain ⟨f, fd, ps, ds, F, hm, kp, b, d⟩ := c.ex
  exact pe_call0 F (hr.mono hk) hg hm kp b d pass0 hdb
end
/-! ### small things -/
theorem same_upd {H : Hp} {p : Addr} {o : HO} (h : H p = none) : Same H (upd H p o) := fun b x e => by
  rw [upd_ne (ne_of_none e h)]
  exact e
theorem same_mut {H H' : Hp} {p : Addr} {o : HO} (s : Same H H') (h : H p = none) : Same H (upd H' p o) := fun b x e => by
  rw [upd_ne (ne_of_none e h)]
  exact s b x e
theorem sz1000 {n : Nat} (h : n ≤ 100000) : n ≤ sizeLine := Nat.le_trans h (by decide)
theorem sz1000' {n : Nat} (h : n < 100000) : n < sizeLine := Nat.lt_of_lt_of_le h (by decide)
theorem sz1000'' {n : Nat} (h : n ≤ 16777216) : n ≤ sizeLine := by rw [sizeLine_eq]; exact h
theorem sq {K : PySem.W.Frag} {H : Hp} {a : Addr} {xs : List V} (h : H a = some (.lst xs)) : SqL K H a xs := .inl (.inl h)
def spLaw (K : PySem.W.Frag) : Sp := fun vs H Q _ => ∃ (a : Addr) (ns : List Int), vs = [.ref a] ∧ SqL K H a (ns.map V.int) ∧ ns.length ≤ 63 ∧ ∀ H', Q (.bl true) H'
/-! ### the reading, step by step -/
local macro_rules | `(tactic| walk_at "sd") => `(tactic| first
  | omega
  | decide
  | assumption
  | (show _ ∨ _; exact Or.inl ⟨by omega, by omega⟩)
  | (show _ ∨ _; exact Or.inr ⟨by omega, by omega⟩)
  | (show _ ∧ _; exact ⟨by omega, by omega⟩)
  | (show _ ∧ _; exact ⟨by decide, by decide⟩)
  | exact sz1000 (by omega)
  | exact sz1000' (by omega))
local macro_rules | `(tactic| walk_at "sz") => `(tactic| first
  | exact sz1000 (Nat.le_of_ble_eq_true rfl)
  | exact sz1000 (by omega)
  | exact sz1000'' (by omega)
  | assumption)
/-- one step of a reading: a slot, an operator upon numbers, a call upon values -/
local macro_rules | `(tactic| walk_at "rd") => `(tactic| first
  | refine ⟨_, (rfl : (_ : List (Option V))[_]? = some (some _)), ?_⟩
  | refine ⟨_, _, (rfl : (_ : V) = _), (rfl : (_ : V) = _), (by walk_at "sd" : (_ : Prop)), ?_⟩
  | refine ⟨_, _, (rfl : (_ : V) = _), (rfl : (_ : V) = _), ?_⟩
  | refine ⟨_, (rfl : (_ : List V) = _), (by walk_at "sd" : (_ : Prop)), (by walk_at "sd" : (_ : Prop)), ?_⟩
  | refine ⟨_, (rfl : (_ : List V) = _), ?_⟩
  | refine ⟨_, (rfl : (_ : V) = _), ?_⟩
  | refine .inl ⟨_, (rfl : (_ : List V) = _), ?_⟩
  | refine ⟨⟨_, (rfl : (_ : V) = _)⟩, ?_⟩
  | refine ⟨(rfl : scal _ _ = true), ?_⟩
  | refine ⟨(rfl : V.non = V.non), ?_⟩
  | refine ⟨(by walk_at "sz" : (_ ≤ sizeLine)), ?_⟩)
local macro_rules | `(tactic| walk_at "rds") => `(tactic| repeat walk_at "rd")
theorem tyes {σ : L2.St} {H : Hp} {A B : Hp → Prop} (h : A H) : tYes σ H (fun b H3 => if b = true then A H3 else B H3) := by
  show (if true = true then A H else B H)
  rw [if_pos rfl]
  exact h
theorem sum_ones {ys : List Str} (h : ∀ y ∈ ys, y.length = 1) : (ys.map (fun x => x.length)).sum = ys.length := by
  induction ys with
  | nil => rfl
  | cons y r ih =>
    rw [List.map_cons, List.sum_cons, ih (fun z hz => h z (List.mem_cons_of_mem _ hz)), h y List.mem_cons_self, List.length_cons]
    omega
theorem chr_at {z : Str} {i : Int} (h0 : 0 ≤ i) (h1 : i < z.length) : ∃ c, atI z.cps.toList i = some c := by
  obtain ⟨j, rfl⟩ := Int.eq_ofNat_of_zero_le h0
  have hj : j < z.cps.toList.length := by
    rw [Array.length_toList]
    exact Int.ofNat_lt.mp h1
  exact ⟨z.cps.toList[j], atI_nat (List.getElem?_eq_getElem hj)⟩
/-- what an append to a tracked new list leaves -/
theorem lst_app {α : Type} {H : Hp} {D : Addr} {f : α → V} {ys : List α} {y : α} : upd H D (.lst (ys.map f ++ [f y])) D = some (.lst ((ys ++ [y]).map f)) := by
  rw [upd_same, List.map_append]
  rfl
theorem rg40 {n : Nat} (h : n ≤ 100000) : RgC 0 n 40 ((n + 39) / 40) := by
  have e : Builtin.Range.rangeSize 0 (n : Int) 40 = (((n + 39) / 40 : Nat) : Int) := by
    rw [rangeSize_pos (by decide) (by omega)]
    omega
  refine ⟨by decide, by decide, ?_, e⟩
  unfold Builtin.Range.small
  rw [e]
  unfold Builtin.Range.rangeFitsLong
  simp
  omega
theorem isi {K : PySem.W.Frag} {H : Hp} {x : V} {T1 T2 : String} {b : Bool} {Q : VK} (ty : TyX K H x (.type T1)) (e : kitB T1 T2 = some b) (q : Q (.bl b) H) : rIsi K [x, .ty T2] H Q :=
  ⟨x, .ty T2, _, _, b, rfl, .ty _, ty, kit_ty e, q⟩
theorem ifT {c : Bool} {A B : Prop} (hc : c = true) (h : A) : if c = true then A else B := by
  rw [if_pos hc]
  exact h
theorem ifF {c : Bool} {A B : Prop} (hc : c = false) (h : B) : if c = true then A else B := by
  rw [if_neg (by rw [hc]; decide)]
  exact h
local macro_rules | `(tactic| walk_at "isk") => `(tactic| first
  | exact .base (.int _) | exact .base (.str _) | exact .base (.bl _) | exact .base .non
  | exact .base (.lst (by assumption)) | exact .base (.tup (by assumption)) | exact .base (.dK (by assumption)))
/-- isinstance(x, T) with a built-in T; the object's fact stands in the context -/
local macro_rules | `(tactic| walk_at "isi") => `(tactic| first
  | refine ⟨_, .ty _, _, _, true, (rfl : (_ : List V) = _), .ty _, (by walk_at "isk"), kit_ty (by decide +kernel), ?_⟩
  | refine ⟨_, .ty _, _, _, false, (rfl : (_ : List V) = _), .ty _, (by walk_at "isk"), kit_ty (by decide +kernel), ?_⟩)
/-! ### classes of the top -/
structure MethOk (K : PySem.W.Frag) (C : Addr) (m qual : Str) (st : Stmt) (ps : List Str) : Prop where
  ex : ∃ (f : Addr) (fd : FuncData), Meth K C m f ∧ L2.Fun K m qual st f fd ∧ Binds K fd ps []
structure MakOk (K : PySem.W.Frag) (C : Addr) (qual : Str) (st : Stmt) (ps : List Str) : Prop where
  ex : ∃ (f : Addr) (fd : FuncData), Mk K C f ∧ L2.Fun K "__init__" qual st f fd ∧ Binds K fd ps []
section
variable {P : Program} {w : World} {K : PySem.W.Frag} {mg : Str → Option Value} {base : Heap}
theorem met {C : Addr} {m qual : Str} {st : Stmt} {N ps : List Str} {k : Nat} {sp : Sp} (c : Cls K C) (D : MethOk K C m qual st ps) (S : FnScope N ps (defScope st)) (len : ∀ vs H Q E, sp vs H Q E → vs.length = ps.length)
    (hbody : ∀ (f : Addr) (cdv : Value) (A : Around) (outer : List Env) (s : Shared) (H : Hp) (vs : List V) (Q : VK) (E : XK), Room k (A.deeper (envOfC qual (defScope st) s.heap.objs.size f cdv)) → sp vs H Q E →
      ∃ t, PSs (cxOf L2.CX0 P w K mg base N qual (defScope st) f cdv A outer s H E).nox (defBody st) t ∧ t { nx := fun _ H' => Q .non H', rt := Q } (start N vs) H) : Met P w K mg base (k + 1) C m sp [] := by
  obtain ⟨f, fd, M, F, b⟩ := D.ex
  exact ⟨f, fd, ps, [], c, M, F.ok S len (fun cdv A outer s H vs Q E hr h => hbody f cdv A outer s H vs Q E hr h), b, .nil⟩
theorem mak {C : Addr} {x qual : Str} {st : Stmt} {N ps : List Str} {k : Nat} {sp : Sp} (hm : mg x = some (.ref C)) (D : MakOk K C qual st ps) (S : FnScope N ps (defScope st)) (len : ∀ vs H Q E, sp vs H Q E → vs.length = ps.length)
    (hbody : ∀ (f : Addr) (cdv : Value) (A : Around) (outer : List Env) (s : Shared) (H : Hp) (vs : List V) (Q : VK) (E : XK), Room k (A.deeper (envOfC qual (defScope st) s.heap.objs.size f cdv)) → sp vs H Q E →
      ∃ t, PSs (cxOf L2.CX0 P w K mg base N qual (defScope st) f cdv A outer s H E).nox (defBody st) t ∧ t { nx := fun _ H' => Q .non H', rt := Q } (start N vs) H) : Mak P w K mg base (k + 1) x C sp [] := by
  obtain ⟨f, fd, M, F, b⟩ := D.ex
  exact ⟨f, fd, ps, [], M, F.ok S len (fun cdv A outer s H vs Q E hr h => hbody f cdv A outer s H vs Q E hr h), hm, b, .nil⟩
end
/-- a tuple of the top, in the written part -/
def KTup (K : PySem.W.Frag) (a : Addr) (xs : List V) : Prop := ∃ o its n, K.lookup a = some o ∧ o.cls = Value.type "tuple" ∧ o.data = Data.seq its n ∧ its.size ≤ sizeLine ∧ Vals xs its.toList
theorem pe_mk0 {X : Cx} {k j : Nat} {x : Str} {C : Addr} {sp : Sp} {dvs : List V} {p pos : Pos} (c : Mak X.prog X.w X.K X.mg X.base k x C sp dvs) (hr : Room j X.A) (hk : k + 1 ≤ j) (hg : Gl X x)
    (hdb : (x == ("__debug__" : Str)) = false := by decide) : PE X (.Call (.Name x p) [] [] pos) (tMake C sp dvs L2.E0 tNil) := by
  obtain ⟨f, fd, ps, ds, M, F, hm, b, d⟩ := c.ex
  exact pe_make0 M F (hr.mono hk) hg hm b d pass0 hdb
/-! ### rules whose written part is named K (a comprehension's context is another one) -/
section
variable {X : Cx} {K : PySem.W.Frag}
theorem kin (h : X.K = K := by rfl) : OpR X (compareOp .In) (rIn K false) := by subst h; exact op_in_seq
theorem knin (h : X.K = K := by rfl) : OpR X (compareOp .NotIn) (rIn K true) := by subst h; exact op_notIn_seq
theorem kixl (h : X.K = K := by rfl) : IxR X (rIxL K) := by subst h; exact ix_list
theorem kixt (h : X.K = K := by rfl) : IxR X (rIxT K) := by subst h; exact ix_tup
theorem ksll (h : X.K = K := by rfl) : SlR X (rSlL K) := by subst h; exact sl_list
theorem kisi (h : X.K = K := by rfl) : CallR X (.builtin "isinstance") (rIsi K) := by subst h; exact call_isi
theorem kfld {o : Expr} {f : Str} {pos : Pos} {ta : TE} (he : PE X o ta) (hb : attributeBase o f X.env (eval o X.env) = eval o X.env := by rfl) (h : X.K = K := by rfl) : PE X (.Attribute o f pos) (tFld K ta f) := by subst h; exact pe_fld he hb
def rLenK (K : PySem.W.Frag) : List V → Hp → VK → Prop := fun xs H Q => ∃ p ys, xs = [.ref p] ∧ (SqL K H p ys ∨ SqT K H p ys) ∧ Q (.int ys.length) H
theorem klen (h : X.K = K := by rfl) : CallR X (.builtin "len") (rLenK K) := by subst h; exact call_len_seq
end
theorem hu1 {k : Nat} {A : Around} (hr : Room k A) : A.units + 1 < cLine := by have := hr.units; omega
section
variable {X : Cx}
theorem kdin {d : Addr} (h : ∃ es n, KDict X.K X.w d es n) : OpR X (compareOp .In) (fun x y H Q => ∃ (z : Str) (r : Option Value), x = .str z ∧ y = .ref d ∧ PySem.W.nsIn X.K d z = some r ∧ Q (.bl r.isSome) H) := by
  obtain ⟨es, n, D⟩ := h
  exact op_in_kd D
theorem kdnin {d : Addr} (h : ∃ es n, KDict X.K X.w d es n) : OpR X (compareOp .NotIn) (fun x y H Q => ∃ (z : Str) (r : Option Value), x = .str z ∧ y = .ref d ∧ PySem.W.nsIn X.K d z = some r ∧ Q (.bl (!r.isSome)) H) := by
  obtain ⟨es, n, D⟩ := h
  exact op_notIn_kd D
end
theorem kgtup {X : Cx} {K : PySem.W.Frag} {es : List Expr} {k : Nat} {t : TGs} {n : Nat} {pos : Pos} (hc : X.calm = true) (h : PGs X es t)
    (hn : (assignEach es X.env).length = n := by rfl) (hst : (assignEach es X.env).findIdx? (·.1) = none := by rfl) (hK : X.K = K := by rfl) : PG X (.Tuple es k pos) (gTup K n t) := by subst hK; exact pg_tup hc h hn hst
theorem hu65 {A : Around} {k : Nat} (hr : Room k A) : A.units + 65 < cLine := by have := hr.un; omega
theorem keqD {X : Cx} {K : PySem.W.Frag} (hu : X.A.units + 64 < cLine) (h : X.K = K := by rfl) : OpR X (compareOp .Eq) (rEqD K) := by subst h; exact op_eqD hu
theorem kneD {X : Cx} {K : PySem.W.Frag} (hu : X.A.units + 64 < cLine) (h : X.K = K := by rfl) : OpR X (compareOp .NotEq) (rNeD K) := by subst h; exact op_neD hu

/-! ### defs that raise own exceptions -/
theorem kit_tyB {K : PySem.W.Frag} {B : Addr} {T : String} (hm : PySem.W.kitMeta T = true) (h : PySem.W.subIn K (.ref B) (.type T) = some true) : PySem.W.kitOne K (.ref B) (.type T) = some true := by
  unfold PySem.W.kitOne
  rw [if_neg (by rw [show ((Value.ref B : Value) == .type T) = false from rfl]; exact Bool.false_ne_true)]
  show (if PySem.W.kitMeta T = true then PySem.W.subIn K (.ref B) (.type T) else none) = some true
  rw [if_pos hm]; exact h
theorem kit_own {K : PySem.W.Frag} {B C : Addr} (h1 : PySem.W.subIn K (.ref C) (.type "BaseException") = some true) (h2 : PySem.W.typeIn K (.ref C) = some (.type "type")) (h3 : PySem.W.subIn K (.ref B) (.ref C) = some true) : PySem.W.kitOne K (.ref B) (.ref C) = some true := by
  have h0 : (PySem.W.clsIn K C).isSome = true := by
    have h1 : PySem.W.mroIn K C (.type "BaseException") = some true := h1
    unfold PySem.W.mroIn at h1
    cases e : PySem.W.clsIn K C with
    | some _ => rfl
    | none => rw [e] at h1; cases h1
  unfold PySem.W.kitOne
  split
  · rfl
  · show (if ((PySem.W.clsIn K C).isSome && PySem.W.typeIn K (.ref C) == some (.type "type")) = true then PySem.W.subIn K (.ref B) (.ref C) else none) = some true
    rw [h0, h2, h3]
    rfl
section
variable {X : Cx}
/-- C() of an own exception class without an __init__ of its own -/
theorem pmk_own0 {x : Str} {C : Addr} {bmB : List Value} {B newId initId : String} {p pos : Pos} (F : ExcBaseFacts B newId initId bmB) (q : PySem.W.excIn X.K C bmB newId = true) (gC : X.mg x = some (.ref C)) (kC : PySem.W.keepIn X.K (.ref C) = true) (r : Raises X (.ref C)) (hg : Gl X x)
    (hdb : (x == ("__debug__" : Str)) = false := by decide) : PMk X (.Call (.Name x p) [] [] pos) (fun _ H Q => Q (.ref C) none H) := by
  intro pins s σ H Q I h
  refine wpAny_Call_Name_kw (ld_glob I hg gC ?_ hdb)
  refine PySem.W.callWith_K0 I.kIn kC ?_
  show wpAny _ _ (call (.ref C) []) _ _ _
  obtain ⟨bm, N, nm, qn, bs, hdct, sn, sub, ab, col, dd, k0, k1, k2, k3, k5, mN, hC, hN, hni, T⟩ := exc_obj I.kIn q
  refine wpAny_call_exc_subT F T hC hN hni (fun h' e hm => ?_) (Nat.zero_le _)
  exact mk_of I hm r h (I.hok.gone hm.new)
end
/-- an own exception class over ValueError -/
structure ExOk (K : PySem.W.Frag) (mg : Str → Option Value) (x : Str) (C : Addr) : Prop where
  ex : PySem.W.excIn K C [.type "ValueError", .type "Exception", .type "BaseException", .type "object"] "ValueError.__new__" = true
  g : mg x = some (.ref C)
  kp : PySem.W.keepIn K (.ref C) = true
  bp : PySem.W.subIn K (.ref C) (.type "BaseException") = some true
  tp : PySem.W.typeIn K (.ref C) = some (.type "type")
  hd : PySem.W.hasDictIn K C = true
theorem ExOk.exm {K : PySem.W.Frag} {mg : Str → Option Value} {x : Str} {C : Addr} {cls : Value} {b : Bool} (e : ExOk K mg x C) (h : PySem.W.subIn K cls (.ref C) = some b) : PySem.W.exmOne K cls (.ref C) = some b := PySem.W.exm_ref e.bp e.hd e.tp h
theorem pmk_ok {X : Cx} {x : Str} {C : Addr} {p pos : Pos} (e : ExOk X.K X.mg x C) (hg : Gl X x) (hdb : (x == ("__debug__" : Str)) = false := by decide) : PMk X (.Call (.Name x p) [] [] pos) (fun _ H Q => Q (.ref C) none H) :=
  pmk_own0 PySem.F.excBase_ValueError e.ex e.g e.kp (raises_own e.bp e.tp) hg hdb
/-! the promises of such defs -/
structure CalX (P : Program) (w : World) (K : PySem.W.Frag) (mg : Str → Option Value) (base : Heap) (k : Nat) (x : Str) (sp : Sp) : Prop where
  ex : ∃ (f : Addr) (fd : FuncData) (ps : List Str), FnOk P w K mg base (L2.CX P w) k f fd ps sp ∧ mg x = some (.ref f) ∧ PySem.W.keepIn K (.ref f) = true ∧ Binds K fd ps []
structure MetX (P : Program) (w : World) (K : PySem.W.Frag) (mg : Str → Option Value) (base : Heap) (k : Nat) (C : Addr) (m : Str) (sp : Sp) : Prop where
  ex : ∃ (f : Addr) (fd : FuncData) (ps : List Str), Cls K C ∧ Meth K C m f ∧ FnOk P w K mg base (L2.CX P w) k f fd ps sp ∧ Binds K fd ps []
structure MakX (P : Program) (w : World) (K : PySem.W.Frag) (mg : Str → Option Value) (base : Heap) (k : Nat) (x : Str) (C : Addr) (sp : Sp) : Prop where
  ex : ∃ (f : Addr) (fd : FuncData) (ps : List Str), Mk K C f ∧ FnOk P w K mg base (L2.CX P w) k f fd ps sp ∧ mg x = some (.ref C) ∧ Binds K fd ps []
section
variable {P : Program} {w : World} {K : PySem.W.Frag} {mg : Str → Option Value} {base : Heap}
theorem calX {x : Str} {st : Stmt} {N ps : List Str} {k : Nat} {sp : Sp} (D : DefOk K mg x st ps) (S : FnScope N ps (defScope st)) (len : ∀ vs H Q E, sp vs H Q E → vs.length = ps.length)
    (hbody : ∀ (f : Addr) (cdv : Value) (A : Around) (outer : List Env) (s : Shared) (H : Hp) (vs : List V) (Q : VK) (E : XK), Room k (A.deeper (envOfC x (defScope st) s.heap.objs.size f cdv)) → sp vs H Q E →
      ∃ t, PSs (cxOf (L2.CX P w) P w K mg base N x (defScope st) f cdv A outer s H E) (defBody st) t ∧ t { nx := fun _ H' => Q .non H', rt := Q } (start N vs) H) : CalX P w K mg base (k + 1) x sp := by
  obtain ⟨f, fd, F, hm, b⟩ := D.ex
  exact ⟨f, fd, ps, F.okX S len (fun cdv A outer s H vs Q E hr h => hbody f cdv A outer s H vs Q E hr h), hm, F.kp, b⟩
theorem metX {C : Addr} {m qual : Str} {st : Stmt} {N ps : List Str} {k : Nat} {sp : Sp} (c : Cls K C) (D : MethOk K C m qual st ps) (S : FnScope N ps (defScope st)) (len : ∀ vs H Q E, sp vs H Q E → vs.length = ps.length)
    (hbody : ∀ (f : Addr) (cdv : Value) (A : Around) (outer : List Env) (s : Shared) (H : Hp) (vs : List V) (Q : VK) (E : XK), Room k (A.deeper (envOfC qual (defScope st) s.heap.objs.size f cdv)) → sp vs H Q E →
      ∃ t, PSs (cxOf (L2.CX P w) P w K mg base N qual (defScope st) f cdv A outer s H E) (defBody st) t ∧ t { nx := fun _ H' => Q .non H', rt := Q } (start N vs) H) : MetX P w K mg base (k + 1) C m sp := by
  obtain ⟨f, fd, M, F, b⟩ := D.ex
  exact ⟨f, fd, ps, c, M, F.okX S len (fun cdv A outer s H vs Q E hr h => hbody f cdv A outer s H vs Q E hr h), b⟩
theorem makX {C : Addr} {x qual : Str} {st : Stmt} {N ps : List Str} {k : Nat} {sp : Sp} (hm : mg x = some (.ref C)) (D : MakOk K C qual st ps) (S : FnScope N ps (defScope st)) (len : ∀ vs H Q E, sp vs H Q E → vs.length = ps.length)
    (hbody : ∀ (f : Addr) (cdv : Value) (A : Around) (outer : List Env) (s : Shared) (H : Hp) (vs : List V) (Q : VK) (E : XK), Room k (A.deeper (envOfC qual (defScope st) s.heap.objs.size f cdv)) → sp vs H Q E →
      ∃ t, PSs (cxOf (L2.CX P w) P w K mg base N qual (defScope st) f cdv A outer s H E) (defBody st) t ∧ t { nx := fun _ H' => Q .non H', rt := Q } (start N vs) H) : MakX P w K mg base (k + 1) x C sp := by
  obtain ⟨f, fd, M, F, b⟩ := D.ex
  exact ⟨f, fd, ps, M, F.okX S len (fun cdv A outer s H vs Q E hr h => hbody f cdv A outer s H vs Q E hr h), hm, b⟩
end
/-! their calls: E tells at the slots what is wished of an error -/
section
variable {X : Cx} {k j : Nat} {C : Addr} {x m : Str} {sp : Sp} {p pos apos : Pos} {e o : Expr} {es : List Expr} {ta : TE} {t : TA} {E : L2.St → XK}
theorem pe_cX (c : CalX X.prog X.w X.K X.mg X.base k x sp) (hr : Room j X.A) (hk : k ≤ j) (hg : Gl X x) (hx : ∀ σ, PassesAt (L2.CX X.prog X.w) X σ (E σ)) (ha : PA X (e :: es) t)
    (hdb : (x == ("__debug__" : Str)) = false := by decide) (he : starEach (e :: es) X.env = (false, eval e X.env) :: starEach es X.env := by rfl) (hpl : (backTo pos (starEach es X.env)).any (·.1) = false := by rfl) :
    PE X (.Call (.Name x p) (e :: es) [] pos) (tCallS sp E t) := by
  obtain ⟨f, fd, ps, F, hm, kp, b⟩ := c.ex
  exact pe_callS F (hr.mono hk) hg hm kp b hx ha hdb he hpl
/-- where nothing is raised -/
theorem pe_cXn (c : CalX X.prog X.w X.K X.mg X.base k x sp) (hr : Room j X.A) (hk : k ≤ j) (hg : Gl X x) (ha : PA X (e :: es) t)
    (hdb : (x == ("__debug__" : Str)) = false := by decide) (he : starEach (e :: es) X.env = (false, eval e X.env) :: starEach es X.env := by rfl) (hpl : (backTo pos (starEach es X.env)).any (·.1) = false := by rfl) :
    PE X (.Call (.Name x p) (e :: es) [] pos) (tCall sp [] L2.E0 t) := by
  obtain ⟨f, fd, ps, F, hm, kp, b⟩ := c.ex
  exact pe_call F (hr.mono hk) hg hm kp b .nil passL ha hdb he hpl
def tMethX (C : Addr) (m : Str) (sp : Sp) (E : L2.St → XK) (ta : TE) (t : TA) : TE := fun σ H Q => ta σ H fun x H1 => ∃ a dx fs, x = .ref a ∧ H1 a = some (.ins C dx fs) ∧ fs.lookup m = none ∧ t σ H1 fun vs H2 => sp (.ref a :: vs) H2 Q (E σ)
theorem pe_mtX {pl : Sem Bool} (c : MetX X.prog X.w X.K X.mg X.base k C m sp) (hr : Room j X.A) (hk : k ≤ j) (hx : ∀ σ, PassesAt (L2.CX X.prog X.w) X σ (E σ)) (he : PE X o ta) (ha : PA X (e :: es) t)
    (hst : starEach (e :: es) X.env = (false, eval e X.env) :: starEach es X.env := by rfl) (hpl : (backTo pos (starEach es X.env)).any (·.1) = false := by rfl)
    (ht : eval (.Call (.Attribute o m apos) (e :: es) [] pos) X.env = (do
      let ov ← eval o X.env
      standAt apos.atName
      let (f, first) ← holding [ov] (getMethod ov m pl)
      callWith pos f first (backTo pos (starEach (e :: es) X.env)) (backToKw pos (keywordEach [] X.env))) := by rfl) :
    PE X (.Call (.Attribute o m apos) (e :: es) [] pos) (tMethX C m sp E ta t) := by
  obtain ⟨f, fd, ps, hc, hm, F, b⟩ := c.ex
  refine ⟨fun pins s σ H Q I h => ?_⟩
  refine PySem.W.methodCall_KW (pl := pl) (thn (he.run pins s σ H _ I h) fun u s1 ⟨x, H1, I1, rx, a, dx, fs, ex, ea, l, q⟩ => ?_) ht
  subst ex
  obtain rfl : u = Value.ref a := rx
  refine getmeth_ok I1 ea hc hm l ?_
  refine PySem.W.callWith_K (first := [.ref a]) (h₀ := X.base) I.ok.mod.kin hm.kp (thn (ha.run pos pins s1 σ H1 _ I1 q) fun us s2 ⟨vs, H2, I2, r, q2⟩ => ⟨I2.kIn, ?_⟩) hst hpl
  exact run_fnS (us := .ref a :: us) (vs := .ref a :: vs) F (hr.mono hk) b (hx σ) I2 (.cons rfl r) q2
theorem pe_mtX0 {pl : Sem Bool} (c : MetX X.prog X.w X.K X.mg X.base k C m sp) (hr : Room j X.A) (hk : k ≤ j) (hx : ∀ σ, PassesAt (L2.CX X.prog X.w) X σ (E σ)) (he : PE X o ta)
    (ht : eval (.Call (.Attribute o m apos) [] [] pos) X.env = (do
      let ov ← eval o X.env
      standAt apos.atName
      let (f, first) ← holding [ov] (getMethod ov m pl)
      callWith pos f first (backTo pos (starEach [] X.env)) (backToKw pos (keywordEach [] X.env))) := by rfl) :
    PE X (.Call (.Attribute o m apos) [] [] pos) (tMethX C m sp E ta tNil) := by
  obtain ⟨f, fd, ps, hc, hm, F, b⟩ := c.ex
  refine ⟨fun pins s σ H Q I h => ?_⟩
  refine PySem.W.methodCall_KW (pl := pl) (thn (he.run pins s σ H _ I h) fun u s1 ⟨x, H1, I1, rx, a, dx, fs, ex, ea, l, q⟩ => ?_) ht
  subst ex
  obtain rfl : u = Value.ref a := rx
  refine getmeth_ok I1 ea hc hm l ?_
  exact PySem.W.callWith_K0 (first := [.ref a]) I1.kIn hm.kp (run_fnS (us := [.ref a]) (vs := [.ref a]) F (hr.mono hk) b (hx σ) I1 (.cons rfl .nil) q)
def tMakeX (C : Addr) (sp : Sp) (E : L2.St → XK) (t : TA) : TE := fun σ H Q => t σ H fun vs H1 => ∀ x dx, H1 x = none → H1 dx = none → dx ≠ x → sp (.ref x :: vs) (upd (upd H1 dx (.own x)) x (.ins C dx [])) (fun v H2 => v = .non ∧ Q (.ref x) H2) (E σ)
theorem run_makeX {CX : CXT} {f : Addr} {fd : FuncData} {ps : List Str} {pins : List (Addr × Obj)} {σ : L2.St} {H : Hp} {s : Shared} {Q : VK} {us : List Value} {vs : List V} {Eσ : XK} (M : Mk X.K C f) (F : FnOk X.prog X.w X.K X.mg X.base CX k f fd ps sp) (hr : Room (k + 1) X.A) (hb : Binds X.K fd ps [])
    (hx : PassesAt CX X σ Eσ) (I : Inv X pins σ H s) (r : Vals vs us)
    (h : ∀ x dx, H x = none → H dx = none → dx ≠ x → sp (.ref x :: vs) (upd (upd H dx (.own x)) x (.ins C dx [])) (fun v H2 => v = .non ∧ Q (.ref x) H2) Eσ) :
    wpAny (model X.prog X.w) X.A (call (.ref C) us) (EP X pins σ Q) X.xe s := by
  have hq := h (s.heap.objs.size + 1) s.heap.objs.size (I.hok.fresh (Nat.le_succ _)) (I.hok.fresh (Nat.le_refl _)) (Nat.ne_of_lt (Nat.lt_succ_self _))
  have I2 := Inv.made (C := C) I
  have r2 : Vals (V.ref (s.heap.objs.size + 1) :: vs) (Value.ref (s.heap.objs.size + 1) :: us) := .cons rfl r
  have hl : (Value.ref (s.heap.objs.size + 1) :: us ++ ([] : List Value)).length = ps.length := by
    have e := r2.length
    rw [F.len _ _ _ _ hq] at e
    rw [List.append_nil]
    exact e.symm
  have hb' := hb _ (Value.ref (s.heap.objs.size + 1) :: us) I2.kIn hl
  rw [List.append_nil] at hb'
  refine wpAny_call (make_map (f := f) I.kIn M.makes M.init (beq_iff_eq.mp M.fn) (codeAny_mono (F.run _ X.stack _ _ ⟨Value.ref (s.heap.objs.size + 1) :: us, []⟩ (Value.ref (s.heap.objs.size + 1) :: us) _ _ Eσ (hr.make C us [])
    (I2.env0.make C us []) hb' r2 hq) fun r s' hq' => ?_))
  cases r with
  | error e => exact hx pins _ _ e s' I2 hq'
  | ok fl =>
    cases fl with
    | ret u =>
      obtain ⟨v, H', I3, rv, ev, q3⟩ := I2.after hq'
      subst ev
      exact ⟨rv, ⟨V.ref (s.heap.objs.size + 1), H', I3, rfl, q3⟩⟩
    | next => exact False.elim hq'
    | brk => exact False.elim hq'
    | cont => exact False.elim hq'
theorem pe_mkX (c : MakX X.prog X.w X.K X.mg X.base k x C sp) (hr : Room j X.A) (hk : k + 1 ≤ j) (hg : Gl X x) (hx : ∀ σ, PassesAt (L2.CX X.prog X.w) X σ (E σ)) (ha : PA X (e :: es) t)
    (hdb : (x == ("__debug__" : Str)) = false := by decide) (he : starEach (e :: es) X.env = (false, eval e X.env) :: starEach es X.env := by rfl) (hpl : (backTo pos (starEach es X.env)).any (·.1) = false := by rfl) :
    PE X (.Call (.Name x p) (e :: es) [] pos) (tMakeX C sp E t) := by
  obtain ⟨f, fd, ps, M, F, hm, b⟩ := c.ex
  refine ⟨fun pins s σ H Q I h => ?_⟩
  refine wpAny_Call_Name_kw (ld_glob I hg hm ?_ hdb)
  refine PySem.W.callWith_K (h₀ := X.base) I.ok.mod.kin M.kp (thn (ha.run pos pins s σ H _ I h) fun us s1 ⟨vs, H1, I1, r, q⟩ => ⟨I1.kIn, ?_⟩) he hpl
  exact run_makeX M F (hr.mono hk) b (hx σ) I1 r q
/-- where nothing is let out: for the calls above in a def without errors -/
theorem no_pass : ∀ σ : L2.St, PassesAt (L2.CX X.prog X.w) X σ ((fun _ => L2.E0) σ) := fun σ pins H s e s' I c => passL pins σ H s e s' I c
end
/-- a for's body that is one try: kept together, so that for_it can name it -/
def tBody (t : TS) : TS := t
theorem pss_body {X : Cx} {b : List Stmt} {t : TS} (h : PSs X b t) : PSs X b (tBody t) := h

/-! ### own exceptions with an __init__ of their own -/
structure ExI (K : PySem.W.Frag) (mg : Str → Option Value) (x : Str) (C : Addr) : Prop where
  g : mg x = some (.ref C)
  ox : OexC K C
  xf : XfC K C
theorem ExI.exm {K : PySem.W.Frag} {mg : Str → Option Value} {x : Str} {C : Addr} {cls : Value} {b : Bool} (e : ExI K mg x C) (h : PySem.W.subIn K cls (.ref C) = some b) : PySem.W.exmOne K cls (.ref C) = some b := PySem.W.exm_ref e.ox.exC e.xf.hdC e.ox.tyC h
structure ExInit (K : PySem.W.Frag) (C : Addr) (qual : Str) (st : Stmt) (ps : List Str) : Prop where
  ex : ∃ (f : Addr) (fd : FuncData), PySem.W.findIn K (.ref C) "__init__" = some (some (.ref f)) ∧ PySem.W.typeIn K (.ref f) = some (.type "function") ∧ L2.Fun K "__init__" qual st f fd ∧ Binds K fd ps []
structure ExMk (P : Program) (w : World) (K : PySem.W.Frag) (mg : Str → Option Value) (base : Heap) (k : Nat) (x : Str) (C : Addr) (sp : Sp) : Prop where
  ex : ∃ (f : Addr) (fd : FuncData) (ps : List Str), OexC K C ∧ PySem.W.findIn K (.ref C) "__init__" = some (some (.ref f)) ∧ PySem.W.typeIn K (.ref f) = some (.type "function") ∧ FnOk P w K mg base L2.CX0 k f fd ps sp ∧ Binds K fd ps [] ∧ mg x = some (.ref C)
section
variable {P : Program} {w : World} {K : PySem.W.Frag} {mg : Str → Option Value} {base : Heap}
theorem exmk {C : Addr} {x qual : Str} {st : Stmt} {N ps : List Str} {k : Nat} {sp : Sp} (e : ExI K mg x C) (D : ExInit K C qual st ps) (S : FnScope N ps (defScope st)) (len : ∀ vs H Q E, sp vs H Q E → vs.length = ps.length)
    (hbody : ∀ (f : Addr) (cdv : Value) (A : Around) (outer : List Env) (s : Shared) (H : Hp) (vs : List V) (Q : VK) (E : XK), Room k (A.deeper (envOfC qual (defScope st) s.heap.objs.size f cdv)) → sp vs H Q E →
      ∃ t, PSs (cxOf L2.CX0 P w K mg base N qual (defScope st) f cdv A outer s H E).nox (defBody st) t ∧ t { nx := fun _ H' => Q .non H', rt := Q } (start N vs) H) : ExMk P w K mg base (k + 1) x C sp := by
  obtain ⟨f, fd, h1, h2, F, b⟩ := D.ex
  exact ⟨f, fd, ps, e.ox, h1, h2, F.ok S len (fun cdv A outer s H vs Q E hr h => hbody f cdv A outer s H vs Q E hr h), b, e.g⟩
end
theorem pmk_ei {X : Cx} {k j : Nat} {x : Str} {C : Addr} {sp : Sp} {ta : TA} {p pos : Pos} {e : Expr} {es : List Expr} (c : ExMk X.prog X.w X.K X.mg X.base k x C sp) (hr : Room j X.A) (hk : k + 1 ≤ j) (hg : Gl X x) (ha : PA X (e :: es) ta)
    (hdb : (x == ("__debug__" : Str)) = false := by decide) (he : starEach (e :: es) X.env = (false, eval e X.env) :: starEach es X.env := by rfl) (hpl : (backTo pos (starEach es X.env)).any (·.1) = false := by rfl) :
    PMk X (.Call (.Name x p) (e :: es) [] pos) (tMkO C sp [] ta) := by
  obtain ⟨f, fd, ps, T, iC, tI, F1, hb, hm⟩ := c.ex
  exact pmk_oex T iC tI F1 (hr.mono hk) hb .nil pass0 hg hm ha hdb he hpl
/-- what an __init__ of two fields leaves -/
def spInit2 (C : Addr) (f g : Str) : Sp := fun vs H Q _ => ∃ (a : Addr) (r s : V), vs = [.ref a, r, s] ∧ H a = some (exo a C none) ∧
  ∀ d, H d = none → d ≠ a → Q .non (upd (upd (upd H d (exd d [(f, r)])) a (exo a C (some d))) d (exd d [(g, s), (f, r)]))
/-- its use where it is raised -/
theorem mk_two {C : Addr} {f g : Str} {H1 : Hp} {Q : XK} {r s : V} (q : ∀ H' d, Same H1 H' → H1 d = none → H' d = some (.xd [(g, s), (f, r)]) → Q (.ref C) (some d) H') :
    ([r, s] : List V).length ≤ 1000 ∧ ∀ a, H1 a = none → spInit2 C f g (.ref a :: ([r, s] ++ [])) (upd H1 a (exo a C none)) (fun v H2 => v = .non ∧ ∃ (d : Addr) (fs : List (Str × V)), H2 a = some (exo a C (some d)) ∧ H2 d = some (exd d fs) ∧ H1 d = none ∧ Q (.ref C) (some d) (upd (del H2 a) d (.xd fs))) (fun _ _ _ => False) := by
  refine ⟨by show 2 ≤ 1000; decide, fun a ha => ⟨a, r, s, rfl, upd_same, fun d hd hne => ⟨rfl, d, [(g, s), (f, r)], ?_, upd_same, ?_, q _ d ?_ ?_ upd_same⟩⟩⟩
  · rw [upd_ne hne.symm, upd_same]
  · rw [upd_ne hne] at hd; exact hd
  · intro b o e
    have hb : b ≠ d := fun z => by rw [z] at e; rw [upd_ne hne] at hd; rw [hd] at e; cases e
    have hba : b ≠ a := fun z => by rw [z, ha] at e; cases e
    rw [upd_ne hb, del_ne hba, upd_ne hb, upd_ne hba, upd_ne hb, upd_ne hba]
    exact e
  · rw [upd_ne hne] at hd; exact hd

/-! ### isinstance(e, C), e an own exception with fields -/
section
open PySem.W PySem.Calls
variable {prog : Program} {w : World} {A : Around} {E : Value → Shared → Prop} {s : Shared} {K : PySem.W.Frag} {x D : Addr} {ox : Obj} {od : Option Obj}
theorem findObj_dataO {C : Addr} {name : Str} {a g : Value} (hc : (clsIn K C).isSome = true) (ha : findIn K (.ref C) name = some (some a)) (hg : specialIn K a "__get__" = some (some g)) (ht : takesIn K a = some true) : findObj K C od name = some (.bind g a) := by
  obtain ⟨cd, hc⟩ := Option.isSome_iff_exists.mp hc
  unfold findObj
  rw [hc, Option.bind_some, ha, Option.bind_some]
  simp [hg, ht]
theorem kin_classD {Q : Option Value → Shared → Prop} (hga : findIn K (.ref D) "__getattribute__" = some (some (.builtin "BaseException.__getattribute__"))) (hgt : findIn K (.ref D) "__getattr__" = some none) (hsub : subIn K (.ref D) (.type "BaseException") = some true)
    (hdct : hasDictIn K D = true) (ha : findIn K (.ref D) "__class__" = some (some (.builtin "object.__class__")))
    (hn : specialIn K (.builtin "object.__class__") "__get__" = some (some (.builtin "getset_descriptor.__get__"))) (htk : takesIn K (.builtin "object.__class__") = some true) (hm : mroIn K D (.type "object") = some true)
    (X : K.In s.heap) (I : InstAt s.heap x ox D od) (h : Q (some (.ref D)) { s with toks := s.toks + 1 }) : wpAny (model prog w) A (getAttr? (.ref x) "__class__") Q E s := by
  have hf : findObj K D od "__class__" = some (.bind (.builtin "getset_descriptor.__get__") (.builtin "object.__class__")) := findObj_dataO (by obtain ⟨cd, hc, _⟩ := any_some hdct; rw [hc]; rfl) ha hn htk
  obtain ⟨hp, g, d, t, os⟩ := s
  have L0 := I.type (M := model prog w)
  have L1 := looks_findIn (M := model prog w) X hga
  have L2 := looks_findIn (M := model prog w) X hgt
  have L3 := looks_find (M := model prog w) X I hf
  have sub : Looks (model prog w) hp (isInstance (.ref x) (.type "BaseException")) true := L0.andThen (looks_subIn X hsub)
  have hx0 : (false && onTheHeap (Value.builtin "BaseException.__getattribute__")) = false := rfl
  have hx2 : (Value.builtin "BaseException.__getattribute__" == Value.builtin "object.__getattribute__") = false := by decide +kernel
  have hx1 : (onTheHeap (Value.ref D) && Value.builtin "BaseException.__getattribute__" == Value.builtin "object.__getattribute__") = false := by rw [hx2]; rfl
  unfold getAttr? getAttrBy? getAttrBy
  refine wpAny_bind (wpAny_mkText (wpAny_bind (wpAny_attempt (wpAny_holding (wpAny_bind (L0.at (wpAny_bind (L1.at ?_))))))))
  show wpAny _ _ (if (onTheHeap (Value.ref D) && Value.builtin "BaseException.__getattribute__" == Value.builtin "object.__getattribute__") = true then _ else _) _ _ _
  rw [hx1, if_neg Bool.false_ne_true]
  unfold getAttrByItsOwn hookBefore
  refine wpAny_bind ?_
  rw [if_pos (show onTheHeap (Value.ref D) = true from rfl)]
  refine L2.at ?_
  refine wpAny_bind (wpAny_attempt (wpAny_holding ?_))
  unfold callGetattribute
  rw [hx0, if_neg Bool.false_ne_true]
  unfold boundAndCalled
  rw [PySem.F.excAttr_ValueError.ga.bind (.ref x)]
  refine wpAny_bind (wpAny_pure ?_)
  show wpAny _ _ (call (.builtin "BaseException.__getattribute__") [.ref x, .str "__class__" t]) _ _ _
  refine wpAny_call (codeAny_call_builtin PySem.F.excAttr_ValueError.ga.plain PySem.F.entry_bexc_ga ?_)
  refine @check_slot (model prog w) _ _ ⟨hp, g, d, t + 1, os⟩ "BaseException.__getattribute__" "BaseException" "__getattribute__" (.ref x) [.str "__class__" t] [] _ (by decide +kernel) (by decide +kernel) sub (PySem.F.args_bexc_ga (.ref x) (.str "__class__" t)) ?_
  unfold Builtin.«object.__getattribute__»
  refine wpAny_bind (wpAny_of_eq (a := ((Value.ref x : Value), [Value.str "__class__" t])) (by first | rfl | (simp only [slotArgs]; rfl)) ?_)
  refine wpAny_bind (wpAny_pure (wpAny_bind (L0.at (wpAny_bind (L3.at ?_)))))
  show wpAny _ _ (holding [Value.builtin "object.__class__"] (call (.builtin "getset_descriptor.__get__") [.builtin "object.__class__", .ref x, .ref D]) >>= ret) _ _ _
  refine wpAny_bind (wpAny_holding (wpAny_call (class_get (s := ⟨hp, g, d, t + 1, os⟩) (ox := ox) (od := od) X I hm ?_)))
  refine wpAny_pure ?_
  show wpAny _ _ (handedOut (.ref D)) _ _ _
  rw [handedOut_of (v := .ref D) rfl]
  first
    | exact wpAny_pure (wpAny_pure h)
    | exact wpAny_pure h
    | exact wpAny_pure (wpAny_bind (wpAny_pure (wpAny_pure h)))
theorem kitx_excD (hga : findIn K (.ref D) "__getattribute__" = some (some (.builtin "BaseException.__getattribute__"))) (hgt : findIn K (.ref D) "__getattr__" = some none) (hsub : subIn K (.ref D) (.type "BaseException") = some true) (hdct : hasDictIn K D = true) (ha : findIn K (.ref D) "__class__" = some (some (.builtin "object.__class__")))
    (hn : specialIn K (.builtin "object.__class__") "__get__" = some (some (.builtin "getset_descriptor.__get__"))) (htk : takesIn K (.builtin "object.__class__") = some true) (hm : mroIn K D (.type "object") = some true) :
    KitX K (.ref x) (.ref D) (fun h => ∃ od, InstAt h x ox D od) where
  ty := fun _ _ _ ⟨_, I⟩ => I.type
  it := fun _ _ X _ => by
    obtain ⟨cdD, hcD, _⟩ := any_some hdct
    unfold clsIn at hcD
    split at hcD
    · rename_i c' d' cd' sl' ho
      intro A' Q' E' s' k q
      unfold isType loadHead
      exact wpAny_bind (wpAny_loadPart (k _ _ (X _ _ ho)) (wpAny_pure q))
    · cases hcD
  ne := fun h tp dd its n sl X htp => by
    obtain ⟨cdD, hcD, _⟩ := any_some hdct
    refine Bool.eq_false_iff.mpr fun q => ?_
    have e : D = tp := Value.ref.inj (beq_iff_eq.mp q)
    subst e
    unfold clsIn at hcD
    split at hcD
    · rename_i c' d' cd' sl' ho
      have z := (X _ _ ho).symm.trans htp
      cases z
    · cases hcD
  ca := fun X ⟨_, I⟩ k => kin_classD hga hgt hsub hdct ha hn htk hm X I k
end
theorem call_isED {X : Cx} {a D : Addr} {cls : Value} {d : Option Addr} {oe : Obj} {pn : List (Addr × Obj)} (C : ExcC X.K D) (hz : Zc cls d oe) (hf : ∃ vs, oe.data = .fields vs) :
    CallR (X.suite a ((a, oe) :: pn)) (.builtin "isinstance") (fun xs H Q => (cls = .ref D ∧ ∃ dx fs, d = some dx ∧ H dx = some (.xd fs)) ∧ rIsE X.K D a xs H Q) := by
  intro pins s σ H xs us Q I r hh
  obtain ⟨⟨h1, dx, fs, h2, hdx⟩, c, cv, b, rfl, hcv, e, q⟩ := hh
  subst h1 h2
  cases r with
  | cons rx rr =>
    cases rr with
    | cons rt rr =>
      cases rr
      cases rx
      have ec := hcv _ rt
      subst ec
      obtain ⟨hget, _⟩ := I.pin (a, oe) (List.mem_append.mpr (.inl List.mem_cons_self))
      obtain ⟨vs, hv⟩ := hf
      obtain ⟨mA, ⟨o, es, ep, ho, hd, hk, hu, hn⟩, _⟩ := (I.hok dx _ hdx : ∃ mA, s.heap.Ns1 dx mA ∧ ∀ f, RelO (fs.lookup f) (mA f))
      have J : ∃ od, PySem.W.InstAt s.heap a oe D od := by
        obtain ⟨oc, od, oda, osl⟩ := oe
        obtain ⟨h1, h2⟩ := hz
        dsimp only at h1 h2 hv
        subst h1 h2 hv
        exact ⟨some o, hget, rfl, rfl, ho⟩
      exact PySem.W.kia_one (kitx_excD C.hg C.hk C.hs C.hd C.ha C.hn C.ht C.hm) I.kIn J e (fun z => nomatch z) fun tk => ⟨.bl b, H, I.kept (t' := tk) fun _ _ z => z, rfl, q⟩

/-! ### an exception out of a list comprehension -/
/-- behind the block: R of the new list, or the exception passed on from this frame -/
def LcEnd (P : Program) (w : World) (Ar : Around) (en : Env) (Xe : Value → Shared → Prop) (Qf : Value → Shared → Prop) (D : Value) (C : Addr) : Result → Shared → Prop
  | .ok _, s5 => ∃ m, s5.heap.Ns C m ∧ ∀ h5, PySem.Heap.SameBut C s5.heap h5 → Qf D { s5 with heap := h5 }
  | .error x, s5 => ∃ m, s5.heap.Ns C m ∧ ∀ h5, PySem.Heap.SameBut C s5.heap h5 → wpAny (model P w) Ar (PySem.passOn "comprehension.variables-let-go" x en : Sem Value) Qf Xe { s5 with heap := h5 }
theorem lc_runX {P : Program} {w : World} {Ar : Around} {en : Env} {Xe Qf : Value → Shared → Prop} {s0 : Shared} {elt tg iter : Expr} {ifs : List Expr} {sc : Scope} {pos po : Pos} {mk fst : Sem Value} {cl : List (Str × Addr)}
    (h1 : ∀ x, foldedSetIterable iter en x = pure x) (h2 : closureFor sc en = pure cl) (h3 : sc.kind = .function) (h4 : ∀ x ∈ sc.names, x.2 = .local → sc.names.lookup x.1 = some .local)
    (go : wpAny (model P w) Ar fst (fun x s1 => wpAny (model P w) Ar (PySem.pyIter x) (fun it s2 => wpAny (model P w) Ar mk (fun D s3 =>
      wpAny (model P w) Ar (PySem.newFunctionEnv sc en.globals cl [] en.qual none .none (some en)) (fun ce s4 => ce.frame = en.frame ∧
        codeAny (model P w) Ar (.compStart (.ListComp elt [⟨tg, iter, ifs, 0⟩] sc pos) 0 it D { ce with scope := PySem.relabel sc en }) (LcEnd P w Ar en Xe Qf D ce.locals) s4) Xe s3) Xe s2) Xe s1) Xe s0) :
    wpAny (model P w) Ar (PySem.comprehension (.ListComp elt [⟨tg, iter, ifs, 0⟩] sc pos) sc en po mk false fst none) Qf Xe s0 := by
  unfold PySem.comprehension
  rw [h2]
  refine wpAny_bind (wpAny_mono go (fun x s1 g1 => ?_) fun _ _ z => z)
  refine wpAny_bind (wpAny_standAt (wpAny_bind (wpAny_of_eq (h1 x) ?_)))
  refine wpAny_bind (wpAny_holding (wpAny_mono g1 (fun it s2 g2 => ?_) fun _ _ z => z))
  refine wpAny_standIf (wpAny_bind (wpAny_mono g2 (fun D s3 g3 => ?_) fun _ _ z => z))
  refine wpAny_bind (wpAny_pure (wpAny_bind (wpAny_mono g3 (fun ce s4 g4 => ?_) fun _ _ z => z)))
  obtain ⟨fr, g4⟩ := g4
  dsimp only
  refine wpAny_holding (wpAny_bind (wpAny_attempt (wpAny_holding (wpAny_run (codeAny_mono g4 fun r s5 g5 => ?_)))))
  have loc : ∀ y ∈ (sc.names.filter fun x => (x.2 == .local || x.2 == .cell) && x.1 != (".0" : Str)).reverse, y.2 = .local → Env.kindOf { ce with scope := PySem.relabel sc en } y.1 = some .local := fun y m e =>
    PySem.lookup_relabel_local (h4 y (List.mem_filter.mp (List.mem_reverse.mp m)).1 e)
  cases r with
  | ok f =>
    obtain ⟨m, n5, q5⟩ := g5
    refine wpAny_bind (wpAny_holding (PySem.wpAny_comp_letGo (cenv := { ce with scope := PySem.relabel sc en }) h3 _ s5 m loc n5 fun h5 _ _ b5 => ?_))
    exact wpAny_pure (q5 h5 b5)
  | error x =>
    obtain ⟨m, n5, q5⟩ := g5
    refine wpAny_bind (wpAny_holding (PySem.wpAny_comp_letGo (cenv := { ce with scope := PySem.relabel sc en }) h3 _ s5 m loc n5 fun h5 _ _ b5 => ?_))
    have same : ∀ c : Env, c.frame = en.frame → (PySem.passOn "comprehension.variables-let-go" x c : Sem Value) = PySem.passOn "comprehension.variables-let-go" x en := fun c e => by
      unfold PySem.passOn
      rw [e]
    exact Eq.mpr (congrArg (fun t => wpAny (model P w) Ar t Qf Xe _) (same _ fr)) (q5 h5 b5)
/-- an exception that a call lets out within the block is passed on by the def -/
theorem lc_out {X : Cx} {E : XK} {pins : List (Addr × Obj)} {σ : L2.St} {H : Hp} {sn s9 : Shared} {C : Addr} {m : Str → Option Value} {D u : Value} {Qf E1 : Value → Shared → Prop}
    (hs : X.stack = X.env :: X.outer) (hf : X.env.frame = some X.env.locals) (tk : Takes X (fun c d _ H => E c d H)) (I : Inv X pins σ H sn) (fp : ∀ H', H' C = none → FpOk X pins H' C) (hC : sn.heap.Ns C m) (nC : H C = none)
    (c : L2.CX X.prog X.w X.stack H sn E u s9) : wpAny (model X.prog X.w) X.A (PySem.noteFrame u X.env) (fun _ s5 => LcEnd X.prog X.w X.A X.env X.xe Qf D C (.error u) s5) E1 s9 := by
  obtain ⟨a, B, H', cls, d, rfl, fl, hok, ub, na, os, ag, hE⟩ := c
  have hfr : X.A.frames = some (X.env :: X.outer) := by rw [I.ok.frames, hs]
  have nst : C ∉ frs X.stack := fun hm => (List.mem_cons.mp (I.stkSub C hm)).elim (fp H nC).2.1 (fp H nC).2.2.1
  obtain ⟨oC, es, ep, gC, dC, kC, fC⟩ := hC
  have nC' : H' C = none := ub.free C oC gC nC
  have f' := fp H' nC'
  have gC9 : s9.heap.get? C = some oC := fl.1 C oC (ub.keep C oC gC nC nst)
  obtain ⟨G, g1, g2⟩ := L2.restrict s9.heap fun b => ((B.get? b).isSome || decide (b ∈ frs X.stack)) && decide (b ≠ C)
  have gB : ∀ b o, b ≠ C → B.get? b = some o → G.get? b = some o := fun b o n e => (g1 b (by rw [e, decide_eq_true n]; rfl)).trans (fl.1 b o e)
  have gF : ∀ b, b ∈ frs X.stack → b ≠ C → G.get? b = s9.heap.get? b := fun b hb n => g1 b (by rw [decide_eq_true hb, decide_eq_true n]; simp)
  have og : ∀ b o, G.get? b = some o → b ≠ C ∧ s9.heap.get? b = some o ∧ ((B.get? b).isSome = true ∨ b ∈ frs X.stack) := fun b o e => by
    cases q : (((B.get? b).isSome || decide (b ∈ frs X.stack)) && decide (b ≠ C)) with
    | false => rw [g2 b q] at e; cases e
    | true =>
      rw [g1 b q] at e
      rw [Bool.and_eq_true, Bool.or_eq_true] at q
      exact ⟨of_decide_eq_true q.2, e, q.1.imp id of_decide_eq_true⟩
  have J : Inv X pins σ H' { sn with heap := G, gens := s9.gens, drawn := s9.drawn, toks := s9.toks } := by
    refine I.call' (ch := [C]) rfl ⟨fun b o e n hb hx => gB b o (by simpa using hx) (ub.keep b o e n hb), fun b o e n hb hx => ?_, fun b o e n _ => ub.free b o e n, fun b o e hx => ?_, ub.tups, ub.frzs, ub.tbls⟩ (fun b v e => ?_) ag (fun b hb => ?_)
    · obtain ⟨sl, q⟩ := ub.slot b o e hb
      exact ⟨sl, (gF b hb (by simpa using hx)).trans q⟩
    · by_cases hb : b ∈ frs X.stack
      · obtain ⟨sl, q⟩ := ub.slot b o e hb
        exact ⟨_, (gF b hb (by simpa using hx)).trans q⟩
      · obtain ⟨o', q⟩ := ub.there b o e hb
        exact ⟨o', gB b o' (by simpa using hx) q⟩
    · refine (hok b v e).stay (fun c o hc q => gB c o (fun z => ?_) q) (fun _ q => q) fun _ _ q => q
      rcases hc with hc | hc
      · rw [← hc, z, nC'] at e; cases e
      · rw [z, nC'] at hc; cases hc
    · have hb : b = C := by simpa using hb
      subst hb
      exact ⟨f'.2.2.2.1, f'.2.1, f'.2.2.2.2.1, f'.2.2.2.2.2⟩
  rw [hs] at fl
  refine HandSPX.looks_onZ Zc.steady hfr hf fl fun h1 held up1 => ?_
  rw [← hs] at held
  obtain ⟨sl, gC1⟩ := up1 C oC gC9 (fun vs z => by rw [dC] at z; cases z)
  refine ⟨m, ⟨_, es, ep, gC1, dC, kC, fC⟩, fun h5 sb => ?_⟩
  obtain ⟨kB, nB, ff, oe, vs, T, oT, ts, he, hz, hd, hv1, hnT, hTe, hT, hdT, h3⟩ := held
  have aC : a ≠ C := fun z => by
    rw [z, gC1] at he; cases he
    rw [show ({ oC with slots := sl } : Obj).data = oC.data from rfl, dC] at hd; cases hd
  have tC : T ≠ C := fun z => by
    rw [z, gC1] at hT; cases hT
    rw [show ({ oC with slots := sl } : Obj).data = oC.data from rfl, dC] at hdT; cases hdT
  have he5 := (sb.2 a aC).trans he
  obtain ⟨B2, b1, b2⟩ := L2.restrict B fun b => decide (b ≠ C)
  have bs : ∀ b o, B2.get? b = some o → b ≠ C ∧ B.get? b = some o := fun b o e => by
    by_cases n : b ≠ C
    · rw [b1 b (decide_eq_true n)] at e; exact ⟨n, e⟩
    · rw [b2 b (decide_eq_false n)] at e; cases e
  have bn : ∀ b, B.get? b = none → B2.get? b = none := fun b e => by
    cases q : B2.get? b with
    | none => rfl
    | some o => rw [(bs b o q).2] at e; cases e
  have ff5 : h5.FunFrames B2 X.stack := by
    have st : ∀ (l : List Env), h1.FunFrames B l → (∀ b ∈ frs l, b ≠ C) → h5.FunFrames B2 l := by
      intro l
      induction l with
      | nil => intro _ _; trivial
      | cons e l ih =>
        intro h n
        obtain ⟨k1, ⟨L, o, k2, k3, k4, k5⟩, k6⟩ := h
        refine ⟨k1, ⟨L, o, k2, bn L k3, (sb.2 L (n L (List.mem_filterMap.mpr ⟨e, List.mem_cons_self, k2⟩))).trans k4, k5⟩, ih k6 fun b hb => n b ?_⟩
        obtain ⟨e', m1, m2⟩ := List.mem_filterMap.mp hb
        exact List.mem_filterMap.mpr ⟨e', List.mem_cons_of_mem _ m1, m2⟩
    exact st _ ff fun b hb z => nst (by rw [← z]; exact hb)
  unfold PySem.passOn
  refine wpAny_bind (wpAny_field he5 hd hv1 ?_)
  rw [if_neg (show ¬ ((Value.ref T == Value.none) = true) from by simp)]
  have fin : wpAny (model X.prog X.w) X.A (PySem.setFlight (.ref a) X.env.frame) (fun _ s4 => wpAny (model X.prog X.w) X.A (throw (.ref a) : Sem Value) Qf X.xe s4) X.xe { s9 with heap := h5 } := by
    rw [hf]
    refine HandSPX.setFlight_anyZ (base := B2) (l := X.stack) (Z := Zc cls d) (fl := PySem.rawInt X.env.locals) (fun b o e => (sb.2 b (bs b o e).1).trans (kB b o (bs b o e).2)) ff5 ⟨oe, vs, T, oT, ts, he5, hz, hd, hv1, bn T hnT, hTe, (sb.2 T tC).trans hT, hdT, h3⟩ fun h6 k1 k2 k3 k4 => wpAny_throw (tk _ _ ?_)
    refine ⟨a, B2, _, pins, σ, H', cls, d, rfl, J, fun b o e hb => ?_, fun b o e hnf => ?_, .inr (.inr ⟨k1, bn a nB, k2, k3⟩), na, os, ag, hE⟩
    · obtain ⟨n, _, q⟩ := og b o e
      rcases q with q | q
      · obtain ⟨o', q'⟩ := Option.isSome_iff_exists.mp q
        have z := gB b o' n q'
        rw [e] at z; cases z
        rw [b1 b (decide_eq_true n)]; exact q'
      · exact absurd q hb
    · obtain ⟨n, q, _⟩ := og b o e
      obtain ⟨sl1, q1⟩ := up1 b o q hnf
      obtain ⟨sl2, q2⟩ := k4 b _ ((sb.2 b n).trans q1) hnf
      exact ⟨sl2, q2⟩
  first
    | exact wpAny_bind (wpAny_pure (wpAny_bind fin))
    | exact wpAny_bind fin
abbrev blkx (X : Cx) (s : Shared) (H : Hp) (sc : Scope) (ce : Env) (fp : List Addr) (xe : Value → Shared → Prop) : Cx := { X.blk s H sc ce fp with xe := xe }
theorem inv_blkx {X : Cx} {s s' : Shared} {H H' : Hp} {sc : Scope} {ce : Env} {fp : List Addr} {pins : List (Addr × Obj)} {σ : L2.St} (xe : Value → Shared → Prop) (I : Inv (X.blk s H sc ce fp) pins σ H' s') : Inv (blkx X s H sc ce fp xe) pins σ H' s' :=
  ⟨⟨I.ok.mod, I.ok.kind, I.ok.glob, I.ok.blt, I.ok.above, I.ok.inj, I.ok.has, I.ok.cab, I.ok.hd, I.ok.frames, I.ok.stk, I.ok.exf, I.ok.bs, I.ok.bsz, I.ok.noex, I.ok.exfs, I.ok.funs, I.ok.frf⟩,
    I.os, I.bare, I.base, I.loc, I.cell, I.free, I.freeC, I.pin, I.hok, I.len⟩
/-- [elt for target in iter if ..] in a def that lets exceptions out, E what they are to fulfil -/
theorem pe_lcX {X : Cx} {E : XK} {elt tg iter : Expr} {ifs : List Expr} {sc : Scope} {own : List (Str × Nat)} {pos : Pos} {wi : TI} {g : TG} {tt : TT} {te : TE} (hc : X.calm = true) (hN : X.N.Nodup)
    (hst : X.stack = X.env :: X.outer) (hf : X.env.frame = some X.env.locals) (tk : Takes X (fun c d _ H => E c d H)) (hi : PI X tg iter wi) (ok : BlkOk X.N X.env.scope sc own)
    (hg : ∀ (s : Shared) (H : Hp) (C : Addr) (cl : List (Str × Addr)) (fp : List Addr) (xe : Value → Shared → Prop), PG (blkx X s H sc (PySem.compEnvC sc cl C X.env) fp xe) tg g)
    (ht : ∀ (s : Shared) (H : Hp) (C : Addr) (cl : List (Str × Addr)) (fp : List Addr) (xe : Value → Shared → Prop), PTs (blkx X s H sc (PySem.compEnvC sc cl C X.env) fp xe) ifs tt)
    (he : ∀ (s : Shared) (H : Hp) (C : Addr) (cl : List (Str × Addr)) (fp : List Addr) (xe : Value → Shared → Prop), (∀ σ, PassesAt (L2.CX X.prog X.w) (blkx X s H sc (PySem.compEnvC sc cl C X.env) fp xe) σ E) → PE (blkx X s H sc (PySem.compEnvC sc cl C X.env) fp xe) elt te)
    (hs : ∀ x, foldedSetIterable iter X.env x = pure x := by intro _; rfl) : PE X (.ListComp elt [⟨tg, iter, ifs, 0⟩] sc pos) (tLc wi g tt te (own.map (·.2))) := by
  refine ⟨fun pins s σ H Q I h => ?_⟩
  rw [PySem.eval_ListComp]
  have free : ∀ y ∈ sc.names, y.2 = .free → ∃ c, X.env.cells.lookup y.1 = some c := fun y hy e => (ok.free y hy e).elim (fun k => I.ok.has _ (.inl k)) (fun k => I.ok.has _ (.inr k))
  refine lc_runX hs (closure_ok free) ok.kind (fun y hy e => by rw [ok.uniq y hy, e]) (thn (hi.run pins s σ H _ I h) fun xv s1 hx => thn hx fun itv s2 h2 => ?_)
  obtain ⟨it, fp, tn, J, H2, e, I2, T, st2, f2, q⟩ := h2
  subst e
  refine wpAny_newObj_type (newEnv_comp ?_) (by show 0 ≤ sizeLine; decide)
  refine ⟨rfl, ?_⟩
  generalize hD : s2.heap.objs.size = D
  have nD : H2 D = none := I2.hok.fresh (Nat.le_of_eq hD)
  obtain ⟨W, ⟨m0, w0⟩, turn⟩ := q D nD
  generalize hs3 : ({ s2 with heap := s2.heap.push { cls := .type "list", data := .seq ([] : List Value).toArray } } : Shared) = s3
  have h3 : s3.heap = s2.heap.push { cls := .type "list", data := .seq ([] : List Value).toArray } := by rw [← hs3]
  have old3 : ∀ b o, s2.heap.get? b = some o → s3.heap.get? b = some o := fun b o e => by rw [h3]; exact Heap.get?_push_of_some _ e
  have I3 : Inv X pins σ (upd H2 D (.lst [])) s3 := by
    rw [← hs3]
    refine I2.laid (t' := s2.toks) (fun b o e => Heap.get?_push_of_some _ e) (Nat.le_of_eq hD) ⟨Nat.zero_le _, [], 0, .nil, ?_⟩
    rw [← hD]
    exact Heap.get?_push_size _ rfl
  have f3 : ∀ b ∈ fp, FpOk X pins (upd H2 D (.lst [])) b ∧ b < s3.heap.objs.size := fun b hb => by
    obtain ⟨o, e, _⟩ := T.obj _ _ st2 b hb
    have lt := Heap.lt_size e
    refine ⟨⟨?_, (f2 b hb).2⟩, by rw [h3, Heap.size_push]; exact Nat.lt_succ_of_lt lt⟩
    rw [upd_ne (by rw [← hD]; exact Nat.ne_of_lt lt)]
    exact (f2 b hb).1
  have st3 : tn 0 s3.heap := T.keep _ _ _ st2 fun b _ o e => old3 b o e
  have I4 := block_start I3 ok hN f3
  generalize hK : (upd H2 D (.lst [])) = H3 at I3 I4 w0 f3
  generalize hcl : cellsFrom (s3.heap.objs.size + 1) sc.names (cloFrom X.env.cells sc.names []) = cl at I4 ⊢
  show codeAny _ _ (.compStart (.ListComp elt [⟨tg, iter, ifs, 0⟩] sc pos) 0 (.ref it) (.ref D) (PySem.compEnvC sc cl s3.heap.objs.size X.env)) (LcEnd X.prog X.w X.A X.env X.xe _ (.ref D) s3.heap.objs.size) { s3 with heap := pushCells (s3.heap.push { cls := .type "dict", data := .dict #[] }) sc.names }
  generalize hR : LcEnd X.prog X.w X.A X.env X.xe (EP X pins σ Q) (.ref D) s3.heap.objs.size = R
  have nC : ∀ {H' : Hp}, H' s3.heap.objs.size = none → FpOk X pins H' s3.heap.objs.size := fun z => I3.fpOk (Nat.le_refl _) z
  have outer_ : ∀ {ps : List (Addr × Obj)} {σ' : L2.St} {H' : Hp} {s' : Shared} {xe : Value → Shared → Prop}, Inv (blkx X s3 H3 sc (PySem.compEnvC sc cl s3.heap.objs.size X.env) fp xe) ps σ' H' s' → Inv X pins σ H' s' := fun {ps σ' H' s' xe} K =>
    I3.call' (ch := fp) K.os K.base K.hok K.bare fun b hb => ⟨(f3 b hb).1.2.2.2.1, (f3 b hb).1.2.1, (f3 b hb).1.2.2.2.2.1, (f3 b hb).1.2.2.2.2.2⟩
  -- what the block's exceptions come to
  generalize hxe : (PySem.notedBy (model X.prog X.w) X.A (PySem.compEnvC sc cl s3.heap.objs.size X.env) fun e s' => R (.error e) s') = xe
  have pass : ∀ σ', PassesAt (L2.CX X.prog X.w) (blkx X s3 H3 sc (PySem.compEnvC sc cl s3.heap.objs.size X.env) fp xe) σ' E := fun σ' ps Hn sn e s9 K c => by
    obtain ⟨m, hn, _⟩ := K.loc
    show xe e s9
    rw [← hxe, ← hR]
    exact lc_out hst hf tk (outer_ K) (fun H' z => nC z) hn K.free c
  have I5 := inv_blkx xe I4
  have pg := hg s3 H3 s3.heap.objs.size cl fp xe
  have pt := ht s3 H3 s3.heap.objs.size cl fp xe
  have pe := he s3 H3 s3.heap.objs.size cl fp xe pass
  have cL : (PySem.compEnvC sc cl s3.heap.objs.size X.env).locals = s3.heap.objs.size := rfl
  generalize hce : PySem.compEnvC sc cl s3.heap.objs.size X.env = ce at I5 pg pt pe hxe outer_ cL ⊢
  generalize hs4 : ({ s3 with heap := pushCells (s3.heap.push { cls := .type "dict", data := .dict #[] }) sc.names } : Shared) = s4 at I5 ⊢
  have st4 : tn 0 s4.heap := T.keep _ _ _ st3 fun b _ o e => by rw [← hs4]; exact pushCells_keeps _ _ _ _ (Heap.get?_push_of_some _ e)
  have n4 : ∀ b ∈ fp, H3 b = none := fun b hb => (f3 b hb).1.1
  have fpk : ∀ {σ' : L2.St} {H' : Hp} {s' : Shared}, Inv (blkx X s3 H3 sc ce fp xe) [] σ' H' s' → (∀ b ∈ fp, H' b = none) → ∀ b ∈ fp, FpOk (blkx X s3 H3 sc ce fp xe) [] H' b := fun K n b hb =>
    ⟨n b hb, (K.ok.exf b hb).1, K.ok.exfs b hb, .inl hb, fun x c e => (K.ok.exf b hb).2 x c e, fun p hp => absurd (show p ∈ ([] : List (Addr × Obj)) ++ [] from hp) (by simp)⟩
  have loop : codeAny (model X.prog X.w) X.A (.compLoop (.ListComp elt [⟨tg, iter, ifs, 0⟩] sc pos) 0 (.ref it) (.ref D) ce) R s4 := by
    refine compLoop_any (fun n s' => ∃ i H', Inv (blkx X s3 H3 sc ce fp xe) [] (wipe σ (own.map (·.2))) H' s' ∧ tn i s'.heap ∧ (∀ b ∈ fp, H' b = none) ∧ W i n H') ?_ m0 ⟨0, H3, I5, st4, n4, w0⟩
    rintro n s5 ⟨i, H5, K5, st5, n5, w5⟩
    rw [hxe]
    rcases turn i n H5 w5 with ⟨stop, qq⟩ | ⟨goes, Nx, hNx, step⟩
    · have td := T.done (blkx X s3 H3 sc ce fp xe) rfl rfl rfl hc i [] s5 _ H5 xe K5 (fpk K5 n5) st5 stop
      refine thn td fun r s6 ⟨hr, K6⟩ => ?_
      subst hr
      obtain ⟨m, hn, _⟩ := K6.loc
      have z : H5 ce.locals = none := K6.free
      rw [cL] at z hn
      show R (.ok .next) s6
      rw [← hR]
      refine ⟨m, hn, fun h5 sb => ?_⟩
      obtain ⟨e0, e1, e2, e3, e4, e5⟩ := nC z
      exact ⟨.ref D, H5, (outer_ K6).turned (t' := s6.toks) (fun b o hb e => (sb.2 b hb).trans e) e0 e1 e3 e4 e5, rfl, qq⟩
    · have ti := T.item (blkx X s3 H3 sc ce fp xe) rfl rfl rfl hc i [] s5 _ H5 xe K5 (fpk K5 n5) st5 goes
      refine thn ti fun r s6 ⟨u, hr, h6⟩ => ?_
      subst hr
      refine thn h6 fun _ s7 ⟨x, H7, K7, r7, y7, st7, n7⟩ => ?_
      have K7' := K7.pinned (fpk K7 n7) (T.obj _ _ st7)
      refine thn (pg.run _ s7 _ H7 x u _ K7' r7 (step x H7 y7)) fun _ s8 ⟨σ8, H8, K8, hw8, q8⟩ => ?_
      refine thn (pt.run _ s8 σ8 H8 _ K8 q8) fun b s9 ⟨H9, K9, q9⟩ => ?_
      have fin : ∀ {s' : Shared} {H' : Hp}, Inv (blkx X s3 H3 sc ce fp xe) ([] ++ pinsAt fp s7.heap) σ8 H' s' → Nx H' → ∃ m, m < n ∧ ∃ i H', Inv (blkx X s3 H3 sc ce fp xe) [] (wipe σ (own.map (·.2))) H' s' ∧ tn i s'.heap ∧ (∀ b ∈ fp, H' b = none) ∧ W i m H' := fun {s' H'} K nx => by
        obtain ⟨m', lt, w'⟩ := hNx H' nx
        have pinned : ∀ b ∈ fp, ∀ o, s7.heap.get? b = some o → s'.heap.get? b = some o ∧ H' b = none := fun b hb o e =>
          let z := K.pin (b, o) (List.mem_append_right _ (List.mem_append_right _ (mem_pinsAt hb e)))
          ⟨z.1, z.2.1⟩
        have len : (wipe σ (own.map (·.2))).length = σ8.length := by rw [← hw8, wipe_length]
        refine ⟨m', lt, i + 1, H', (K.unpinned (pins := [])).weak len (fun j v e => ?_), T.keep _ _ _ st7 fun b hb o e => (pinned b hb o e).1, fun b hb => ?_, w'⟩
        · rw [← hw8] at e
          exact (wipe_some e).1
        · obtain ⟨o, e, _⟩ := T.obj _ _ st7 b hb
          exact (pinned b hb o e).2
      cases b with
      | false =>
        simp only [Bool.false_eq_true, if_false] at q9 ⊢
        exact fin K9 q9
      | true =>
        simp only [if_true] at q9 ⊢
        refine thn (pe.run _ s9 σ8 H9 _ K9 q9) fun z s10 ⟨yv, H10, K10, r10, acc, hD10, hz10, nx⟩ => ?_
        exact app_ok (X := blkx X s3 H3 sc ce fp xe) K10 hD10 hz10 r10 fun s11 K11 => fin K11 nx
  exact codeAny_compStart_list loop (T.self X.A 0 _ _ _ st4 loop)

/-! ### x.translate({37: None}) of an ASCII text: the sign with code 37 is left out -/
section
open PySem PySem.Builtin PySem.Builtin.Str
/-- what the table tells of a sign -/
def Tl37 {prog : Program} {w : World} (f : Key → Option Value) : Prop := ∀ c : Nat, f (Sum.inl (c : Int)) = if c = 37 then some Value.none else none
theorem mapOfK {prog : Program} {w : World} {h h' : Heap} {a : Addr} {f : Key → Option Value} (m : h.MapOf (mixKind prog w) a f) (k : ∀ b o, h.get? b = some o → h'.get? b = some o) : h'.MapOf (mixKind prog w) a f := by
  obtain ⟨o, es, ep, ho, r⟩ := m
  exact ⟨o, es, ep, k _ _ ho, r⟩
theorem tl37 {prog : Program} {w : World} {A : Around} {E : Value → Shared → Prop} {s : Shared} {d : Addr} {c : Nat} {f : Key → Option Value} {Q : Mapped → Shared → Prop} (hh : A.handled = none) (hd : (d == sysModules) = false) (hm : s.heap.MapOf (mixKind prog w) d f) (hk : Tl37 (prog := prog) (w := w) f)
    (h1 : c = 37 → ∀ h' k, (∀ b o, s.heap.get? b = some o → h'.get? b = some o) → Q .drop { s with heap := h', toks := k })
    (h2 : c ≠ 37 → ∀ h' k, (∀ b o, s.heap.get? b = some o → h'.get? b = some o) → Q .keep { s with heap := h', toks := k }) : wpAny (model prog w) A (tableLookup (.ref d) c) Q E s := by
  unfold tableLookup
  refine wpAny_bind (wpAny_attempt (wpAny_bind (wpAny_mkInt ?_)))
  have hf := hk c
  by_cases hc : c = 37
  · rw [if_pos hc] at hf
    refine wpAny_getItem_of (knd := mixKind prog w) (k := Sum.inl (c : Int)) (mixKind_int prog w _ _) hm hf ?_
    exact wpAny_pure (h1 hc s.heap _ fun _ _ e => e)
  · rw [if_neg hc] at hf
    refine wpAny_getItem_missing_of (knd := mixKind prog w) (k := Sum.inl (c : Int)) (mixKind_int prog w _ _) hd hh hm hf fun h' e hx => ?_
    show wpAny _ _ (do let b ← isInstance (.ref e) (.type "LookupError"); _) _ _ _
    obtain ⟨ob, t, ho, hc2, _⟩ := hx.there
    refine wpAny_bind (wpAny_isInstance (T := "KeyError") (b := true) ⟨ob, ho, hc2⟩ (by first | rfl | kernel_rfl) ?_)
    show wpAny _ _ (if true = true then (do rule "str.translate.not-in-table"; pure Mapped.keep) else _) _ _ _
    rw [if_pos rfl]
    exact wpAny_bind (wpAny_rule (wpAny_pure (h2 hc h' _ hx.keeps)))
theorem pieces37 : ∀ (l : List Nat) (acc : Array Nat), List.foldl (fun acc (p : Str) => acc ++ p.cps) acc (l.map fun c => (⟨#[c]⟩ : Str)) = acc ++ l.toArray
  | [], acc => by
    show acc = acc ++ #[]
    rw [Array.append_empty]
  | c :: l, acc => by
    rw [List.map_cons, List.foldl_cons, pieces37 l]
    apply Array.toList_inj.mp
    simp
theorem look_new {c c' : Nat} {a b : Option Nat} {known : List (Nat × Option Nat)} (h : List.lookup c' ((c, a) :: known) = some b) : (c' = c ∧ b = a) ∨ List.lookup c' known = some b := by
  rw [List.lookup_cons] at h
  by_cases e : c' = c
  · rw [e, beq_self_eq_true] at h
    exact Or.inl ⟨e, (Option.some.inj h).symm⟩
  · have e2 : (c' == c) = false := beq_eq_false_iff_ne.mpr e
    rw [e2] at h
    exact Or.inr h
def out37 (l : List Nat) : List Nat := l.filter (fun c => decide (c ≠ 37))
def an37 (c : Nat) : Option Nat := if c = 37 then none else some c
/-- what stands while the signs are walked -/
def Tr37 (x : List Nat) (s : Shared) (rest : List Nat) (st : List Str × Nat × Bool × List (Nat × Option Nat) × Bool) (s' : Shared) : Prop :=
  ∃ (past : List Nat) (pieces : List Str) (known : List (Nat × Option Nat)) (h' : Heap) (k : Nat), x = past ++ rest ∧ st = (pieces, (out37 past).length, true, known, false) ∧ pieces.reverse = (out37 past).map (fun c => (⟨#[c]⟩ : Str)) ∧
    (∀ c a, List.lookup c known = some a → a = an37 c) ∧ s' = { s with heap := h', toks := k } ∧ ∀ b o, s.heap.get? b = some o → h'.get? b = some o
theorem Tr37.keep {x : List Nat} {s : Shared} {rest past : List Nat} {c : Nat} {pieces : List Str} {known : List (Nat × Option Nat)} {h' : Heap} {k : Nat} (hc : c ≠ 37) (h1 : x = past ++ c :: rest)
    (h3 : pieces.reverse = (out37 past).map (fun c => (⟨#[c]⟩ : Str))) (h4 : ∀ c a, List.lookup c known = some a → a = an37 c) (h6 : ∀ b o, s.heap.get? b = some o → h'.get? b = some o) :
    Tr37 x s rest (⟨#[c]⟩ :: pieces, (out37 past).length + 1, true, known, false) { s with heap := h', toks := k } := by
  have e : out37 (past ++ [c]) = out37 past ++ [c] := by
    unfold out37
    rw [List.filter_append, List.filter_cons_of_pos (by simpa using hc), List.filter_nil]
  refine ⟨past ++ [c], ⟨#[c]⟩ :: pieces, known, h', k, ?_, ?_, ?_, h4, rfl, h6⟩
  · rw [h1, List.append_assoc] <;> rfl
  · rw [e, List.length_append] <;> rfl
  · rw [e, List.reverse_cons, h3, List.map_append] <;> rfl
theorem Tr37.drop {x : List Nat} {s : Shared} {rest past : List Nat} {c : Nat} {pieces : List Str} {known : List (Nat × Option Nat)} {h' : Heap} {k : Nat} (hc : c = 37) (h1 : x = past ++ c :: rest)
    (h3 : pieces.reverse = (out37 past).map (fun c => (⟨#[c]⟩ : Str))) (h4 : ∀ c a, List.lookup c known = some a → a = an37 c) (h6 : ∀ b o, s.heap.get? b = some o → h'.get? b = some o) :
    Tr37 x s rest (pieces, (out37 past).length, true, known, false) { s with heap := h', toks := k } := by
  have e : out37 (past ++ [c]) = out37 past := by
    unfold out37
    rw [List.filter_append, List.filter_cons_of_neg (by simpa using hc), List.filter_nil, List.append_nil]
  refine ⟨past ++ [c], pieces, known, h', k, ?_, ?_, ?_, h4, rfl, h6⟩
  · rw [h1, List.append_assoc] <;> rfl
  · rw [e]
  · rw [e]; exact h3
theorem meets_tr37 {prog : Program} {w : World} (x : List Nat) (t : Tok) (d : Addr) (hd : (d == sysModules) = false) (hz : x.length ≤ 16000000) (ha : ∀ c ∈ x, c < 128) : MeetsIn prog w («str.translate» ⟨[.str (SX.S x) t, .ref d], []⟩) (fun A R s =>
    A.handled = none ∧ (∃ f, s.heap.MapOf (mixKind prog w) d f ∧ Tl37 (prog := prog) (w := w) f) ∧ ∀ (v : Value) (h' : Heap) (k : Nat), (∀ b o, s.heap.get? b = some o → h'.get? b = some o) → (∃ t', v = .str (SX.S (out37 x)) t') → R (.ok (.ret v)) { s with heap := h', toks := k }) := by
  refine .of_wp fun A R s h => ?_
  obtain ⟨hh, ⟨f, hm, hk⟩, h⟩ := h
  have hh1 : A.in1.handled = none := hh
  show wpAny _ _ (if ((SX.S x).length == 0) = true then (do rule "str.translate.empty"; ret (.str (SX.S x) t)) else (do
    let st ← forIn (SX.S x).cps (([], 0, (SX.S x).cps.all fun y => decide (y < 128), [], false) : List Str × Nat × Bool × List (Nat × Option Nat) × Bool) _
    _)) _ _ s
  by_cases h0 : ((SX.S x).length == 0) = true
  · rw [if_pos h0]
    have hx : x = [] := by
      rw [beq_iff_eq, SX.S_len] at h0
      exact List.eq_nil_of_length_eq_zero h0
    subst hx
    exact wpAny_bind (wpAny_rule (wpAny_pure ⟨_, rfl, h _ s.heap s.toks (fun _ _ e => e) ⟨t, rfl⟩⟩))
  · rw [if_neg h0]
    have hfast : ((SX.S x).cps.all fun y => decide (y < 128)) = true := by
      rw [← Array.all_toList]
      show (x.toArray.toList.all _) = true
      rw [List.toList_toArray, List.all_eq_true]
      exact fun c hc => decide_eq_true (ha c hc)
    rw [hfast]
    refine wpAny_bind (MeetsSeq2.wpAny_forIn_array _ (Tr37 x s) _ (fun c rest st s' hI => ?turn) (fun st s' hI => ?fin) (SX.S x).cps ([], 0, true, [], false) ?h0)
    case h0 =>
      refine ⟨[], [], [], s.heap, s.toks, ?_, rfl, rfl, fun c a z => ?_, rfl, fun _ _ e => e⟩
      · show x = [] ++ x.toArray.toList
        rw [List.toList_toArray, List.nil_append]
      · rw [List.lookup_nil] at z
        cases z
    case turn =>
      obtain ⟨past, pieces, known, h', k, e1, e2, e3, e4, e5, e6⟩ := hI
      subst e2
      subst e5
      have hpl : (out37 past).length ≤ 16000000 := by
        have q := congrArg List.length e1
        rw [List.length_append] at q
        exact Nat.le_trans (List.length_filter_le _ _) (by omega)
      have hm' : ({ s with heap := h', toks := k } : Shared).heap.MapOf (mixKind prog w) d f := mapOfK hm e6
      show wpAny _ _ (if tooLong (out37 past).length = true then _ else (if true = true then _ else _)) _ _ _
      rw [show tooLong (out37 past).length = false from PyProof.Rows.short24 (by omega), if_neg Bool.false_ne_true]
      rw [if_pos rfl]
      cases hl : List.lookup c known with
      | some a =>
        have ha2 := e4 c a hl
        subst ha2
        refine wpAny_bind (wpAny_pure ?_)
        by_cases hc : c = 37
        · have e : an37 c = none := if_pos hc
          rw [e]
          exact wpAny_pure (Tr37.drop hc e1 e3 e4 e6)
        · have e : an37 c = some c := if_neg hc
          rw [e]
          exact wpAny_pure (Tr37.keep hc e1 e3 e4 e6)
      | none =>
        have new : ∀ b, b = an37 c → ∀ c' a, List.lookup c' ((c, b) :: known) = some a → a = an37 c' := fun b hb c' a z => by
          rcases look_new z with ⟨q1, q2⟩ | q
          · rw [q2, hb, q1]
          · exact e4 c' a q
        refine wpAny_bind (tl37 hh1 hd hm' hk (fun hw h2 k2 k3 => ?_) (fun hw h2 k2 k3 => ?_))
        · have e : an37 c = none := if_pos hw
          refine wpAny_bind (wpAny_pure ?_)
          refine wpAny_pure ?_
          exact Tr37.drop (known := (c, none) :: known) hw e1 e3 (new none e.symm) (fun b o z => k3 b o (e6 b o z))
        · have e : an37 c = some c := if_neg hw
          refine wpAny_bind (wpAny_pure ?_)
          refine wpAny_pure ?_
          exact Tr37.keep (known := (c, some c) :: known) hw e1 e3 (new (some c) e.symm) (fun b o z => k3 b o (e6 b o z))
    case fin =>
      obtain ⟨past, pieces, known, h', k, e1, e2, e3, e4, e5, e6⟩ := hI
      subst e2
      subst e5
      have ex : x = past := by rw [e1, List.append_nil]
      have hl : (out37 past).length ≤ 16000000 := by
        rw [← ex]
        exact Nat.le_trans (List.length_filter_le _ _) hz
      show wpAny _ _ (if tooLong (out37 past).length = true then _ else retStr { cps := List.foldl (fun acc (p : Str) => acc ++ p.cps) #[] pieces.reverse }) _ _ _
      rw [show tooLong (out37 past).length = false from PyProof.Rows.short24 (by omega), if_neg Bool.false_ne_true, e3, pieces37, ← ex]
      have ev : (⟨#[] ++ (out37 x).toArray⟩ : Str) = SX.S (out37 x) := by
        rw [Array.empty_append] <;> rfl
      rw [ev]
      exact wpAny_bind (wpAny_mkStr (wpAny_pure ⟨_, rfl, h _ h' _ e6 ⟨_, rfl⟩⟩) (by rw [SX.S_len, sizeLine_eq, ex]; omega))
def rTr37 : V → List V → Hp → VK → Prop := fun x xs H Q => ∃ (t : Str) (d : Addr), x = .str t ∧ xs = [.ref d] ∧ H d = some (.dK [(Sum.inl 37, .non)]) ∧ (∀ c ∈ t.cps.toList, c < 128) ∧ t.length ≤ 16000000 ∧ Q (.str (SX.S (out37 t.cps.toList))) H
theorem mt_tr37 {X : Cx} (hc : X.calm = true) : MtR X "str.translate" rTr37 := by
  intro pins s σ H x xs v us Q I rx rs h
  obtain ⟨a, d, rfl, rfl, hd, ha, h3, h⟩ := h
  obtain ⟨t, rfl⟩ := rx
  obtain ⟨_, low, vs, kv, dd⟩ := dk_of I.hok hd
  cases rs with
  | cons r1 rs =>
    cases rs
    cases r1
    have ea : SX.S a.cps.toList = a := SX.S_tl a
    have hm := dd.mapOf
    have tl : Tl37 (prog := X.prog) (w := X.w) (valueAt vs) := by
      cases kv with
      | cons p r =>
        cases r
        rename_i b
        obtain ⟨k1, v1⟩ := b
        obtain ⟨e1, e2⟩ := p
        have e1 : Sum.inl 37 = k1 := e1
        have e2 : v1 = Value.none := e2
        subst e1 e2
        intro c
        unfold valueAt
        by_cases hc : c = 37
        · subst hc
          rfl
        · rw [if_neg hc]
          have hne : ¬ ((Sum.inl 37 : Key) = Sum.inl (c : Int)) := fun z => hc (by have := Sum.inl.inj z; omega)
          simp [List.find?, hne]
    rw [← ea]
    refine call_meetsIn F.slot_str_translate (typeIs_str _ _ _) F.entry_str_translate (F.args_str_translate_2 _ _) (meets_tr37 a.cps.toList t d low (by rw [Array.length_toList]; exact h3) ha) ⟨I.ok.hd hc, ⟨_, hm, tl⟩, ?_⟩
    intro v h' k hk ⟨t', e⟩
    subst e
    exact ⟨.str _, H, I.kept (t' := k) hk, ⟨t', rfl⟩, h⟩
end

/-! ### a text times an int -/
theorem op_mul_str {X : Cx} : OpR X (binaryOp .Mult) (fun x y H Q => ∃ a i, x = .str a ∧ y = .int i ∧ PySem.MulOk a i ∧ Q (.str (PySem.Txt.mul a i)) H) := fun pins s σ H x y v u Q I rx ry ⟨a, i, ex, ey, ok, q⟩ => by
  subst ex; subst ey
  obtain ⟨t, rfl⟩ := rx
  obtain ⟨t2, rfl⟩ := ry
  exact PySem.SB.mul ok (fun t' k => ⟨.str (PySem.Txt.mul a i), H, I.turnedL (ch := []) (fun _ _ _ e => e) (fun _ m => nomatch m), ⟨t', rfl⟩, q⟩)
theorem mulOk_a {n : Nat} (h : n ≤ 1000000) : PySem.MulOk (Str.ofString "a") (n : Int) := by
  refine ⟨?_, fun _ _ => ?_, fun _ _ => ?_⟩
  · rw [decide_eq_false (by omega), decide_eq_false (by omega)]; rfl
  · have e : (Str.ofString "a").length = 1 := by decide
    rw [e]
    intro z
    have : (1 : Int) ≤ (2 ^ 63 - 1) / (n : Int) := Int.le_ediv_of_mul_le (by omega) (by omega)
    omega
  · have e : (Str.ofString "a").length = 1 := by decide
    rw [e, Nat.one_mul, Int.toNat_natCast]
    unfold PySem.Builtin.Str.tooLong
    have : n ≤ sizeLine := Nat.le_trans h (by decide)
    exact decide_eq_false (by omega)
theorem mul_a {n : Nat} : (PySem.Txt.mul (Str.ofString "a") (n : Int)).cps = (List.replicate n (97 : Nat)).toArray := by
  unfold PySem.Txt.mul
  split
  · rw [show n = 0 by omega]; rfl
  · split
    · rename_i h
      have : n = 1 := by
        have e : ((Str.ofString "a").length == 0) = false := by decide
        rw [e, Bool.or_false] at h
        have := eq_of_beq h
        omega
      subst this
      decide
    · show List.foldl (fun x1 x2 => x1 ++ x2) #[] (List.replicate (n : Int).toNat (Str.ofString "a").cps) = _
      rw [Int.toNat_natCast, show (Str.ofString "a").cps = #[97] by decide]
      have : ∀ (n : Nat) (acc : Array Nat), List.foldl (fun (x1 x2 : Array Nat) => x1 ++ x2) acc (List.replicate n #[97]) = acc ++ (List.replicate n (97 : Nat)).toArray := by
        intro n
        induction n with
        | zero => intro acc; simp
        | succ n ih =>
          intro acc
          rw [List.replicate_succ, List.foldl_cons, ih, List.replicate_succ]
          apply Array.toList_inj.mp
          simp
      rw [this]
      simp

def topS (i : Nat) : Stmt := PySem.Challenge.pw_oathledger_k42_statements_of_a_text.main.body.getD i (.Pass ⟨0, 0, 0, 0⟩)
abbrev s_BadCommand____init__ : Stmt := inClass (topS 2) 0
theorem sc_BadCommand____init__ : FnScope ["self", "reason", "statement"] ["self", "reason", "statement"] (defScope s_BadCommand____init__) := ⟨rfl, rfl, rfl, by decide +kernel, rfl, by decide +kernel, by decide +kernel⟩
abbrev s_is_printable : Stmt := topS 5
theorem sc_is_printable : FnScope ["value"] ["value"] (defScope s_is_printable) := ⟨rfl, rfl, rfl, by decide +kernel, rfl, by decide +kernel, by decide +kernel⟩
abbrev s_statements : Stmt := topS 7
theorem sc_statements : FnScope ["text", "index", "part"] ["text"] (defScope s_statements) := ⟨rfl, rfl, rfl, by decide +kernel, rfl, by decide +kernel, by decide +kernel⟩
abbrev s_parts_of : Stmt := topS 8
theorem sc_parts_of : FnScope ["text"] ["text"] (defScope s_parts_of) := ⟨rfl, rfl, rfl, by decide +kernel, rfl, by decide +kernel, by decide +kernel⟩
abbrev s_words_of : Stmt := topS 9
theorem sc_words_of : FnScope ["part", "index", "words"] ["part", "index"] (defScope s_words_of) := ⟨rfl, rfl, rfl, by decide +kernel, rfl, by decide +kernel, by decide +kernel⟩
abbrev s__law_cell : Stmt := topS 11
theorem sc__law_cell : FnScope ["script", "k"] ["script", "k"] (defScope s__law_cell) := ⟨rfl, rfl, rfl, by decide +kernel, rfl, by decide +kernel, by decide +kernel⟩
abbrev s__law_word : Stmt := topS 12
theorem sc__law_word : FnScope ["size", "chars", "seed", "step", "word", "rest", "k"] ["size", "chars", "seed", "step"] (defScope s__law_word) := ⟨rfl, rfl, rfl, by decide +kernel, rfl, by decide +kernel, by decide +kernel⟩
abbrev s__law_printable : Stmt := topS 13
theorem sc__law_printable : FnScope ["chars"] [] (defScope s__law_printable) := ⟨rfl, rfl, rfl, by decide +kernel, rfl, by decide +kernel, by decide +kernel⟩
abbrev s__law_all_in : Stmt := topS 14
theorem sc__law_all_in : FnScope ["word", "chars", "char"] ["word", "chars"] (defScope s__law_all_in) := ⟨rfl, rfl, rfl, by decide +kernel, rfl, by decide +kernel, by decide +kernel⟩
abbrev s__law_piece : Stmt := topS 15
theorem sc__law_piece : FnScope ["cell", "choice", "odd"] ["cell"] (defScope s__law_piece) := ⟨rfl, rfl, rfl, by decide +kernel, rfl, by decide +kernel, by decide +kernel⟩
abbrev s__law_built : Stmt := topS 16
theorem sc__law_built : FnScope ["script", "text", "k", "size"] ["script"] (defScope s__law_built) := ⟨rfl, rfl, rfl, by decide +kernel, rfl, by decide +kernel, by decide +kernel⟩
abbrev s__law_due : Stmt := topS 17
theorem sc__law_due : FnScope ["text", "rows", "part"] ["text"] (defScope s__law_due) := ⟨rfl, rfl, rfl, by decide +kernel, rfl, by decide +kernel, by decide +kernel⟩
abbrev s__law_raises_base : Stmt := topS 18
theorem sc__law_raises_base : FnScope ["text", "e"] ["text"] (defScope s__law_raises_base) := ⟨rfl, rfl, rfl, by decide +kernel, rfl, by decide +kernel, by decide +kernel⟩
abbrev s_law : Stmt := topS 19
theorem sc_law : FnScope ["script", "text", "due", "actual", "told", "e", "words"] ["script"] (defScope s_law) := ⟨rfl, rfl, rfl, by decide +kernel, rfl, by decide +kernel, by decide +kernel⟩
structure Txt (K : PySem.W.Frag) (mg : Str → Option Value) (C_LedgerError : Addr) (C_BadCommand : Addr) : Prop where
  d_is_printable : DefOk K mg "is_printable" s_is_printable ["value"]
  d_statements : DefOk K mg "statements" s_statements ["text"]
  d_parts_of : DefOk K mg "parts_of" s_parts_of ["text"]
  d_words_of : DefOk K mg "words_of" s_words_of ["part", "index"]
  d__law_cell : DefOk K mg "_law_cell" s__law_cell ["script", "k"]
  d__law_word : DefOk K mg "_law_word" s__law_word ["size", "chars", "seed", "step"]
  d__law_printable : DefOk K mg "_law_printable" s__law_printable []
  d__law_all_in : DefOk K mg "_law_all_in" s__law_all_in ["word", "chars"]
  d__law_piece : DefOk K mg "_law_piece" s__law_piece ["cell"]
  d__law_built : DefOk K mg "_law_built" s__law_built ["script"]
  d__law_due : DefOk K mg "_law_due" s__law_due ["text"]
  d__law_raises_base : DefOk K mg "_law_raises_base" s__law_raises_base ["text"]
  d_law : DefOk K mg "law" s_law ["script"]
  x_LedgerError : ExOk K mg "LedgerError" C_LedgerError
  x_BadCommand : ExI K mg "BadCommand" C_BadCommand
  xn_BadCommand_reason : PySem.W.findIn K (.ref C_BadCommand) "reason" = some none
  xn_BadCommand_statement : PySem.W.findIn K (.ref C_BadCommand) "statement" = some none
  ei_BadCommand : ExInit K C_BadCommand "BadCommand.__init__" s_BadCommand____init__ ["self", "reason", "statement"]
  ec_BadCommand : ExcC K C_BadCommand
  kt_BadCommand_ValueError : PySem.W.kitOne K (.ref C_BadCommand) (.type "ValueError") = some true
  u_BadCommand_BadCommand : PySem.W.subIn K (.ref C_BadCommand) (.ref C_BadCommand) = some true
  u_BadCommand_LedgerError : PySem.W.subIn K (.ref C_BadCommand) (.ref C_LedgerError) = some true
  c_MOST_TEXT : ∃ u, mg "MOST_TEXT" = some u ∧ RelV (.int 240) u
  z_ValueError : mg "ValueError" = none
  z_enumerate : mg "enumerate" = none
  z_int : mg "int" = none
  z_isinstance : mg "isinstance" = none
  z_len : mg "len" = none
  z_list : mg "list" = none
  z_max : mg "max" = none
  z_min : mg "min" = none
  z_range : mg "range" = none
  z_str : mg "str" = none
  z_tuple : mg "tuple" = none
set_option pp.maxSteps 150
/-! ### the draws of a script -/
def Dr (H : Hp) (D A : Addr) : Prop := D ≠ A ∧ ∃ (ds : List Int) (n : Nat), H D = some (.lst (ds.map V.int)) ∧ H A = some (.lst [.int n]) ∧ (∀ d ∈ ds, 0 ≤ d ∧ d < 1000) ∧ ds.length ≤ 2520
/-- all that was tracked but A is as it was -/
def Mod (A : Addr) (H H' : Hp) : Prop := ∀ b o, b ≠ A → H b = some o → H' b = some o
theorem Mod.refl {A : Addr} {H : Hp} : Mod A H H := fun _ _ _ h => h
theorem Mod.trans {A : Addr} {H H1 H2 : Hp} (a : Mod A H H1) (b : Mod A H1 H2) : Mod A H H2 := fun c o n h => b c o n (a c o n h)
theorem Same.mod {A : Addr} {H H' : Hp} (s : Same H H') : Mod A H H' := fun b o _ h => s b o h
theorem Mod.new {A p : Addr} {o : HO} {H H' : Hp} (s : Mod A H H') (h : H' p = none) : Mod A H (upd H' p o) := fun b u n e => by
  rw [upd_ne (ne_of_none (s b u n e) h)]
  exact s b u n e
theorem Dr.new {D A p : Addr} {o : HO} {H : Hp} (d : Dr H D A) (h : H p = none) : Dr (upd H p o) D A := by
  obtain ⟨ne, ds, n, h1, h2, h3⟩ := d
  exact ⟨ne, ds, n, by rw [upd_ne (ne_of_none h1 h)]; exact h1, by rw [upd_ne (ne_of_none h2 h)]; exact h2, h3⟩
theorem Dr.same {D A : Addr} {H H' : Hp} (d : Dr H D A) (s : Same H H') : Dr H' D A := by
  obtain ⟨ne, ds, n, h1, h2, h3⟩ := d
  exact ⟨ne, ds, n, s _ _ h1, s _ _ h2, h3⟩
/-- an object that is neither D nor A is changed -/
theorem Dr.put {D A p : Addr} {o : HO} {H : Hp} (d : Dr H D A) (h1 : p ≠ D) (h2 : p ≠ A) : Dr (upd H p o) D A := by
  obtain ⟨ne, ds, n, e1, e2, h3⟩ := d
  exact ⟨ne, ds, n, by rw [upd_ne h1.symm]; exact e1, by rw [upd_ne h2.symm]; exact e2, h3⟩
theorem Dr.freshA {D A p : Addr} {H : Hp} (d : Dr H D A) (h : H p = none) : p ≠ A := by
  obtain ⟨_, _, _, _, e, _⟩ := d
  exact (ne_of_none e h).symm
theorem Dr.freshD {D A p : Addr} {H : Hp} (d : Dr H D A) (h : H p = none) : p ≠ D := by
  obtain ⟨_, _, _, e, _⟩ := d
  exact (ne_of_none e h).symm
theorem Mod.free {A p : Addr} {H H' : Hp} (s : Mod A H H') (d : ∃ o, H' A = some o) (h : H' p = none) : H p = none := by
  cases e : H p with
  | none => rfl
  | some o =>
    by_cases hp : p = A
    · subst hp
      obtain ⟨o', e'⟩ := d
      rw [e'] at h; cases h
    · rw [s p o hp e] at h; cases h
theorem Dr.A_in {D A : Addr} {H : Hp} (d : Dr H D A) : ∃ o, H A = some o := by
  obtain ⟨_, _, _, _, e, _⟩ := d
  exact ⟨_, e⟩
theorem rng_app {ds : List Int} {x : Int} (h : ∀ d ∈ ds, 0 ≤ d ∧ d < 1000) (h0 : 0 ≤ x) (h1 : x < 1000) : ∀ d ∈ ds ++ [x], 0 ≤ d ∧ d < 1000 := fun d hd => by
  rcases List.mem_append.mp hd with hd | hd
  · exact h d hd
  · rw [List.mem_singleton.mp hd]; exact ⟨h0, h1⟩

/-! ### drawn numbers and strings -/
def prC (c : Nat) : Bool := decide (32 ≤ c) && decide (c ≤ 126) && decide (c ≠ 37)
def isPr (z : Str) : Bool := z.cps.toList.all prC
theorem app_tl (a b : Str) : (a ++ b).cps.toList = a.cps.toList ++ b.cps.toList := by
  show (a.cps ++ b.cps).toList = _
  rw [Array.toList_append]
theorem len_tl (z : Str) : z.cps.toList.length = z.length := Array.length_toList
theorem isPr_app (a b : Str) : isPr (a ++ b) = (isPr a && isPr b) := by
  unfold isPr
  rw [app_tl, List.all_append]

/-! ### values as data: what stands at them does not change -/
def TupAt (K : PySem.W.Frag) (H : Hp) (a : Addr) (xs : List V) : Prop := H a = some (.tup xs) ∨ KTup K a xs
section
variable {K : PySem.W.Frag}
theorem TupAt.sq {H : Hp} {a : Addr} {xs : List V} (h : TupAt K H a xs) : SqT K H a xs := h.elim SqT.of .inr
theorem TupAt.ty {H : Hp} {a : Addr} {xs : List V} (h : TupAt K H a xs) : TyX K H (.ref a) (.type "tuple") := h.elim (fun h => .base (.tup h)) (fun ⟨_, _, _, h1, h2, _⟩ => .kTuple h1 h2)
theorem TupAt.same {H H' : Hp} {a : Addr} {xs : List V} (h : TupAt K H a xs) (s : Same H H') : TupAt K H' a xs := h.imp (s _ _) id
/-- none of those at A (none: no matter) -/
def NeA (A : Option Addr) (a : Addr) : Prop := match A with | some b => a ≠ b | none => True
mutual
/-- v is the data d; the lists in it are none of those at A -/
inductive Dt (K : PySem.W.Frag) (H : Hp) (A : Option Addr) : V → PyData → Prop
  | non : Dt K H A .non .none
  | bl (b : Bool) : Dt K H A (.bl b) (.bool b)
  | int (i : Int) : Dt K H A (.int i) (.int i)
  | str (z : Str) (h : z.length ≤ 1000000) : Dt K H A (.str z) (.str z)
  | lst {a : Addr} {xs : List V} {ds : List PyData} : NeA A a → H a = some (.lst xs) → DtAll K H A xs ds → Dt K H A (.ref a) (.list ds)
  | tup {a : Addr} {xs : List V} {ds : List PyData} : TupAt K H a xs → DtAll K H A xs ds → Dt K H A (.ref a) (.tuple ds)
inductive DtAll (K : PySem.W.Frag) (H : Hp) (A : Option Addr) : List V → List PyData → Prop
  | nil : DtAll K H A [] []
  | cons {v : V} {vs : List V} {d : PyData} {ds : List PyData} : Dt K H A v d → DtAll K H A vs ds → DtAll K H A (v :: vs) (d :: ds)
end
theorem DtAll.length {H : Hp} {A : Option Addr} : ∀ {xs : List V} {ds : List PyData}, DtAll K H A xs ds → xs.length = ds.length
  | _, _, .nil => rfl
  | _, _, .cons _ r => by rw [List.length_cons, List.length_cons, r.length]
theorem DtAll.get {H : Hp} {A : Option Addr} : ∀ {xs : List V} {ds : List PyData} {i : Nat} {x : V}, DtAll K H A xs ds → xs[i]? = some x → ∃ d, ds[i]? = some d ∧ Dt K H A x d
  | _, _, _, _, .nil, e => by simp at e
  | _, _, 0, x, .cons h _, e => by simp at e; subst e; exact ⟨_, rfl, h⟩
  | _, _, i + 1, x, .cons _ r, e => by
    obtain ⟨d, h1, h2⟩ := r.get (i := i) (x := x) (by simpa using e)
    exact ⟨d, by simpa using h1, h2⟩
theorem DtAll.getD {H : Hp} {A : Option Addr} {xs : List V} {ds : List PyData} {i : Nat} {d : PyData} (h : DtAll K H A xs ds) (e : ds[i]? = some d) : ∃ x, xs[i]? = some x ∧ Dt K H A x d := by
  have hi : i < ds.length := (List.getElem?_eq_some_iff.mp e).1
  have hi' : i < xs.length := by rw [h.length]; exact hi
  obtain ⟨d', h1, h2⟩ := h.get (List.getElem?_eq_getElem hi')
  rw [e] at h1
  cases h1
  exact ⟨_, List.getElem?_eq_getElem hi', h2⟩
mutual
theorem Dt.mod {H H' : Hp} {A D : Addr} (s : Mod A H H') (dr : Dr H D A) : ∀ (d : PyData) (v : V), Dt K H (some A) v d → Dt K H' (some A) v d
  | .none, _, h => by cases h; exact .non
  | .bool b, _, h => by cases h; exact .bl b
  | .int i, _, h => by cases h; exact .int i
  | .str z, _, h => by cases h with | str _ hz => exact .str z hz
  | .list ds, _, h => by cases h with | lst hn ha hd => exact .lst hn (s _ _ hn ha) (DtAll.mod s dr ds _ hd)
  | .tuple ds, _, h => by
    cases h with
    | tup ha hd =>
      obtain ⟨_, _, _, _, e, _⟩ := id dr
      exact .tup (ha.imp (fun ha => s _ _ (ne_of ha e (by intro z; cases z)) ha) id) (DtAll.mod s dr ds _ hd)
  | .dict _, _, h => by cases h
theorem DtAll.mod {H H' : Hp} {A D : Addr} (s : Mod A H H') (dr : Dr H D A) : ∀ (ds : List PyData) (xs : List V), DtAll K H (some A) xs ds → DtAll K H' (some A) xs ds
  | [], _, h => by cases h; exact .nil
  | d :: ds, _, h => by cases h with | cons h1 h2 => exact .cons (Dt.mod s dr d _ h1) (DtAll.mod s dr ds _ h2)
end
mutual
theorem Dt.same {H H' : Hp} {A : Option Addr} (s : Same H H') : ∀ (d : PyData) (v : V), Dt K H A v d → Dt K H' A v d
  | .none, _, h => by cases h; exact .non
  | .bool b, _, h => by cases h; exact .bl b
  | .int i, _, h => by cases h; exact .int i
  | .str z, _, h => by cases h with | str _ hz => exact .str z hz
  | .list ds, _, h => by cases h with | lst hn ha hd => exact .lst hn (s _ _ ha) (DtAll.same s ds _ hd)
  | .tuple ds, _, h => by cases h with | tup ha hd => exact .tup (ha.same s) (DtAll.same s ds _ hd)
  | .dict _, _, h => by cases h
theorem DtAll.same {H H' : Hp} {A : Option Addr} (s : Same H H') : ∀ (ds : List PyData) (xs : List V), DtAll K H A xs ds → DtAll K H' A xs ds
  | [], _, h => by cases h; exact .nil
  | d :: ds, _, h => by cases h with | cons h1 h2 => exact .cons (Dt.same s d _ h1) (DtAll.same s ds _ h2)
end
mutual
/-- data for a comparison -/
theorem Dt.dp {H : Hp} {A : Option Addr} : ∀ (d : PyData) (v : V), Dt K H A v d → Dp K H v d
  | .none, _, h => by cases h; exact .non
  | .bool b, _, h => by cases h; exact .bl b
  | .int i, _, h => by cases h; exact .int i
  | .str z, _, h => by cases h; exact .str z
  | .list ds, _, h => by cases h with | lst hn ha hd => exact .lst (SqL.of ha) (DtAll.dp ds _ hd)
  | .tuple ds, _, h => by cases h with | tup ha hd => exact .tup ha.sq (DtAll.dp ds _ hd)
  | .dict _, _, h => by cases h
theorem DtAll.dp {H : Hp} {A : Option Addr} : ∀ (ds : List PyData) (xs : List V), DtAll K H A xs ds → DpAll K H xs ds
  | [], _, h => by cases h; exact .nil
  | d :: ds, _, h => by cases h with | cons h1 h2 => exact .cons (Dt.dp d _ h1) (DtAll.dp ds _ h2)
end
theorem Dt.on {H H' : Hp} {A : Option Addr} {v : V} {d : PyData} (h : Dt K H A v d) (s : Same H H') : Dt K H' A v d := Dt.same s d v h
theorem DtAll.on {H H' : Hp} {A : Option Addr} {xs : List V} {ds : List PyData} (h : DtAll K H A xs ds) (s : Same H H') : DtAll K H' A xs ds := DtAll.same s ds xs h
theorem Dt.by {H H' : Hp} {A D : Addr} {v : V} {d : PyData} (h : Dt K H (some A) v d) (s : Mod A H H') (dr : Dr H D A) : Dt K H' (some A) v d := Dt.mod s dr d v h
theorem DtAll.by {H H' : Hp} {A D : Addr} {xs : List V} {ds : List PyData} (h : DtAll K H (some A) xs ds) (s : Mod A H H') (dr : Dr H D A) : DtAll K H' (some A) xs ds := DtAll.mod s dr ds xs h
theorem Dt.two {H : Hp} {A : Option Addr} {v : V} {d : PyData} (h : Dt K H A v d) : (∃ a xs ds, v = .ref a ∧ d = .tuple ds ∧ TupAt K H a xs ∧ DtAll K H A xs ds) ∨ (∃ T, TyX K H v (.type T) ∧ kitB T "tuple" = some false ∧ ∀ ds, d ≠ .tuple ds) := by
  cases h with
  | tup ha hx => exact .inl ⟨_, _, _, rfl, rfl, ha, hx⟩
  | str z hz => exact .inr ⟨_, .base (.str z), by decide +kernel, fun _ z => nomatch z⟩
  | int i => exact .inr ⟨_, .base (.int i), by decide +kernel, fun _ z => nomatch z⟩
  | non => exact .inr ⟨_, .base .non, by decide +kernel, fun _ z => nomatch z⟩
  | bl b => exact .inr ⟨_, .base (.bl b), by decide +kernel, fun _ z => nomatch z⟩
  | lst _ ha _ => exact .inr ⟨_, .base (.lst ha), by decide +kernel, fun _ z => nomatch z⟩
/-- the kind of a value -/
def dTy : PyData → String
  | .none => "NoneType" | .bool _ => "bool" | .int _ => "int" | .str _ => "str" | .list _ => "list" | .tuple _ => "tuple" | .dict _ => "dict"
theorem Dt.ty {H : Hp} {A : Option Addr} {v : V} {d : PyData} (h : Dt K H A v d) : TyX K H v (.type (dTy d)) := by
  cases h with
  | non => exact .base .non
  | bl b => exact .base (.bl b)
  | int i => exact .base (.int i)
  | str z _ => exact .base (.str z)
  | lst _ ha _ => exact .base (.lst ha)
  | tup ha _ => exact ha.ty
/-! the predicates of the program, upon data -/
def dInt (lo hi : Int) : PyData → Bool
  | .int i => decide (lo ≤ i ∧ i ≤ hi)
  | _ => false
def dShort (m : Int) : PyData → Bool
  | .str z => isPr z && decide ((z.length : Int) ≤ m)
  | _ => false
def dCmd : PyData → Bool
  | .tuple [c, n, t] => dInt (-100) (-1) c && dInt 1 1000000000000 n && dShort 240 t
  | _ => false
def dClient : PyData → Int
  | .tuple (.int c :: _) => c
  | _ => 0
def dAfter : Option Int → PyData → Bool
  | some k, d => decide (k < dClient d)
  | none, _ => true
def befV : Option Int → V
  | some k => .int k
  | none => .non
def dCmdsFrom : Option Int → List PyData → Bool
  | _, [] => true
  | b, d :: r => dCmd d && dAfter b d && dCmdsFrom (some (dClient d)) r
theorem dCmdsFrom_cons (b : Option Int) (d : PyData) (r : List PyData) : dCmdsFrom b (d :: r) = (dCmd d && dAfter b d && dCmdsFrom (some (dClient d)) r) := by cases b <;> rfl
theorem dCmdsFrom_nil (b : Option Int) : dCmdsFrom b [] = true := by cases b <;> rfl
def dCmds : PyData → Bool
  | .tuple ds => dCmdsFrom none ds
  | _ => false
def dHeight (parent : Int) (h : PyData) : Bool := if parent = 0 then dInt 1 1 h else dInt 2 (parent + 1) h
def dBlock4 (e p h cs : PyData) : Bool := match e, p with
  | .int e, .int p => dInt 1 1000000000000 (.int e) && dInt 0 (e - 1) (.int p) && dHeight p h && dCmds cs
  | _, _ => false
def dBlock : PyData → Bool
  | .tuple [e, p, h, cs] => dBlock4 e p h cs
  | _ => false
def dEmpty : PyData → Bool
  | .tuple [] => true
  | _ => false
def dGen : PyData → Bool
  | .tuple [e, p, h, cs] => dInt 0 0 e && dInt 0 0 p && dInt 0 0 h && dEmpty cs
  | _ => false
theorem DtAll.four {H : Hp} {A : Option Addr} {xs : List V} {ds : List PyData} (h : DtAll K H A xs ds) (hl : xs.length = 4) :
    ∃ x1 x2 x3 x4 d1 d2 d3 d4, xs = [x1, x2, x3, x4] ∧ ds = [d1, d2, d3, d4] ∧ Dt K H A x1 d1 ∧ Dt K H A x2 d2 ∧ Dt K H A x3 d3 ∧ Dt K H A x4 d4 := by
  match xs, ds, h with
  | [_, _, _, _], _, .cons h1 (.cons h2 (.cons h3 (.cons h4 .nil))) => exact ⟨_, _, _, _, _, _, _, _, rfl, rfl, h1, h2, h3, h4⟩
theorem dBlock4_e1 {e p h cs : PyData} (z : dInt 1 1000000000000 e = false) : dBlock4 e p h cs = false := by
  unfold dBlock4
  split
  · rw [z]; rfl
  · rfl
theorem dBlock4_e2 {e : Int} {p h cs : PyData} (z : dInt 0 (e - 1) p = false) : dBlock4 (.int e) p h cs = false := by
  unfold dBlock4
  split
  · rename_i h1
    cases h1
    rw [z, Bool.and_false]; rfl
  · rfl
/-- a predicate of one value, kept by growing heaps -/
def spPred (K : PySem.W.Frag) (A : Option Addr) (f : PyData → Bool) : Sp := fun vs H Q _ => ∃ (v : V) (d : PyData), vs = [v] ∧ Dt K H A v d ∧ ∀ H', Same H H' → Q (.bl (f d)) H'
def spIntD (K : PySem.W.Frag) (A : Option Addr) : Sp := fun vs H Q _ => ∃ (v : V) (d : PyData) (lo hi : Int), vs = [v, .int lo, .int hi] ∧ Dt K H A v d ∧ Q (.bl (dInt lo hi d)) H
def spShortD (K : PySem.W.Frag) (A : Option Addr) : Sp := fun vs H Q _ => ∃ (v : V) (d : PyData) (m : Int), vs = [v, .int m] ∧ Dt K H A v d ∧ ∀ H', Same H H' → Q (.bl (dShort m d)) H'
theorem dInt_inv {lo hi : Int} {d : PyData} (h : dInt lo hi d = true) : ∃ i, d = .int i ∧ lo ≤ i ∧ i ≤ hi := by
  cases d with
  | int i =>
    have h : decide (lo ≤ i ∧ i ≤ hi) = true := h
    exact ⟨i, rfl, (of_decide_eq_true h).1, (of_decide_eq_true h).2⟩
  | none => cases h
  | bool b => cases h
  | str z => cases h
  | list ds => cases h
  | tuple ds => cases h
  | dict k => cases h
theorem dShort_inv {m : Int} {d : PyData} (h : dShort m d = true) : ∃ z : Str, d = .str z ∧ isPr z = true ∧ (z.length : Int) ≤ m := by
  cases d with
  | str z =>
    have h : (isPr z && decide ((z.length : Int) ≤ m)) = true := h
    obtain ⟨h1, h2⟩ := Bool.and_eq_true_iff.mp h
    exact ⟨z, rfl, h1, of_decide_eq_true h2⟩
  | none => cases h
  | bool b => cases h
  | int i => cases h
  | list ds => cases h
  | tuple ds => cases h
  | dict k => cases h
theorem dCmd_inv {d : PyData} (h : dCmd d = true) : ∃ (c n : Int) (t : Str), d = .tuple [.int c, .int n, .str t] ∧ -100 ≤ c ∧ c ≤ -1 ∧ 1 ≤ n ∧ n ≤ 1000000000000 ∧ isPr t = true ∧ (t.length : Int) ≤ 240 := by
  unfold dCmd at h
  split at h
  · rename_i c n t
    rw [Bool.and_eq_true, Bool.and_eq_true] at h
    obtain ⟨⟨h1, h2⟩, h3⟩ := h
    obtain ⟨c, rfl, c0, c1⟩ := dInt_inv h1
    obtain ⟨n, rfl, n0, n1⟩ := dInt_inv h2
    obtain ⟨t, rfl, t0, t1⟩ := dShort_inv h3
    exact ⟨c, n, t, rfl, c0, c1, n0, n1, t0, t1⟩
  · cases h
/-- what a tuple of three ints, ints, texts stands for -/
theorem Dt.three {H : Hp} {A : Option Addr} {v : V} {d1 d2 d3 : PyData} (h : Dt K H A v (.tuple [d1, d2, d3])) : ∃ a x1 x2 x3, v = .ref a ∧ TupAt K H a [x1, x2, x3] ∧ Dt K H A x1 d1 ∧ Dt K H A x2 d2 ∧ Dt K H A x3 d3 := by
  cases h with
  | tup ha hd =>
    cases hd with
    | cons h1 hd =>
      cases hd with
      | cons h2 hd =>
        cases hd with
        | cons h3 hd =>
          cases hd
          exact ⟨_, _, _, _, rfl, ha, h1, h2, h3⟩
mutual
theorem Dt.any {H : Hp} {A : Option Addr} : ∀ (d : PyData) (v : V), Dt K H A v d → Dt K H none v d
  | .none, _, h => by cases h; exact .non
  | .bool b, _, h => by cases h; exact .bl b
  | .int i, _, h => by cases h; exact .int i
  | .str z, _, h => by cases h with | str _ hz => exact .str z hz
  | .list ds, _, h => by cases h with | lst hn ha hd => exact .lst trivial ha (DtAll.any ds _ hd)
  | .tuple ds, _, h => by cases h with | tup ha hd => exact .tup ha (DtAll.any ds _ hd)
  | .dict _, _, h => by cases h
theorem DtAll.any {H : Hp} {A : Option Addr} : ∀ (ds : List PyData) (xs : List V), DtAll K H A xs ds → DtAll K H none xs ds
  | [], _, h => by cases h; exact .nil
  | d :: ds, _, h => by cases h with | cons h1 h2 => exact .cons (Dt.any d _ h1) (DtAll.any ds _ h2)
end
theorem Dt.an {H : Hp} {A : Option Addr} {v : V} {d : PyData} (h : Dt K H A v d) : Dt K H none v d := Dt.any d v h
/-! data without lists -/
mutual
def noL : PyData → Bool
  | .list _ => false
  | .tuple ds => noLs ds
  | _ => true
def noLs : List PyData → Bool
  | [] => true
  | d :: r => noL d && noLs r
end
/-- tracked tuples stay -/
def Tp (H H' : Hp) : Prop := ∀ a xs, H a = some (.tup xs) → H' a = some (.tup xs)
mutual
theorem Dt.keep {H H' : Hp} {A B : Option Addr} (t : Tp H H') : ∀ (d : PyData) (v : V), noL d = true → Dt K H A v d → Dt K H' B v d
  | .none, _, _, h => by cases h; exact .non
  | .bool b, _, _, h => by cases h; exact .bl b
  | .int i, _, _, h => by cases h; exact .int i
  | .str z, _, _, h => by cases h with | str _ hz => exact .str z hz
  | .list ds, _, n, _ => by cases n
  | .tuple ds, _, n, h => by cases h with | tup ha hd => exact .tup (ha.imp (t _ _) id) (DtAll.keep t ds _ n hd)
  | .dict _, _, _, h => by cases h
theorem DtAll.keep {H H' : Hp} {A B : Option Addr} (t : Tp H H') : ∀ (ds : List PyData) (xs : List V), noLs ds = true → DtAll K H A xs ds → DtAll K H' B xs ds
  | [], _, _, h => by cases h; exact .nil
  | d :: ds, _, n, h => by
    have n : (noL d && noLs ds) = true := n
    rw [Bool.and_eq_true] at n
    cases h with | cons h1 h2 => exact .cons (Dt.keep t d _ n.1 h1) (DtAll.keep t ds _ n.2 h2)
end
theorem DtAll.snoc {H : Hp} {A : Option Addr} : ∀ {xs : List V} {ds : List PyData} {x : V} {d : PyData}, DtAll K H A xs ds → Dt K H A x d → DtAll K H A (xs ++ [x]) (ds ++ [d])
  | _, _, _, _, .nil, h => .cons h .nil
  | _, _, _, _, .cons h r, h2 => .cons h (r.snoc h2)
theorem TupAt.tp {H H' : Hp} {a : Addr} {xs : List V} (h : TupAt K H a xs) (t : Tp H H') : TupAt K H' a xs := h.imp (t _ _) id
theorem Same.tp {H H' : Hp} (s : Same H H') : Tp H H' := fun _ _ h => s _ _ h
theorem Mod.tp {H H' : Hp} {A D : Addr} (s : Mod A H H') (dr : Dr H D A) : Tp H H' := fun a xs h => by
  obtain ⟨_, _, _, _, e, _⟩ := id dr
  exact s _ _ (ne_of h e (by intro z; cases z)) h
theorem tp_put {H : Hp} {l : Addr} {xs ys : List V} (h : H l = some (.lst xs)) : Tp H (upd H l (.lst ys)) := fun a zs e => by
  rw [upd_ne (ne_of e h (by intro z; cases z))]; exact e
theorem dCmd_noL {d : PyData} (h : dCmd d = true) : noL d = true := by
  obtain ⟨c, n, t, rfl, _⟩ := dCmd_inv h
  rfl
theorem dCmdsFrom_noL : ∀ {ds : List PyData} {b : Option Int}, dCmdsFrom b ds = true → noLs ds = true
  | [], _, _ => rfl
  | d :: r, b, h => by
    rw [dCmdsFrom_cons, Bool.and_eq_true, Bool.and_eq_true] at h
    show (noL d && noLs r) = true
    rw [dCmd_noL h.1.1, dCmdsFrom_noL h.2]; rfl
theorem dCmdsFrom_all : ∀ {ds : List PyData} {b : Option Int}, dCmdsFrom b ds = true → ∀ d ∈ ds, dCmd d = true
  | [], _, _, _, m => nomatch m
  | d :: r, b, h, e, m => by
    rw [dCmdsFrom_cons, Bool.and_eq_true, Bool.and_eq_true] at h
    rcases List.mem_cons.mp m with rfl | m
    · exact h.1.1
    · exact dCmdsFrom_all h.2 e m
def lastC : Option Int → List PyData → Option Int
  | b, [] => b
  | _, d :: r => lastC (some (dClient d)) r
theorem lastC_snoc : ∀ (ds : List PyData) (b : Option Int) (d : PyData), lastC b (ds ++ [d]) = some (dClient d)
  | [], _, _ => rfl
  | _ :: r, _, d => lastC_snoc r _ d
theorem dCmdsFrom_snoc : ∀ (ds : List PyData) (b : Option Int) (d : PyData), dCmdsFrom b (ds ++ [d]) = (dCmdsFrom b ds && (dCmd d && dAfter (lastC b ds) d))
  | [], b, d => by
    show dCmdsFrom b [d] = _
    rw [dCmdsFrom_cons, dCmdsFrom_nil, dCmdsFrom_nil, Bool.and_true, Bool.true_and]; rfl
  | e :: r, b, d => by
    show dCmdsFrom b (e :: (r ++ [d])) = _
    rw [dCmdsFrom_cons, dCmdsFrom_snoc r, dCmdsFrom_cons, Bool.and_assoc, Bool.and_assoc, Bool.and_assoc]; rfl
end
theorem noLs_all : ∀ {ds : List PyData}, (∀ d ∈ ds, noL d = true) → noLs ds = true
  | [], _ => rfl
  | d :: r, h => by
    show (noL d && noLs r) = true
    rw [h d List.mem_cons_self, noLs_all (fun e he => h e (List.mem_cons_of_mem _ he))]; rfl

def NoStr (K : PySem.W.Frag) (H : Hp) (v : V) : Prop := ∃ T, TyX K H v (.type T) ∧ kitB T "str" = some false
def spPrint (K : PySem.W.Frag) : Sp := fun vs H Q _ => ∃ (v : V), vs = [v] ∧ ((∃ z : Str, v = .str z ∧ z.length ≤ 16000000 ∧ ∀ H', Same H H' → Q (.bl (isPr z)) H') ∨ (NoStr K H v ∧ Q (.bl false) H))
theorem print128 : ∀ c : Nat, c < 128 → (Unicode.isPrintable c = true ↔ (32 ≤ c ∧ c ≤ 126)) := by
  intro c hc
  have h : ∀ c : Fin 128, (Unicode.isPrintable c.val = true ↔ (32 ≤ c.val ∧ c.val ≤ 126)) := by decide +kernel
  exact h ⟨c, hc⟩
theorem asc_list {z : Str} : Txt.isascii z = true ↔ ∀ c ∈ z.cps.toList, c < 128 := by
  unfold Txt.isascii
  rw [← Array.all_toList, List.all_eq_true]
  simp
theorem pri_list {z : Str} : Txt.isprintable z = true ↔ ∀ c ∈ z.cps.toList, Unicode.isPrintable c = true := by
  unfold Txt.isprintable
  rw [← Array.all_toList, List.all_eq_true]
theorem isPr_iff {z : Str} : isPr z = true ↔ ∀ c ∈ z.cps.toList, 32 ≤ c ∧ c ≤ 126 ∧ c ≠ 37 := by
  unfold isPr
  rw [List.all_eq_true]
  simp [prC, and_assoc]
theorem out37_len {l : List Nat} : (out37 l).length = l.length ↔ ∀ c ∈ l, c ≠ 37 := by
  unfold out37
  rw [List.length_filter_eq_length_iff]
  simp
section
variable {P : Program} {w : World} {K : PySem.W.Frag} {mg : Str → Option Value} {base : Heap}
theorem c_is_printable {C_LedgerError : Addr} {C_BadCommand : Addr} (T : Txt K mg C_LedgerError C_BadCommand) : Cal P w K mg base 1 "is_printable" (spPrint K) [] := by
  refine cal T.d_is_printable sc_is_printable (fun vs H Q E h => ?_) (fun f cdv A outer s H vs Q E hr h => ?_)
  · obtain ⟨v, rfl, _⟩ := h; rfl
  obtain ⟨v, rfl, h⟩ := h
  refine ⟨_, (pss_cons (ps_if (PW.pt (pw_or (pt_not (pt_val (pe_callB (kisi (K := K)) (by rfl) T.z_isinstance (by decide +kernel) (pa_cons (pv 0) (pa_cons (pe_bltn (v := .ty "str") (by rfl) T.z_str (by decide +kernel) rfl) pa_nil))))) (pw_or (pt_not (pt_val (pe_bm0 PySem.F.plainAttrs_str PySem.F.slot_str_isascii PySem.F.type_str_isascii mt_isascii (pv 0)))) (pw_or1 (pt_not (pt_val (pe_bm0 PySem.F.plainAttrs_str PySem.F.slot_str_isprintable PySem.F.type_str_isprintable mt_isprintable (pv 0)))))))) (pss_one (ps_ret pe_bl)) pss_nil)
      (pss_one (ps_ret (pe_cmpR op_eq (pe_callB call_len_str (by rfl) T.z_len (by decide +kernel) (pa_cons (pe_bm PySem.F.plainAttrs_str PySem.F.slot_str_translate PySem.F.type_str_translate (mt_tr37 rfl) (pv 0) (pa_cons (pe_disp (pps_cons pe_int pe_non pps_nil) rfl rfl (by intro z; cases z) (by decide)) pa_nil)) pa_nil)) (pe_callB call_len_str (by rfl) T.z_len (by decide +kernel) (pa_cons (pv 0) pa_nil)) (nomark _))))), ?_⟩
  rcases h with ⟨z, rfl, hz, q⟩ | ⟨⟨T, ty, hk⟩, q⟩
  · walk_at "rds"
    walk_at "isi"
    walk_at "rds"
    refine ⟨rfl, _, rfl, rfl, trivial, ?_⟩
    walk_at "rds"
    cases ha : Txt.isascii z with
    | false =>
      have e : isPr z = false := by
        cases e : isPr z with
        | false => rfl
        | true =>
          have := asc_list.mpr (fun c hc => by have := isPr_iff.mp e c hc; omega)
          rw [ha] at this; cases this
      rw [e] at q
      walk_at "rds"
      exact q H (Same.refl H)
    | true =>
      have ha := asc_list.mp ha
      walk_at "rds"
      refine ⟨rfl, _, rfl, rfl, trivial, ?_⟩
      walk_at "rds"
      cases hp : Txt.isprintable z with
      | false =>
        have e : isPr z = false := by
          cases e : isPr z with
          | false => rfl
          | true =>
            have := pri_list.mpr (fun c hc => by have := isPr_iff.mp e c hc; exact (print128 c (by omega)).mpr ⟨by omega, by omega⟩)
            rw [hp] at this; cases this
        rw [e] at q
        walk_at "rds"
        exact q H (Same.refl H)
      | true =>
        have hp := pri_list.mp hp
        walk_at "rds"
        refine ⟨rfl, fun p np => ?_⟩
        refine ⟨upd_same, [(Sum.inl 37, .non)], rfl, by decide, ?_⟩
        refine ⟨z, p, rfl, rfl, upd_same, ha, hz, ?_⟩
        have l37 : (SX.S (out37 z.cps.toList)).length ≤ 16000000 := by
          rw [SX.S_len]
          exact Nat.le_trans (List.length_filter_le _ _) (by rw [len_tl]; exact hz)
        walk_at "rds"
        have e : decide (V.int ((SX.S (out37 z.cps.toList)).length : Int) = V.int (z.length : Int)) = isPr z := by
          rw [SX.S_len]
          have hl := @out37_len z.cps.toList
          rw [len_tl] at hl
          cases e : isPr z with
          | true =>
            refine decide_eq_true ?_
            rw [hl.mpr (fun c hc => (isPr_iff.mp e c hc).2.2)]
          | false =>
            refine decide_eq_false fun z' => ?_
            have h1 := hl.mp (Int.ofNat.inj (V.int.inj z'))
            have : isPr z = true := isPr_iff.mpr (fun c hc => ⟨((print128 c (ha c hc)).mp (hp c hc)).1, ((print128 c (ha c hc)).mp (hp c hc)).2, h1 c hc⟩)
            rw [e] at this; cases this
        rw [← e] at q
        exact q _ (same_mut (same_upd np) np)
  · walk_at "rds"
    refine ⟨_, .ty _, _, _, false, rfl, .ty _, ty, kit_ty hk, ?_⟩
    walk_at "rds"
    exact q
end

/-! ### BadCommand(reason, statement) -/
section
variable {P : Program} {w : World} {K : PySem.W.Frag} {mg : Str → Option Value} {base : Heap}
theorem i_BadCommand {C_LedgerError : Addr} {C_BadCommand : Addr} (T : Txt K mg C_LedgerError C_BadCommand) : ExMk P w K mg base 1 "BadCommand" C_BadCommand (spInit2 C_BadCommand "reason" "statement") := by
  refine exmk T.x_BadCommand T.ei_BadCommand sc_BadCommand____init__ (fun vs H Q E h => ?_) (fun f cdv A' outer s H vs Q E hr h => ?_)
  · obtain ⟨a, r, t, rfl, _⟩ := h; rfl
  obtain ⟨a, r, t, rfl, ha, q⟩ := h
  refine ⟨_, (pss_cons (ps_ost (pv 0) (pv 1))
      (pss_one (ps_ost (pv 0) (pv 2)))), ?_⟩
  walk_at "rds"
  refine ⟨a, C_BadCommand, rfl, T.x_BadCommand.ox, T.xn_BadCommand_reason, .inl ⟨ha, fun d hd hne => ?_⟩⟩
  walk_at "rds"
  refine ⟨a, C_BadCommand, rfl, T.x_BadCommand.ox, T.xn_BadCommand_statement, .inr ⟨d, _, upd_same, by rw [upd_ne hne]; exact upd_same, (by show 1 ≤ 900; decide), ?_⟩⟩
  exact q d hd hne
end

def inL (l ch : List Nat) : Bool := l.all fun c => decide (c ∈ ch)
theorem str_eq_l {a b : Str} : a = b ↔ a.cps.toList = b.cps.toList := by
  constructor
  · rintro rfl; rfl
  · intro h
    cases a; cases b
    simp only [Str.mk.injEq]
    exact Array.toList_inj.mp h
/-! ### the law -/
def PRT : Str := Str.ofString " !\"#$&'()*+,-./0123456789:;<=>?@ABCDEFGHIJKLMNOPQRSTUVWXYZ[\\]^_`" ++ Str.ofString "abcdefghijklmnopqrstuvwxyz{|}~"
theorem inL_cong {a b : List Nat} (h : ∀ c, decide (c ∈ a) = decide (c ∈ b)) (l : List Nat) : inL l a = inL l b := by
  unfold inL
  congr 1
  funext c
  exact h c
theorem mem_small {a : List Nat} {p : Nat → Bool} (h1 : ∀ c : Fin 128, decide (c.val ∈ a) = p c.val) (h2 : ∀ c ∈ a, c < 128) (h3 : ∀ c, p c = true → c < 128) (c : Nat) : decide (c ∈ a) = p c := by
  by_cases hc : c < 128
  · exact h1 ⟨c, hc⟩
  · rw [decide_eq_false (fun m => hc (h2 c m))]
    cases e : p c with
    | false => rfl
    | true => exact absurd (h3 c e) hc
theorem inL_all {a : List Nat} {p : Nat → Bool} (h : ∀ c, decide (c ∈ a) = p c) (l : List Nat) : inL l a = l.all p := by
  unfold inL
  congr 1
  funext c
  exact h c
theorem prt_mem (c : Nat) : decide (c ∈ PRT.cps.toList) = prC c := mem_small (by decide +kernel) (by decide +kernel) (fun c h => by
  unfold prC at h; rw [Bool.and_eq_true, Bool.and_eq_true] at h; have := of_decide_eq_true h.1.2; omega) c
theorem atI_lt {α : Type} {xs : List α} {i : Int} (h0 : 0 ≤ i) (h1 : i < xs.length) : ∃ v, v ∈ xs ∧ atI xs i = some v := by
  obtain ⟨j, rfl⟩ := Int.eq_ofNat_of_zero_le h0
  have hj : j < xs.length := Int.ofNat_lt.mp h1
  exact ⟨xs[j], List.getElem_mem hj, atI_nat (List.getElem?_eq_getElem hj)⟩

def spCellI (K : PySem.W.Frag) : Sp := fun vs H Q _ => ∃ (a : Addr) (ns : List Int) (k : Nat), vs = [.ref a, .int k] ∧ SqL K H a (ns.map V.int) ∧ Q (.int (ns.getD k 0)) H
def spWord : Sp := fun vs H Q _ => ∃ (n : Nat) (ch : Str) (seed step : Int), vs = [.int n, .str ch, .int seed, .int step] ∧ n ≤ 100 ∧ 0 < ch.length ∧ ch.length ≤ 1000 ∧ ∀ z : Str, z.length = n → (∀ c ∈ z.cps.toList, c ∈ ch.cps.toList) → Q (.str z) H
def spPrt : Sp := fun vs H Q _ => vs = [] ∧ Q (.str PRT) H
def spAllIn : Sp := fun vs H Q _ => ∃ (z ch : Str), vs = [.str z, .str ch] ∧ Q (.bl (inL z.cps.toList ch.cps.toList)) H
section
variable {P : Program} {w : World} {K : PySem.W.Frag} {mg : Str → Option Value} {base : Heap}
theorem c__law_cell {C_LedgerError : Addr} {C_BadCommand : Addr} (T : Txt K mg C_LedgerError C_BadCommand) : Cal P w K mg base 1 "_law_cell" (spCellI K) [] := by
  refine cal T.d__law_cell sc__law_cell (fun vs H Q E h => ?_) (fun f cdv A outer s H vs Q E hr h => ?_)
  · obtain ⟨a, ns, k, rfl, _⟩ := h; rfl
  obtain ⟨a, ns, k, rfl, hS, q⟩ := h
  refine ⟨_, (pss_cons (ps_if (pt_cmpR op_lt (pv 1) (pe_callB (klen (K := K)) (by rfl) T.z_len (by decide +kernel) (pa_cons (pv 0) pa_nil)) (nomark _)) (pss_one (ps_ret (pe_callTy call_int1 (by rfl) T.z_int (by decide +kernel) (pa_cons (pe_ix (kixl (K := K)) (pv 0) (pv 1) (fun _ _ => rfl)) pa_nil)))) pss_nil)
      (pss_one (ps_ret pe_int))), ?_⟩
  refine ⟨.int k, rfl, .ref a, rfl, a, _, rfl, .inl hS, _, _, rfl, rfl, _, rfl, ite2 (fun e => ?_) (fun e => ?_)⟩
  · have e := of_decide_eq_true e
    rw [List.length_map] at e
    have e1 : k < ns.length := by omega
    have g : (ns.map V.int)[k]? = some (.int (ns.getD k 0)) := by
      rw [List.getElem?_map, List.getD_eq_getElem?_getD, List.getElem?_eq_getElem e1]; rfl
    refine ⟨.ref a, rfl, .int k, rfl, a, _, _, _, rfl, rfl, hS, atI_nat g, ?_⟩
    walk_at "rds"
    exact q
  · have e2 : ¬ ((k : Int) < ((ns.map V.int).length : Int)) := fun z => e (decide_eq_true z)
    rw [List.length_map] at e2
    have e1 : ns.getD k 0 = 0 := by
      rw [List.getD_eq_getElem?_getD, List.getElem?_eq_none (by omega)]; rfl
    rw [e1] at q
    exact q
theorem c__law_word {C_LedgerError : Addr} {C_BadCommand : Addr} (T : Txt K mg C_LedgerError C_BadCommand) : Cal P w K mg base 1 "_law_word" spWord [] := by
  refine cal T.d__law_word sc__law_word (fun vs H Q E h => ?_) (fun f cdv A' outer s H vs Q E hr h => ?_)
  · obtain ⟨n, ch, seed, step, rfl, _⟩ := h; rfl
  obtain ⟨n, ch, seed, step, rfl, hn, h0, h1, q⟩ := h
  refine ⟨_, (pss_cons (ps_set (i := 4) sc__law_word.nd rfl (Or.inl rfl) pe_str)
      (pss_cons (ps_set (i := 5) sc__law_word.nd rfl (Or.inl rfl) (pe_callTy call_int1 (by rfl) T.z_int (by decide +kernel) (pa_cons (pv 2) pa_nil)))
      (pss_cons (ps_for PassesOwn.never rfl (pi_range1 (by rfl) T.z_range (pa_cons (pv 0) pa_nil)) (pg_name (i := 6) sc__law_word.nd rfl (Or.inl rfl)) (pss_cons (ps_set (i := 4) sc__law_word.nd rfl (Or.inl rfl) (pe_op op_add_str (pv 4) (pe_ix ix_str (pv 1) (pe_op op_mod (pe_callTy call_int1 (by rfl) T.z_int (by decide +kernel) (pa_cons (pe_op op_add (pv 5) (pe_op op_mul (pv 6) (pv 3))) pa_nil)) (pe_callB call_len_str (by rfl) T.z_len (by decide +kernel) (pa_cons (pv 1) pa_nil))) (fun _ _ => rfl))))
      (pss_one (ps_set (i := 5) sc__law_word.nd rfl (Or.inl rfl) (pe_op op_fdiv (pv 5) (pe_callB call_len_str (by rfl) T.z_len (by decide +kernel) (pa_cons (pv 1) pa_nil)))))))
      (pss_one (ps_ret (pv 4)))))), ?_⟩
  walk_at "rds"
  refine for_it walk_range (Pv := fun i σ H' => H' = H ∧ ∃ (z : Str) (r : Int) (y : Option V), σ = [some (.int n), some (.str ch), some (.int seed), some (.int step), some (.str z), some (.int r), y] ∧ z.length = i ∧ ∀ c ∈ z.cps.toList, c ∈ ch.cps.toList) ⟨rfl, _, _, _, rfl, by decide, (fun c m => by cases m)⟩ (fun _ _ _ _ _ => trivial) (fun i x σ H1 H2 hi hp hy => ?_) (fun σ H1 hp => ?_)
  · obtain ⟨rfl, z, r, y, rfl, hz, hc⟩ := hp
    obtain ⟨rfl, rfl⟩ := hy
    have hi' : i < n := by omega
    walk_at "rds"
    obtain ⟨c, hcm, hat⟩ := atI_lt (xs := ch.cps.toList) (i := (r + (0 + (i : Int)) * step) % (ch.length : Int)) (Int.emod_nonneg _ (by omega)) (by rw [len_tl]; exact Int.emod_lt_of_pos _ (by omega))
    refine ⟨ch, _, c, rfl, rfl, sz1000 (by omega), hat, ?_⟩
    refine ⟨z, _, rfl, rfl, ?_, ?_⟩
    · exact sz1000 (by rw [hz]; show i + 1 ≤ 100000; omega)
    walk_at "rds"
    refine ⟨rfl, z ++ ⟨#[c]⟩, _, _, rfl, ?_, ?_⟩
    · rw [Str.length_append, hz]; rfl
    · intro d hd
      rw [app_tl] at hd
      rcases List.mem_append.mp hd with hd | hd
      · exact hc d hd
      · rw [List.mem_singleton.mp hd]; exact hcm
  · obtain ⟨rfl, z, r, y, rfl, hz, hc⟩ := hp
    walk_at "rds"
    exact q z (by omega) hc
theorem c__law_printable {C_LedgerError : Addr} {C_BadCommand : Addr} (T : Txt K mg C_LedgerError C_BadCommand) : Cal P w K mg base 1 "_law_printable" spPrt [] := by
  refine cal T.d__law_printable sc__law_printable (fun vs H Q E h => ?_) (fun f cdv A' outer s H vs Q E hr h => ?_)
  · obtain ⟨rfl, _⟩ := h; rfl
  obtain ⟨rfl, q⟩ := h
  refine ⟨_, (pss_cons (ps_set (i := 0) sc__law_printable.nd rfl (Or.inl rfl) pe_str)
      (pss_one (ps_ret (pe_op op_add_str (pv 0) pe_str)))), ?_⟩
  walk_at "rds"
  exact q
theorem c__law_all_in {C_LedgerError : Addr} {C_BadCommand : Addr} (T : Txt K mg C_LedgerError C_BadCommand) : Cal P w K mg base 1 "_law_all_in" spAllIn [] := by
  refine cal T.d__law_all_in sc__law_all_in (fun vs H Q E h => ?_) (fun f cdv A' outer s H vs Q E hr h => ?_)
  · obtain ⟨z, ch, rfl, _⟩ := h; rfl
  obtain ⟨z, ch, rfl, q⟩ := h
  refine ⟨_, (pss_cons (ps_for PassesOwn.never rfl (pi_str (pv 0)) (pg_name (i := 2) sc__law_all_in.nd rfl (Or.inl rfl)) (pss_one (ps_if (pt_cmpR op_notInS (pv 2) (pv 1) (by rfl)) (pss_one (ps_ret pe_bl)) pss_nil)))
      (pss_one (ps_ret pe_bl))), ?_⟩
  walk_at "rds"
  refine for_it walk_str (Pv := fun i σ H' => H' = H ∧ ∃ (y : Option V), σ = [some (.str z), some (.str ch), y] ∧ inL z.cps.toList ch.cps.toList = inL (z.cps.toList.drop i) ch.cps.toList) ⟨rfl, _, rfl, rfl⟩ (fun _ _ _ _ _ => trivial) (fun i x σ H1 H2 hi hp hy => ?_) (fun σ H1 hp => ?_)
  · obtain ⟨rfl, y, rfl, eq⟩ := hp
    obtain ⟨rfl, c, gc, rfl⟩ := hy
    have gc : z.cps.toList[i]? = some c := by rw [Array.getElem?_toList]; exact gc
    have hid : i < z.cps.toList.length := (List.getElem?_eq_some_iff.mp gc).1
    rw [List.drop_eq_getElem_cons hid] at eq
    rw [List.getElem?_eq_getElem hid] at gc
    rw [Option.some.inj gc] at eq
    have eq : inL z.cps.toList ch.cps.toList = (decide (c ∈ ch.cps.toList) && inL (z.cps.toList.drop (i + 1)) ch.cps.toList) := eq
    walk_at "rds"
    cases e : decide (c ∈ ch.cps.toList) with
    | false =>
      refine ifT rfl ?_
      rw [eq, e] at q
      exact q
    | true =>
      refine ifF rfl ?_
      exact ⟨rfl, _, rfl, by rw [eq, e, Bool.true_and]⟩
  · obtain ⟨rfl, y, rfl, eq⟩ := hp
    walk_at "rds"
    rw [eq, List.drop_of_length_le (by rw [Array.length_toList]; exact Nat.le_refl _)] at q
    exact q
end

/-! ### split by one sign, by codes -/
def cutsN (c : Nat) : Nat → Nat → List Nat → List Nat
  | 0, _, _ => []
  | _ + 1, _, [] => []
  | n + 1, p, a :: r => if a = c then p :: cutsN c n (p + 1) r else cutsN c (n + 1) (p + 1) r
theorem cutsN_zero (c p : Nat) (l : List Nat) : cutsN c 0 p l = [] := by simp [cutsN]
theorem cutsN_nil (c n p : Nat) : cutsN c n p [] = [] := by cases n <;> simp [cutsN]
open PySem.StrLaws in
theorem occ_run (x : Str) (c lim : Nat) : ∀ (n a free : Nat) (arr : Array Nat), free ≤ a → a + n = x.length + 1 →
    (forIn (List.range' a n) (arr, free) (occBody x ⟨#[c]⟩ x.length lim)).run.fst.toList = arr.toList ++ cutsN c (lim - arr.size) a (x.cps.toList.drop a)
  | 0, a, free, arr, _, h => by
    rw [List.drop_eq_nil_of_le (by rw [len_tl]; omega), cutsN_nil, List.append_nil]; rfl
  | n + 1, a, free, arr, hf, h => by
    rw [List.range'_succ, List.forIn_cons]
    have one := subAt_one x c a
    have l1 : (⟨#[c]⟩ : Str).length = 1 := rfl
    by_cases e : a = x.length
    · have c2 : ¬ ((((arr, free).fst.size < lim ∧ (arr, free).snd ≤ a) ∧ a + (⟨#[c]⟩ : Str).length ≤ x.length) ∧ PySem.Builtin.Str.subAt x ⟨#[c]⟩ a = true) := fun h => by have := h.1.2; omega
      unfold occBody
      rw [if_neg c2]
      have ih := occ_run x c lim n (a + 1) free arr (by omega) (by omega)
      unfold occBody at ih
      refine ih.trans ?_
      rw [List.drop_eq_nil_of_le (by rw [len_tl]; omega), List.drop_eq_nil_of_le (by rw [len_tl]; omega), cutsN_nil, cutsN_nil]
    · have ha : a < x.cps.toList.length := by rw [len_tl]; omega
      have dr := List.drop_eq_getElem_cons ha
      by_cases ec : x.cps.toList[a] = c
      · by_cases hs : arr.size < lim
        · have hc := one.mpr (by rw [List.getElem?_eq_getElem ha, ec])
          have c1 : (((arr, free).fst.size < lim ∧ (arr, free).snd ≤ a) ∧ a + (⟨#[c]⟩ : Str).length ≤ x.length) ∧ PySem.Builtin.Str.subAt x ⟨#[c]⟩ a = true := ⟨⟨⟨hs, hf⟩, hc.1⟩, hc.2⟩
          unfold occBody
          rw [if_pos c1]
          have ih := occ_run x c lim n (a + 1) (a + (⟨#[c]⟩ : Str).length) (arr.push a) (by omega) (by omega)
          unfold occBody at ih
          refine ih.trans ?_
          rw [dr, ec, show lim - arr.size = (lim - (arr.push a).size) + 1 by rw [Array.size_push]; omega, cutsN, if_pos rfl, Array.toList_push, List.append_assoc]; rfl
        · have c2 : ¬ ((((arr, free).fst.size < lim ∧ (arr, free).snd ≤ a) ∧ a + (⟨#[c]⟩ : Str).length ≤ x.length) ∧ PySem.Builtin.Str.subAt x ⟨#[c]⟩ a = true) := fun h => hs h.1.1.1
          unfold occBody
          rw [if_neg c2]
          have ih := occ_run x c lim n (a + 1) free arr (by omega) (by omega)
          unfold occBody at ih
          refine ih.trans ?_
          rw [show lim - arr.size = 0 by omega, cutsN_zero, cutsN_zero]
      · have c2 : ¬ ((((arr, free).fst.size < lim ∧ (arr, free).snd ≤ a) ∧ a + (⟨#[c]⟩ : Str).length ≤ x.length) ∧ PySem.Builtin.Str.subAt x ⟨#[c]⟩ a = true) := fun h => by
          have := one.mp ⟨h.1.2, h.2⟩
          rw [List.getElem?_eq_getElem ha] at this
          exact ec (Option.some.inj this)
        unfold occBody
        rw [if_neg c2]
        have ih := occ_run x c lim n (a + 1) free arr (by omega) (by omega)
        unfold occBody at ih
        refine ih.trans ?_
        rw [dr]
        cases lim - arr.size with
        | zero => rw [cutsN_zero, cutsN_zero]
        | succ m => rw [cutsN, if_neg ec]
def hdL (u : List Nat) : List (List Nat) → List (List Nat)
  | [] => [u]
  | p :: q => (u ++ p) :: q
def spN (c : Nat) : Nat → List Nat → List (List Nat)
  | 0, l => [l]
  | _ + 1, [] => [[]]
  | n + 1, a :: r => if a = c then [] :: spN c n r else hdL [a] (spN c (n + 1) r)
theorem spN_zero (c : Nat) (l : List Nat) : spN c 0 l = [l] := by simp [spN]
theorem spN_nil (c : Nat) : ∀ n : Nat, spN c n [] = [[]]
  | 0 => spN_zero c []
  | n + 1 => by simp [spN]
theorem spN_ne (c : Nat) : ∀ (n : Nat) (l : List Nat), ∃ p q, spN c n l = p :: q
  | 0, l => ⟨_, _, spN_zero c l⟩
  | n + 1, [] => ⟨_, _, spN_nil c (n + 1)⟩
  | n + 1, a :: r => by
    rw [spN]
    split
    · exact ⟨_, _, rfl⟩
    · obtain ⟨p, q, e⟩ := spN_ne c (n + 1) r
      rw [e]; exact ⟨_, _, rfl⟩
theorem hdL_nil {l : List (List Nat)} (h : ∃ p q, l = p :: q) : hdL [] l = l := by
  obtain ⟨p, q, rfl⟩ := h; rfl
theorem hdL_app {l : List (List Nat)} {u v : List Nat} (h : ∃ p q, l = p :: q) : hdL (u ++ v) l = hdL u (hdL v l) := by
  obtain ⟨p, q, rfl⟩ := h; show (u ++ v ++ p) :: q = (u ++ (v ++ p)) :: q; rw [List.append_assoc]
open PySem.StrLaws in
theorem parts_spN (x : Str) (c : Nat) : ∀ (m n s p : Nat), s ≤ p → p + m = x.length →
    (partsFrom x 1 s (cutsN c n p (x.cps.toList.drop p))).map (fun z : Str => z.cps.toList) = hdL ((x.cps.toList.drop s).take (p - s)) (spN c n (x.cps.toList.drop p)) := by
  have base : ∀ s p : Nat, s ≤ p → p ≤ x.length → ((PySem.Builtin.Str.strSub x s x.length).cps.toList : List Nat) = (x.cps.toList.drop s).take (p - s) ++ x.cps.toList.drop p := by
    intro s p hs hp
    rw [strSub_toList, List.take_of_length_le (by rw [List.length_drop, len_tl]; omega)]
    conv => lhs; rw [← List.take_append_drop (p - s) (x.cps.toList.drop s), List.drop_drop, show s + (p - s) = p by omega]
  intro m
  induction m with
  | zero =>
    intro n s p hs hp
    have e : x.cps.toList.drop p = [] := List.drop_eq_nil_of_le (by rw [len_tl]; omega)
    have b := base s p hs (by omega)
    rw [e] at b ⊢
    rw [cutsN_nil, spN_nil]
    show [(PySem.Builtin.Str.strSub x s x.length).cps.toList] = _
    rw [b]
    rfl
  | succ m ih =>
    intro n s p hs hp
    have b := base s p hs (by omega)
    cases n with
    | zero =>
      rw [cutsN_zero, spN_zero]
      show [(PySem.Builtin.Str.strSub x s x.length).cps.toList] = [_ ++ _]
      rw [b]
    | succ n =>
      have ha : p < x.cps.toList.length := by rw [len_tl]; omega
      have dr := List.drop_eq_getElem_cons ha
      rw [dr, cutsN, spN]
      by_cases ec : x.cps.toList[p] = c
      · rw [if_pos ec, if_pos ec]
        show (PySem.Builtin.Str.strSub x s p).cps.toList :: (partsFrom x 1 (p + 1) _).map _ = (_ ++ []) :: _
        rw [ih n (p + 1) (p + 1) (Nat.le_refl _) (by omega), Nat.sub_self, List.take_zero, hdL_nil (spN_ne ..), strSub_toList, List.append_nil]
      · rw [if_neg ec, if_neg ec, ih (n + 1) s (p + 1) (by omega) (by omega), ← hdL_app (spN_ne ..)]
        congr 1
        rw [show p + 1 - s = (p - s) + 1 by omega, List.take_add_one, List.getElem?_drop, show s + (p - s) = p by omega, List.getElem?_eq_getElem ha]
        rfl
theorem spN_free {c : Nat} : ∀ {l : List Nat} {n : Nat}, c ∉ l → spN c n l = [l]
  | _, 0, _ => spN_zero ..
  | [], n + 1, _ => spN_nil c (n + 1)
  | a :: r, n + 1, h => by
    rw [spN, if_neg (fun e => h (by rw [e]; exact List.mem_cons_self)), spN_free (fun m => h (List.mem_cons_of_mem _ m))]; rfl
open PySem.StrLaws in
theorem splitMax_tl (x : Str) (c : Nat) (k : Int) : (Txt.splitMax x ⟨#[c]⟩ k).map (fun z : Str => z.cps.toList) = spN c (PySem.limitOf x k) x.cps.toList := by
  have key : (PySem.Builtin.Str.partsBetween x (PySem.Builtin.Str.occurrences x ⟨#[c]⟩ 0 x.length (PySem.limitOf x k)) (⟨#[c]⟩ : Str).length).map (fun z : Str => z.cps.toList) = spN c (PySem.limitOf x k) x.cps.toList := by
    rw [partsBetween_eq, occ_eq, occ_run x c (PySem.limitOf x k) _ 0 0 #[] (Nat.le_refl _) (by omega)]
    have h := parts_spN x c x.length (PySem.limitOf x k) 0 0 (Nat.le_refl _) (by omega)
    rw [List.drop_zero, Nat.sub_self, List.take_zero, hdL_nil (spN_ne ..)] at h
    exact h
  unfold Txt.splitMax
  split
  · rename_i h
    rw [Bool.or_eq_true, decide_eq_true_eq, decide_eq_true_eq] at h
    show [x.cps.toList] = _
    rw [spN_free]
    rcases h with h | h
    · have h : x.length < 1 := h
      rw [List.eq_nil_of_length_eq_zero (l := x.cps.toList) (by rw [len_tl]; omega)]; simp
    · exact kind_free x c h
  · split
    · rename_i he
      rw [List.isEmpty_iff.mp he, partsBetween_eq] at key
      rw [← key]
      show [x.cps.toList] = [(PySem.Builtin.Str.strSub x 0 x.length).cps.toList]
      rw [sub_whole]
    · exact key
theorem split_tl (x : Str) (c : Nat) : (Txt.split x ⟨#[c]⟩).map (fun z : Str => z.cps.toList) = spN c (x.length + 1) x.cps.toList := by
  have h := splitMax_tl x c (-1)
  have e : PySem.limitOf x (-1) = x.length + 1 := if_pos (by decide)
  unfold Txt.splitMax at h
  rw [e] at h
  unfold Txt.split
  exact h
/-- without a limit -/
def spA (c : Nat) : List Nat → List (List Nat)
  | [] => [[]]
  | a :: r => if a = c then [] :: spA c r else hdL [a] (spA c r)
theorem spA_ne (c : Nat) : ∀ (l : List Nat), ∃ p q, spA c l = p :: q
  | [] => ⟨_, _, rfl⟩
  | a :: r => by
    rw [spA]
    split
    · exact ⟨_, _, rfl⟩
    · obtain ⟨p, q, e⟩ := spA_ne c r
      rw [e]; exact ⟨_, _, rfl⟩
theorem spN_all {c : Nat} : ∀ {l : List Nat} {n : Nat}, l.length < n → spN c n l = spA c l
  | [], n + 1, _ => spN_nil c (n + 1)
  | a :: r, n + 1, h => by
    rw [spN, spA]
    simp only [List.length_cons] at h
    split
    · cases n with
      | zero => omega
      | succ n => rw [spN_all (by omega)]
    · rw [spN_all (by omega)]
def jnL (c : Nat) : List (List Nat) → List Nat
  | [] => []
  | [x] => x
  | x :: y :: r => x ++ c :: jnL c (y :: r)
theorem jnL_hd {c a : Nat} {l : List (List Nat)} (h : ∃ p q, l = p :: q) : jnL c (hdL [a] l) = a :: jnL c l := by
  obtain ⟨p, q, rfl⟩ := h
  cases q <;> rfl
theorem jnL_spA (c : Nat) : ∀ l : List Nat, jnL c (spA c l) = l
  | [] => rfl
  | a :: r => by
    rw [spA]
    have ih := jnL_spA c r
    obtain ⟨p, q, e⟩ := spA_ne c r
    split
    · rename_i h
      rw [e] at ih ⊢
      show c :: jnL c (p :: q) = _
      rw [ih, h]
    · rw [jnL_hd ⟨_, _, e⟩, ih]
def limL (c : Nat) : Nat → List (List Nat) → List (List Nat)
  | 0, l => [jnL c l]
  | _ + 1, [] => []
  | _ + 1, [x] => [x]
  | n + 1, x :: y :: r => x :: limL c n (y :: r)
theorem lim_hd {c a : Nat} : ∀ {n : Nat} {l : List (List Nat)}, (∃ p q, l = p :: q) → limL c n (hdL [a] l) = hdL [a] (limL c n l)
  | 0, l, h => by show [jnL c (hdL [a] l)] = _; rw [jnL_hd h]; rfl
  | n + 1, l, h => by
    obtain ⟨p, q, rfl⟩ := h
    cases q <;> rfl
theorem spN_lim (c : Nat) : ∀ (n : Nat) (l : List Nat), spN c n l = limL c n (spA c l)
  | 0, l => by rw [spN_zero, limL, jnL_spA]
  | n + 1, [] => by rw [spN_nil]; rfl
  | n + 1, a :: r => by
    rw [spN, spA]
    split
    · obtain ⟨p, q, e⟩ := spA_ne c r
      rw [spN_lim c n r, e]
      rfl
    · rw [spN_lim c (n + 1) r, lim_hd (spA_ne c r)]
theorem spA_word {c : Nat} : ∀ {u : List Nat} (r : List Nat), c ∉ u → spA c (u ++ c :: r) = u :: spA c r
  | [], r, _ => by rw [List.nil_append, spA, if_pos rfl]
  | a :: u, r, h => by
    rw [List.cons_append, spA, if_neg (fun e => h (by rw [e]; exact List.mem_cons_self)), spA_word r (fun m => h (List.mem_cons_of_mem _ m))]; rfl
theorem spA_free {c : Nat} {u : List Nat} (h : c ∉ u) : spA c u = [u] := by
  rw [← spN_all (Nat.lt_succ_self _), spN_free h]
theorem spA_len (c : Nat) : ∀ l : List Nat, (spA c l).length ≤ l.length + 1
  | [] => Nat.le_refl _
  | a :: r => by
    have ih := spA_len c r
    obtain ⟨p, q, e⟩ := spA_ne c r
    rw [spA, List.length_cons]
    split
    · rw [List.length_cons]; omega
    · rw [e] at ih ⊢
      show ((p :: q).length) ≤ _
      omega
theorem spA_short (c : Nat) : ∀ (l : List Nat), ∀ p ∈ spA c l, p.length ≤ l.length
  | [], p, hp => by rw [List.mem_singleton.mp hp]; exact Nat.le_refl _
  | a :: r, p, hp => by
    have ih := spA_short c r
    rw [spA] at hp
    rw [List.length_cons]
    split at hp
    · rcases List.mem_cons.mp hp with rfl | hp
      · exact Nat.zero_le _
      · have := ih p hp; omega
    · obtain ⟨u, q, e⟩ := spA_ne c r
      rw [e] at hp ih
      rcases List.mem_cons.mp hp with rfl | hp
      · have := ih u List.mem_cons_self
        simp only [List.length_append, List.length_cons, List.length_nil]; omega
      · have := ih p (List.mem_cons_of_mem _ hp); omega
theorem jnL_len_sum (c : Nat) : ∀ (l : List (List Nat)), (l.map (·.length)).sum ≤ (jnL c l).length
  | [] => Nat.le_refl _
  | [x] => by simp [jnL]
  | x :: y :: r => by
    have ih := jnL_len_sum c (y :: r)
    rw [List.map_cons, List.sum_cons, jnL, List.length_append, List.length_cons]; omega
theorem strjoin_tl (c : Nat) : ∀ ls : List (List Nat), (Str.join ⟨#[c]⟩ (ls.map fun l => (⟨l.toArray⟩ : Str))).cps.toList = jnL c ls
  | [] => rfl
  | [x] => rfl
  | x :: y :: r => by
    have ih := strjoin_tl c (y :: r)
    show ((⟨x.toArray⟩ : Str) ++ ⟨#[c]⟩ ++ Str.join ⟨#[c]⟩ ((y :: r).map fun l => (⟨l.toArray⟩ : Str))).cps.toList = _
    rw [app_tl, app_tl, ih, List.append_assoc]; rfl
theorem txtjoin_tl (c : Nat) (ls : List (List Nat)) : Txt.join ⟨#[c]⟩ (ls.map fun l => (⟨l.toArray⟩ : Str)) = ⟨(jnL c ls).toArray⟩ := by
  rw [eq_of_beq (join_closes (sep' := (⟨#[c]⟩ : Str)) rfl)]
  exact str_eq_l.mpr (strjoin_tl c ls)
theorem of_tl {ys : List Str} {ls : List (List Nat)} (h : ys.map (fun z : Str => z.cps.toList) = ls) : ys = ls.map fun l => (⟨l.toArray⟩ : Str) := by
  rw [← h, List.map_map]
  conv => lhs; rw [← List.map_id ys]
  exact List.map_congr_left fun z _ => rfl
theorem limL_len (c : Nat) : ∀ (n : Nat) (l : List (List Nat)), (limL c n l).length ≤ n + 1
  | 0, l => Nat.le_refl _
  | n + 1, [] => Nat.zero_le _
  | n + 1, [x] => by show 1 ≤ _; omega
  | n + 1, x :: y :: r => by
    have := limL_len c n (y :: r)
    show (limL c n (y :: r)).length + 1 ≤ _
    omega
theorem limL_short (c : Nat) : ∀ (n : Nat) (l : List (List Nat)), ∀ p ∈ limL c n l, p.length ≤ (jnL c l).length
  | 0, l, p, hp => by rw [List.mem_singleton.mp hp]; exact Nat.le_refl _
  | n + 1, [], p, hp => nomatch hp
  | n + 1, [x], p, hp => by rw [List.mem_singleton.mp hp]; exact Nat.le_refl _
  | n + 1, x :: y :: r, p, hp => by
    rw [jnL, List.length_append, List.length_cons]
    rcases List.mem_cons.mp hp with rfl | hp
    · omega
    · have := limL_short c n (y :: r) p hp
      omega

/-! ### data whose lists are none of a list that changes -/
section
variable {K : PySem.W.Frag}
mutual
theorem Dt.chg {H H' : Hp} {D : Addr} {zs : List V} (e : H D = some (.lst zs)) (s : ∀ b o, b ≠ D → H b = some o → H' b = some o) : ∀ (d : PyData) (v : V), Dt K H (some D) v d → Dt K H' (some D) v d
  | .none, _, h => by cases h; exact .non
  | .bool b, _, h => by cases h; exact .bl b
  | .int i, _, h => by cases h; exact .int i
  | .str z, _, h => by cases h with | str _ hz => exact .str z hz
  | .list ds, _, h => by cases h with | lst hn ha hd => exact .lst hn (s _ _ hn ha) (DtAll.chg e s ds _ hd)
  | .tuple ds, _, h => by cases h with | tup ha hd => exact .tup (ha.imp (fun ha => s _ _ (ne_of ha e (by intro z; cases z)) ha) id) (DtAll.chg e s ds _ hd)
  | .dict _, _, h => by cases h
theorem DtAll.chg {H H' : Hp} {D : Addr} {zs : List V} (e : H D = some (.lst zs)) (s : ∀ b o, b ≠ D → H b = some o → H' b = some o) : ∀ (ds : List PyData) (xs : List V), DtAll K H (some D) xs ds → DtAll K H' (some D) xs ds
  | [], _, h => by cases h; exact .nil
  | d :: ds, _, h => by cases h with | cons h1 h2 => exact .cons (Dt.chg e s d _ h1) (DtAll.chg e s ds _ h2)
end
mutual
theorem Dt.frees {H : Hp} {A : Option Addr} : ∀ (d : PyData) (v : V), Dt K H A v d → Dt K H none v d
  | .none, _, h => by cases h; exact .non
  | .bool b, _, h => by cases h; exact .bl b
  | .int i, _, h => by cases h; exact .int i
  | .str z, _, h => by cases h with | str _ hz => exact .str z hz
  | .list ds, _, h => by cases h with | lst hn ha hd => exact .lst trivial ha (DtAll.frees ds _ hd)
  | .tuple ds, _, h => by cases h with | tup ha hd => exact .tup ha (DtAll.frees ds _ hd)
  | .dict _, _, h => by cases h
theorem DtAll.frees {H : Hp} {A : Option Addr} : ∀ (ds : List PyData) (xs : List V), DtAll K H A xs ds → DtAll K H none xs ds
  | [], _, h => by cases h; exact .nil
  | d :: ds, _, h => by cases h with | cons h1 h2 => exact .cons (Dt.frees d _ h1) (DtAll.frees ds _ h2)
end
theorem DtAll.snoc2 {H : Hp} {A : Option Addr} {v : V} {d : PyData} : ∀ {xs : List V} {ds : List PyData}, DtAll K H A xs ds → Dt K H A v d → DtAll K H A (xs ++ [v]) (ds ++ [d])
  | _, _, .nil, h => .cons h .nil
  | _, _, .cons h1 h2, h => .cons h1 (DtAll.snoc2 h2 h)
end

/-! ### statements, without Python -/
def stR : Nat → List (List Nat) → (Str × Nat) ⊕ List (List (List Nat))
  | _, [] => .inr []
  | k, p :: ps => if p = [] then .inl (Str.ofString "empty", k) else if [] ∈ spA 32 p then .inl (Str.ofString "space", k) else match stR (k + 1) ps with
    | .inl e => .inl e
    | .inr rs => .inr (spA 32 p :: rs)
def stAll (cs : List Nat) : (Str × Nat) ⊕ List (List (List Nat)) := if 240 < cs.length then .inl (Str.ofString "long", 0) else if cs.all prC = true then stR 0 (spA 59 cs) else .inl (Str.ofString "character", 0)
/-- fine as far as i -/
def stPre (ps : List (List Nat)) (i : Nat) : Prop := ∀ p ∈ ps.take i, p ≠ [] ∧ [] ∉ spA 32 p
theorem stR_pre {ps : List (List Nat)} : ∀ {i k : Nat}, stPre ps i → i ≤ ps.length → stR k ps = match stR (k + i) (ps.drop i) with
    | .inl e => .inl e
    | .inr rs => .inr ((ps.take i).map (spA 32) ++ rs) := by
  induction ps with
  | nil => intro i k _ hi; rw [List.length_nil] at hi; rw [show i = 0 by omega]; rfl
  | cons p ps ih =>
    intro i k h hi
    cases i with
    | zero => rw [List.drop_zero, Nat.add_zero]; cases stR k (p :: ps) <;> rfl
    | succ i =>
      obtain ⟨a, b⟩ := h p (by simp)
      have h' : stPre ps i := fun q m => h q (by rw [List.take_succ_cons]; exact List.mem_cons_of_mem _ m)
      rw [stR, if_neg a, if_neg b, ih (k := k + 1) h' (by simp at hi; omega), List.drop_succ_cons, show k + 1 + i = k + (i + 1) by omega]
      cases stR (k + (i + 1)) (ps.drop i) <;> rfl
theorem stR_ok {ps : List (List Nat)} {k : Nat} (h : stPre ps ps.length) : stR k ps = .inr (ps.map (spA 32)) := by
  rw [stR_pre h (Nat.le_refl _), List.drop_length, List.take_length, stR]
  show Sum.inr (ps.map (spA 32) ++ []) = _
  rw [List.append_nil]
theorem stR_bad {ps : List (List Nat)} {i : Nat} {p : List Nat} (h : stPre ps i) (e : ps[i]? = some p) : (p = [] → stR 0 ps = .inl (Str.ofString "empty", i)) ∧ (p ≠ [] → [] ∈ spA 32 p → stR 0 ps = .inl (Str.ofString "space", i)) := by
  have hi := (List.getElem?_eq_some_iff.mp e).1
  have d : ps.drop i = p :: ps.drop (i + 1) := by rw [List.drop_eq_getElem_cons hi, (List.getElem?_eq_some_iff.mp e).2]
  have r := stR_pre (k := 0) h (Nat.le_of_lt hi)
  rw [d, stR, Nat.zero_add] at r
  constructor
  · intro z; rw [if_pos z] at r; exact r
  · intro z y; rw [if_neg z, if_pos y] at r; exact r
theorem stPre_succ {ps : List (List Nat)} {i : Nat} {p : List Nat} (h : stPre ps i) (e : ps[i]? = some p) (h1 : p ≠ []) (h2 : [] ∉ spA 32 p) : stPre ps (i + 1) := by
  intro q m
  rw [List.take_add_one, e] at m
  rcases List.mem_append.mp m with m | m
  · exact h q m
  · rw [List.mem_singleton.mp m]; exact ⟨h1, h2⟩
theorem spA_head (p : List Nat) : (spA 32 p).head? = some [] ↔ (p = [] ∨ p.head? = some 32) := by
  cases p with
  | nil => simp [spA]
  | cons a r =>
    rw [spA]
    by_cases h : a = 32
    · rw [if_pos h, h]; simp
    · rw [if_neg h]
      obtain ⟨x, y, e⟩ := spA_ne 32 r
      rw [e]
      simp [hdL, h]
theorem spA_tail : ∀ (p : List Nat), [] ∈ (spA 32 p).tail ↔ (p.getLast? = some 32 ∨ ∃ i, p[i]? = some 32 ∧ p[i + 1]? = some 32)
  | [] => by simp [spA]
  | a :: r => by
    have ih := spA_tail r
    have k := spA_head r
    obtain ⟨x, y, e⟩ := spA_ne 32 r
    rw [e] at ih k
    have k : x = [] ↔ (r = [] ∨ r.head? = some 32) := by simpa using k
    have ih : [] ∈ y ↔ _ := ih
    have lst : (a :: r).getLast? = some 32 ↔ (r = [] ∧ a = 32) ∨ r.getLast? = some 32 := by
      cases r with
      | nil => simp
      | cons b q => simp
    have nx : (∃ i, (a :: r)[i]? = some 32 ∧ (a :: r)[i + 1]? = some 32) ↔ (a = 32 ∧ r.head? = some 32) ∨ ∃ i, r[i]? = some 32 ∧ r[i + 1]? = some 32 := by
      constructor
      · rintro ⟨i, h1, h2⟩
        cases i with
        | zero =>
          left
          refine ⟨by simpa using h1, ?_⟩
          rw [List.head?_eq_getElem?]
          simpa using h2
        | succ i => right; exact ⟨i, by simpa using h1, by simpa using h2⟩
      · rintro (⟨h1, h2⟩ | ⟨i, h1, h2⟩)
        · refine ⟨0, by simpa using h1, ?_⟩
          rw [List.head?_eq_getElem?] at h2
          simpa using h2
        · exact ⟨i + 1, by simpa using h1, by simpa using h2⟩
    rw [lst, nx, spA, e]
    by_cases h : a = 32
    · rw [if_pos h, List.tail_cons, List.mem_cons, ih]
      have k' : ([] : List Nat) = x ↔ (r = [] ∨ r.head? = some 32) := ⟨fun z => k.mp z.symm, fun z => (k.mpr z).symm⟩
      rw [k']
      simp only [h, true_and, and_true]
      constructor
      · rintro ((z | z) | (z | z))
        · exact .inl (.inl z)
        · exact .inr (.inl z)
        · exact .inl (.inr z)
        · exact .inr (.inr z)
      · rintro ((z | z) | (z | z))
        · exact .inl (.inl z)
        · exact .inr (.inl z)
        · exact .inl (.inr z)
        · exact .inr (.inr z)
    · rw [if_neg h]
      show [] ∈ y ↔ _
      rw [ih]
      simp only [h, and_false, false_and, false_or]
/-- an empty word: a sign at an end, or two side by side -/
theorem spA_empty (p : List Nat) : [] ∈ spA 32 p ↔ (p = [] ∨ p.head? = some 32) ∨ p.getLast? = some 32 ∨ ∃ i, p[i]? = some 32 ∧ p[i + 1]? = some 32 := by
  rw [← spA_tail, ← spA_head]
  obtain ⟨x, y, e⟩ := spA_ne 32 p
  rw [e]
  simp only [List.mem_cons, List.head?_cons, List.tail_cons, Option.some.injEq]
  exact or_congr_left ⟨fun z => z.symm, fun z => z.symm⟩

def wrd (l : List Nat) : V := .str ⟨l.toArray⟩
def rowD (r : List (List Nat)) : PyData := .list (r.map fun l => .str ⟨l.toArray⟩)
def BadAt (H : Hp) (d : Addr) (r : Str) (k : Nat) : Prop := H d = some (.xd [("statement", .int k), ("reason", .str r)])
def spPartsOf (C : Addr) : Sp := fun vs H Q E => ∃ (z : Str), vs = [.str z] ∧ z.length ≤ 1000 ∧
  (z.length ≤ 240 → isPr z = true → ∀ H' b, Same H H' → H' b = some (.lst ((spA 59 z.cps.toList).map wrd)) → Q (.ref b) H') ∧
  (240 < z.length → ∀ H' d, Same H H' → BadAt H' d "long" 0 → E (.ref C) (some d) H') ∧ (z.length ≤ 240 → isPr z = false → ∀ H' d, Same H H' → BadAt H' d "character" 0 → E (.ref C) (some d) H')
def spWordsOf (C : Addr) : Sp := fun vs H Q E => ∃ (p : List Nat) (i : Nat), vs = [wrd p, .int i] ∧ p.length ≤ 1000 ∧
  (p ≠ [] → [] ∉ spA 32 p → ∀ H' b, Same H H' → H b = none → H' b = some (.lst ((spA 32 p).map wrd)) → Q (.ref b) H') ∧
  (p = [] → ∀ H' d, Same H H' → BadAt H' d "empty" i → E (.ref C) (some d) H') ∧ (p ≠ [] → [] ∈ spA 32 p → ∀ H' d, Same H H' → BadAt H' d "space" i → E (.ref C) (some d) H')
def spStatements (K : PySem.W.Frag) (C : Addr) : Sp := fun vs H Q E => ∃ (z : Str), vs = [.str z] ∧ z.length ≤ 1000 ∧
  (∀ rs, stAll z.cps.toList = .inr rs → ∀ H' b, Same H H' → Dt K H' none (.ref b) (.list (rs.map rowD)) → Q (.ref b) H') ∧
  (∀ r k, stAll z.cps.toList = .inl (r, k) → ∀ H' d, Same H H' → BadAt H' d r k → E (.ref C) (some d) H')
theorem split_wrdC (c : Nat) (z : Str) : ((Txt.split z ⟨#[c]⟩).map V.str) = (spA c z.cps.toList).map wrd := by
  have h := of_tl ((split_tl z c).trans (spN_all (by rw [len_tl]; omega)))
  rw [h, List.map_map]; rfl
theorem sgn1 : Str.ofString " " = ⟨#[32]⟩ ∧ Str.ofString ";" = ⟨#[59]⟩ := ⟨by decide, by decide⟩
theorem wl (l : List Nat) : (⟨l.toArray⟩ : Str).length = l.length := by show l.toArray.size = _; rw [List.size_toArray]
theorem in_wrd (ls : List (List Nat)) : inV (.str (Str.ofString "")) (ls.map wrd) = decide ([] ∈ ls) := by
  unfold inV
  induction ls with
  | nil => rfl
  | cons l r ih =>
    rw [List.map_cons, List.any_cons, ih]
    have e : eqV (wrd l) (.str (Str.ofString "")) = decide ([] = l) := by
      show ((⟨l.toArray⟩ : Str) == Str.ofString "") = _
      by_cases h : [] = l
      · subst h; rfl
      · rw [decide_eq_false h]
        exact beq_eq_false_iff_ne.mpr fun z => h (congrArg (fun s : Str => s.cps.toList) z).symm
    rw [e, ← Bool.decide_or]
    exact decide_eq_decide.mpr List.mem_cons.symm
theorem flat_wrd (ls : List (List Nat)) : (ls.map wrd).all flatV = true := by
  rw [List.all_map]; exact List.all_eq_true.mpr fun _ _ => rfl
theorem row_dt {K : PySem.W.Frag} {H : Hp} {A : Option Addr} : ∀ (ls : List (List Nat)), (∀ l ∈ ls, l.length ≤ 1000000) → DtAll K H A (ls.map wrd) (ls.map fun l => PyData.str ⟨l.toArray⟩)
  | [], _ => .nil
  | l :: r, h => .cons (.str _ (by rw [wl]; exact h l List.mem_cons_self)) (row_dt r fun x m => h x (List.mem_cons_of_mem _ m))
section
variable {P : Program} {w : World} {K : PySem.W.Frag} {mg : Str → Option Value} {base : Heap}
theorem c_parts_of {C_LedgerError : Addr} {C_BadCommand : Addr} (T : Txt K mg C_LedgerError C_BadCommand) : CalX P w K mg base 3 "parts_of" (spPartsOf C_BadCommand) := by
  have c_is_printable := c_is_printable (P := P) (w := w) (base := base) T
  have i_BadCommand := i_BadCommand (P := P) (w := w) (base := base) T
  refine calX T.d_parts_of sc_parts_of (fun vs H Q E h => ?_) (fun f cdv A' outer s H vs Q E hr h => ?_)
  · obtain ⟨z, rfl, _⟩ := h; rfl
  obtain ⟨z, rfl, hz, q, e1, e2⟩ := h
  refine ⟨_, (pss_cons (ps_if (pt_cmpR op_gt (pe_callB call_len_str (by rfl) T.z_len (by decide +kernel) (pa_cons (pv 0) pa_nil)) (pe_gc (by rfl) T.c_MOST_TEXT) (nomark _)) (pss_one (ps_raise rfl (takes_of rfl rfl rfl rfl) (pmk_ei i_BadCommand hr (by decide) (by rfl) (pa_cons pe_str (pa_cons pe_int pa_nil))))) pss_nil)
      (pss_cons (ps_if (pt_not (pt_val (pe_c c_is_printable hr (by decide) (by rfl) (pa_cons (pv 0) pa_nil)))) (pss_one (ps_raise rfl (takes_of rfl rfl rfl rfl) (pmk_ei i_BadCommand hr (by decide) (by rfl) (pa_cons pe_str (pa_cons pe_int pa_nil))))) pss_nil)
      (pss_one (ps_ret (pe_split (pv 0) pe_str))))), ?_⟩
  walk_at "rds"
  by_cases h240 : 240 < z.length
  · refine ifT (decide_eq_true (by omega)) ?_
    walk_at "rds"
    exact mk_two fun H' d s1 _ hd => e1 h240 H' d s1 hd
  refine ifF (decide_eq_false (by omega)) ?_
  walk_at "rds"
  refine .inl ⟨z, rfl, by omega, fun H1 s1 => ?_⟩
  walk_at "rds"
  cases hp : isPr z with
  | false =>
    refine ifT rfl ?_
    walk_at "rds"
    exact mk_two fun H' d s2 _ hd => e2 (by omega) hp H' d (s1.trans s2) hd
  | true =>
  refine ifF rfl ?_
  walk_at "rds"
  have sl := sizeLine_eq
  refine ⟨_, _, rfl, rfl, rfl, by omega, fun p hp2 => ?_⟩
  rw [sgn1.2, split_wrdC]
  exact q (by omega) hp _ _ (s1.trans (same_upd hp2)) upd_same
theorem c_words_of {C_LedgerError : Addr} {C_BadCommand : Addr} (T : Txt K mg C_LedgerError C_BadCommand) : CalX P w K mg base 3 "words_of" (spWordsOf C_BadCommand) := by
  have i_BadCommand := i_BadCommand (P := P) (w := w) (base := base) T
  refine calX T.d_words_of sc_words_of (fun vs H Q E h => ?_) (fun f cdv A' outer s H vs Q E hr h => ?_)
  · obtain ⟨z, i, rfl, _⟩ := h; rfl
  obtain ⟨z, i, rfl, hz, q, e1, e2⟩ := h
  refine ⟨_, (pss_cons (ps_if (pt_cmpR op_eq (pv 0) pe_str (nomark _)) (pss_one (ps_raise rfl (takes_of rfl rfl rfl rfl) (pmk_ei i_BadCommand hr (by decide) (by rfl) (pa_cons pe_str (pa_cons (pv 1) pa_nil))))) pss_nil)
      (pss_cons (ps_set (i := 2) sc_words_of.nd rfl (Or.inl rfl) (pe_split (pv 0) pe_str))
      (pss_cons (ps_if (pt_cmpR (kin (K := K)) pe_str (pv 2) (by rfl)) (pss_one (ps_raise rfl (takes_of rfl rfl rfl rfl) (pmk_ei i_BadCommand hr (by decide) (by rfl) (pa_cons pe_str (pa_cons (pv 1) pa_nil))))) pss_nil)
      (pss_one (ps_ret (pv 2)))))), ?_⟩
  walk_at "rds"
  have ez : decide (wrd z = V.str (Str.ofString "")) = decide (z = []) := by
    apply decide_eq_decide.mpr
    exact ⟨fun h => congrArg (fun v => match v with | V.str s => s.cps.toList | _ => []) h, fun h => by rw [h]; rfl⟩
  rw [ez]
  by_cases h0 : z = []
  · refine ifT (decide_eq_true h0) ?_
    walk_at "rds"
    exact mk_two fun H' d s1 _ hd => e1 h0 H' d s1 hd
  refine ifF (decide_eq_false h0) ?_
  walk_at "rds"
  have sl := sizeLine_eq
  refine ⟨⟨z.toArray⟩, _, rfl, rfl, rfl, by rw [wl]; omega, fun p hp2 => ?_⟩
  rw [sgn1.1, split_wrdC]
  have s1 : Same H (upd H p (.lst ((spA 32 (⟨z.toArray⟩ : Str).cps.toList).map wrd))) := same_upd hp2
  have hp3 : upd H p (.lst ((spA 32 (⟨z.toArray⟩ : Str).cps.toList).map wrd)) p = some (.lst ((spA 32 z).map wrd)) := upd_same
  generalize upd H p (.lst ((spA 32 (⟨z.toArray⟩ : Str).cps.toList).map wrd)) = H1 at s1 hp3 ⊢
  walk_at "rds"
  refine ⟨p, _, rfl, .inl (sq hp3), rfl, flat_wrd _, ?_⟩
  walk_at "rds"
  rw [if_neg Bool.false_ne_true, in_wrd]
  by_cases hb : [] ∈ spA 32 z
  · refine ifT (decide_eq_true hb) ?_
    walk_at "rds"
    exact mk_two fun H' d s2 _ hd => e2 h0 hb H' d (s1.trans s2) hd
  refine ifF (decide_eq_false hb) ?_
  walk_at "rds"
  exact q h0 hb _ _ s1 hp2 hp3
theorem c_statements {C_LedgerError : Addr} {C_BadCommand : Addr} (T : Txt K mg C_LedgerError C_BadCommand) : CalX P w K mg base 4 "statements" (spStatements K C_BadCommand) := by
  have c_parts_of := c_parts_of (P := P) (w := w) (K := K) (base := base) T
  have c_words_of := c_words_of (P := P) (w := w) (K := K) (base := base) T
  refine calX T.d_statements sc_statements (fun vs H Q E h => ?_) (fun f cdv A' outer s H vs Q E hr h => ?_)
  · obtain ⟨z, rfl, _⟩ := h; rfl
  obtain ⟨z, rfl, hz, q, e⟩ := h
  refine ⟨_, (pss_one (ps_ret (pe_lcX (own := [("index", 1), ("part", 2)]) (g := _) (by rfl) sc_statements.nd rfl rfl (takes_of rfl rfl rfl rfl) (pi_enum (by rfl) T.z_enumerate (pa_cons (pe_cX c_parts_of hr (by decide) (by rfl) (fun σ => passAt (takes_of rfl rfl rfl rfl) σ) (pa_cons (pv 0) pa_nil)) pa_nil)) (blkOk_by (own := [("index", 1), ("part", 2)]) (N := ["text", "index", "part"]) (sc := defScope s_statements) (by decide +kernel)) (fun _ _ _ _ _ _ => kgtup (K := K) (n := 2) (by rfl) (pgs_cons (pg_name (i := 1) sc_statements.nd rfl (Or.inl rfl)) (pgs_cons (pg_name (i := 2) sc_statements.nd rfl (Or.inl rfl)) pgs_nil))) (fun _ _ _ _ _ _ => pts_nil) (fun _ _ _ _ _ _ hx => (pe_cX c_words_of hr (by decide) (by rfl) (fun σ => hx σ) (pa_cons (pv 2) (pa_cons (pv 1) pa_nil))))))), ?_⟩
  walk_at "rds"
  have lz := len_tl z
  unfold stAll at q e
  refine ⟨by omega, fun h240 hp H1 b s1 hb => ?_, fun h H' d s1 hd => e _ _ (by rw [if_pos (by omega)]) H' d s1 hd, fun h hp H' d s1 hd => e _ _ (by rw [if_neg (by omega), if_neg (by show ¬ isPr z = true; rw [hp]; simp)]) H' d s1 hd⟩
  rw [if_neg (by omega), if_pos (show z.cps.toList.all prC = true from hp)] at q e
  have sh := spA_short 59 z.cps.toList
  have sn := spA_len 59 z.cps.toList
  generalize spA 59 z.cps.toList = ps at hb q e sh sn
  walk_at "rds"
  refine ⟨b, _, rfl, sq hb, fun D hD => ?_⟩
  refine lc_it (walk_enum (K := K) (a := b) (xs := ps.map wrd)) (Pv := fun i H' => ∃ xs, Same H1 H' ∧ H' D = some (.lst xs) ∧ DtAll K H' (some D) xs ((ps.take i).map fun p => rowD (spA 32 p)) ∧ stPre ps i) ⟨[], same_upd hD, upd_same, .nil, fun _ m => nomatch m⟩ (fun _ _ _ h => by obtain ⟨_, h, _⟩ := h; exact sq (h _ _ hb)) (fun i x H6 H7 hi hp2 hy => ?_) (fun H6 hp2 => ?_)
  · obtain ⟨xs, s6, hD6, dt, pre⟩ := hp2
    obtain ⟨t, v1, v2, e1, e2, e3, e4, e5⟩ := hy
    subst e1
    subst e3
    have e5 : (ps.map wrd)[i]? = some v2 := e5
    rw [List.getElem?_map] at e5
    have hi' : i < ps.length := by rw [List.length_map] at hi; exact hi
    have gp : ps[i]? = some ps[i] := List.getElem?_eq_getElem hi'
    have ex : v2 = wrd ps[i] := by rw [gp] at e5; exact (Option.some.inj e5).symm
    have ei : v1 = .int (i : Nat) := (Option.some.inj e4).symm
    subst ex
    subst ei
    have hT : H6 t = none := e2
    have s7 : Same H6 (upd H6 t (.tup [.int (i : Nat), wrd ps[i]])) := same_upd hT
    have hD7 := s7 _ _ hD6
    refine ⟨t, _, rfl, .inl (.inl upd_same), rfl, ?_⟩
    generalize upd H6 t (.tup [.int (i : Nat), wrd ps[i]]) = H7 at s7 hD7
    refine ⟨_, _, rfl, _, _, rfl, rfl, rfl, tyes ?_⟩
    walk_at "rds"
    refine ⟨ps[i], i, rfl, by have := sh ps[i] (List.getElem_mem hi'); omega, fun h1 h2 H8 r s8 nr hr => ?_, fun h H8 d s8 hd => ?_, fun h1 h2 H8 d s8 hd => ?_⟩
    · have hD8 := s8 _ _ hD7
      refine ⟨xs, hD8, by have := dt.length; rw [this, List.length_map, List.length_take]; exact sz1000' (by omega), xs ++ [.ref r], ?_, upd_same, ?_, stPre_succ pre gp h1 h2⟩
      · exact fun c o hc => by
          have z := s8 _ _ (s7 _ _ (s6 _ _ hc))
          rw [upd_ne (ne_of_none hc hD)]
          exact z
      · rw [List.take_add_one, gp, List.map_append]
        have ne : r ≠ D := fun z => by rw [z, hD7] at nr; cases nr
        exact (DtAll.chg hD8 (fun b o n e => by rw [upd_ne n]; exact e) _ _ (((dt.on s7).on s8).snoc2 (.lst ne hr (row_dt _ (fun l m => by have := spA_short 32 _ l m; have := sh ps[i] (List.getElem_mem hi'); omega)))))
    · exact e _ _ ((stR_bad pre gp).1 h) _ _ (s1.trans (s6.trans (s7.trans s8))) hd
    · exact e _ _ ((stR_bad pre gp).2 h1 h2) _ _ (s1.trans (s6.trans (s7.trans s8))) hd
  · obtain ⟨xs, s6, hD6, dt, pre⟩ := hp2
    rw [List.length_map, List.take_length] at dt
    rw [List.length_map] at pre
    refine q _ (stR_ok pre) _ _ (s1.trans s6) ?_
    rw [List.map_map]
    exact .lst trivial hD6 (DtAll.frees _ _ dt)
end

--@SPLIT
def spPiece : Sp := fun vs H Q _ => ∃ (c : Int), vs = [.int c] ∧ ∀ H' (z : Str), Same H H' → z.length ≤ 5 → Q (.str z) H'
def spBuilt (K : PySem.W.Frag) : Sp := fun vs H Q _ => ∃ (a : Addr) (ns : List Int), vs = [.ref a] ∧ SqL K H a (ns.map V.int) ∧ ns.length ≤ 63 ∧ ∀ H' (z : Str), Same H H' → z.length ≤ 500 → Q (.str z) H'
def spDue (K : PySem.W.Frag) : Sp := fun vs H Q _ => ∃ (z : Str), vs = [.str z] ∧ z.length ≤ 500 ∧
  (∀ r k, stAll z.cps.toList = .inl (r, k) → ∀ H' b, Same H H' → H' b = some (.tup [.str r, .int k]) → Q (.ref b) H') ∧
  (∀ rs, stAll z.cps.toList = .inr rs → ∀ H' b, Same H H' → Dt K H' none (.ref b) (.list (rs.map rowD)) → Q (.ref b) H')
theorem two_blanks (x : Str) : (!(PySem.Builtin.Str.occurrences x (Str.ofString "  ") 0 x.length 1).isEmpty) = true ↔ ∃ i, x.cps.toList[i]? = some 32 ∧ x.cps.toList[i + 1]? = some 32 := by
  rw [PySem.StrLaws.found_iff]
  have l2 : (Str.ofString "  ").length = 2 := rfl
  have e2 : (Str.ofString "  ").cps.toList = [32, 32] := by decide
  have key : ∀ q : List Nat, (q.take 2 == [32, 32]) = true ↔ q[0]? = some 32 ∧ q[1]? = some 32 := fun q => by
    match q with
    | [] => simp
    | [a] => simp
    | a :: b :: r => simp
  constructor
  · rintro ⟨i, h1, h2⟩
    rw [PySem.StrLaws.subAt_eq, l2, e2, key, List.getElem?_drop, List.getElem?_drop] at h2
    exact ⟨i, h2.1, h2.2⟩
  · rintro ⟨i, h1, h2⟩
    refine ⟨i, ?_, ?_⟩
    · have := (List.getElem?_eq_some_iff.mp h2).1
      rw [len_tl] at this
      omega
    · rw [PySem.StrLaws.subAt_eq, l2, e2, key, List.getElem?_drop, List.getElem?_drop]
      exact ⟨h1, h2⟩
theorem sgnD (c m : Nat) : decide (V.str ⟨#[c]⟩ = V.str ⟨#[m]⟩) = decide (c = m) := by
  apply decide_eq_decide.mpr
  constructor
  · intro h
    have := congrArg (fun v => match v with | V.str s => s.cps.toList | _ => []) h
    have : [c] = [m] := this
    simpa using this
  · rintro rfl; rfl
section
variable {P : Program} {w : World} {K : PySem.W.Frag} {mg : Str → Option Value} {base : Heap}
theorem c__law_piece {C_LedgerError : Addr} {C_BadCommand : Addr} (T : Txt K mg C_LedgerError C_BadCommand) : Cal P w K mg base 2 "_law_piece" spPiece [] := by
  have c__law_word := c__law_word (P := P) (w := w) (base := base) T
  have c__law_printable := c__law_printable (P := P) (w := w) (base := base) T
  refine cal T.d__law_piece sc__law_piece (fun vs H Q E h => ?_) (fun f cdv A' outer s H vs Q E hr h => ?_)
  · obtain ⟨c, rfl, _⟩ := h; rfl
  obtain ⟨c, rfl, q⟩ := h
  refine ⟨_, (pss_cons (ps_set (i := 1) sc__law_piece.nd rfl (Or.inl rfl) (pe_op op_mod (pe_callTy call_int1 (by rfl) T.z_int (by decide +kernel) (pa_cons (pv 0) pa_nil)) pe_int))
      (pss_cons (ps_if (pt_cmpR op_lt (pv 1) pe_int (nomark _)) (pss_one (ps_ret (pe_c c__law_word hr (by decide) (by rfl) (pa_cons (pe_op op_add pe_int (pe_op op_mod (pe_op op_fdiv (pv 0) pe_int) pe_int)) (pa_cons pe_str (pa_cons (pe_op op_fdiv (pv 0) pe_int) (pa_cons pe_int pa_nil))))))) pss_nil)
      (pss_cons (ps_if (PW.pt (pw_or (pt_cmpR op_eq (pv 1) pe_int (nomark _)) (pw_or1 (pt_cmpR op_eq (pv 1) pe_int (nomark _))))) (pss_one (ps_ret pe_str)) pss_nil)
      (pss_cons (ps_if (pt_cmpR op_eq (pv 1) pe_int (nomark _)) (pss_one (ps_ret (pe_ix (kixl (K := K)) (pe_lst (pa_cons pe_str (pa_cons pe_str (pa_cons pe_str (pa_cons pe_str pa_nil))))) (pe_op op_mod (pe_op op_fdiv (pv 0) pe_int) pe_int) (fun _ _ => rfl)))) pss_nil)
      (pss_cons (ps_set (i := 2) sc__law_piece.nd rfl (Or.inl rfl) (pe_op op_add_str (pe_c0 c__law_printable hr (by decide) (by rfl)) pe_str))
      (pss_one (ps_ret (pe_ix ix_str (pv 2) (pe_op op_mod (pe_op op_fdiv (pv 0) pe_int) (pe_callB call_len_str (by rfl) T.z_len (by decide +kernel) (pa_cons (pv 2) pa_nil))) (fun _ _ => rfl))))))))), ?_⟩
  walk_at "rds"
  refine ite2 (fun _ => ?_) (fun _ => ?_)
  · walk_at "rds"
    obtain ⟨n, hn⟩ := Int.eq_ofNat_of_zero_le (show 0 ≤ 1 + c / 8 % 5 by omega)
    delta tNil
    refine ⟨n, _, _, _, by rw [← hn]; rfl, by omega, by decide +kernel, by decide +kernel, fun z hz _ => ?_⟩
    exact q _ z (Same.refl _) (by omega)
  walk_at "rds"
  have one : ∀ H', Same H H' → Q (.str (Str.ofString " ")) H' := fun H' s => q H' _ s (by decide)
  refine ite2 (fun _ => ?_) (fun _ => ?_)
  · walk_at "rds"
    exact one _ (Same.refl _)
  walk_at "rds"
  refine ite2 (fun _ => ?_) (fun _ => ?_)
  · walk_at "rds"
    exact one _ (Same.refl _)
  walk_at "rds"
  refine ite2 (fun _ => ?_) (fun _ => ?_)
  · walk_at "rds"
    intro L hL
    obtain ⟨v, hv, hat⟩ := atI_lt (xs := [V.str (Str.ofString ";"), .str (Str.ofString ";"), .str (Str.ofString ";"), .str (Str.ofString "  ")]) (i := c / 8 % 4) (by omega) (by show c / 8 % 4 < 4; omega)
    have : ∃ z : Str, v = .str z ∧ z.length ≤ 5 := by
      simp only [List.mem_cons, List.not_mem_nil, or_false] at hv
      rcases hv with rfl | rfl | rfl | rfl <;> exact ⟨_, rfl, by decide⟩
    obtain ⟨z, rfl, hz⟩ := this
    walk_at "rds"
    refine ⟨L, _, _, _, rfl, rfl, sq upd_same, hat, ?_⟩
    exact q _ _ (same_upd hL) hz
  walk_at "rds"
  refine ⟨rfl, ?_⟩
  have hO : 0 < (PRT ++ Str.ofString "\n\t").length ∧ (PRT ++ Str.ofString "\n\t").length ≤ 200 := by decide +kernel
  refine ⟨_, _, rfl, rfl, sz1000 (by decide +kernel), ?_⟩
  generalize PRT ++ Str.ofString "\n\t" = O at hO
  walk_at "rds"
  obtain ⟨d, hd, hat⟩ := atI_lt (xs := O.cps.toList) (i := c / 8 % (O.length : Int)) (Int.emod_nonneg _ (by omega)) (by rw [len_tl]; exact Int.emod_lt_of_pos _ (by omega))
  refine ⟨O, _, d, rfl, rfl, sz1000 (by omega), hat, ?_⟩
  exact q _ _ (Same.refl _) (by show 1 ≤ 5; decide)
theorem c__law_built {C_LedgerError : Addr} {C_BadCommand : Addr} (T : Txt K mg C_LedgerError C_BadCommand) : Cal P w K mg base 3 "_law_built" (spBuilt K) [] := by
  have c__law_cell := c__law_cell (P := P) (w := w) (K := K) (base := base) T
  have c__law_piece := c__law_piece (P := P) (w := w) (base := base) T
  refine cal T.d__law_built sc__law_built (fun vs H Q E h => ?_) (fun f cdv A' outer s H vs Q E hr h => ?_)
  · obtain ⟨a, ns, rfl, _⟩ := h; rfl
  obtain ⟨a, ns, rfl, hS, hlen, q⟩ := h
  refine ⟨_, (pss_cons (ps_set (i := 1) sc__law_built.nd rfl (Or.inl rfl) pe_str)
      (pss_cons (ps_for PassesOwn.never rfl (pi_range2 (by rfl) T.z_range (pa_cons pe_int (pa_cons (pe_callB (call_min2 rfl) (by rfl) T.z_min (by decide +kernel) (pa_cons (pe_callB (klen (K := K)) (by rfl) T.z_len (by decide +kernel) (pa_cons (pv 0) pa_nil)) (pa_cons pe_int pa_nil))) pa_nil))) (pg_name (i := 2) sc__law_built.nd rfl (Or.inl rfl)) (pss_one (ps_set (i := 1) sc__law_built.nd rfl (Or.inl rfl) (pe_op op_add_str (pv 1) (pe_c c__law_piece hr (by decide) (by rfl) (pa_cons (pe_c c__law_cell hr (by decide) (by rfl) (pa_cons (pv 0) (pa_cons (pv 2) pa_nil))) pa_nil))))))
      (pss_cut (ps_if (pt_cmpR op_eq (pe_op op_mod (pe_c c__law_cell hr (by decide) (by rfl) (pa_cons (pv 0) (pa_cons pe_int pa_nil))) pe_int) pe_int (nomark _)) (pss_cons (ps_set (i := 3) sc__law_built.nd rfl (Or.inl rfl) (pe_op op_add pe_int (pe_op op_mod (pe_c c__law_cell hr (by decide) (by rfl) (pa_cons (pv 0) (pa_cons pe_int pa_nil))) pe_int)))
      (pss_one (ps_set (i := 1) sc__law_built.nd rfl (Or.inl rfl) (pe_op op_add_str (pv 1) (pe_op op_mul_str pe_str (pe_callB (call_max2 rfl) (by rfl) T.z_max (by decide +kernel) (pa_cons pe_int (pa_cons (pe_op op_sub (pv 3) (pe_callB call_len_str (by rfl) T.z_len (by decide +kernel) (pa_cons (pv 1) pa_nil))) pa_nil)))))))) pss_nil)
      (pss_one (ps_ret (pv 1)))))), ?_⟩
  walk_at "rds"
  refine ⟨a, _, rfl, .inl hS, ?_⟩
  walk_at "rds"
  delta tNil
  refine ⟨_, _, rfl, ?_⟩
  rw [List.length_map]
  obtain ⟨mx, hmx, m1⟩ : ∃ mx : Nat, (if (26 : Int) < (ns.length : Int) then (26 : Int) else (ns.length : Int)) = (mx : Int) ∧ mx ≤ 26 := by
    by_cases h : (26 : Int) < (ns.length : Int)
    · exact ⟨26, if_pos h, by decide⟩
    · exact ⟨ns.length, if_neg h, by omega⟩
  rw [hmx]
  walk_at "rds"
  refine ⟨2, (mx : Int), rfl, ⟨by omega, by omega, by omega, by omega⟩, ?_⟩
  refine for_it walk_range (Pv := fun i σ H' => ∃ (z : Str) (y : Option V), σ = [some (.ref a), some (.str z), y, none] ∧ z.length ≤ 5 * i ∧ Same H H') ⟨_, none, rfl, by decide, Same.refl _⟩ (fun _ _ _ _ _ => trivial) (fun i x σ H3 H4 hi hp hy => ?_) (fun σ H3 hp => ?_)
  · obtain ⟨z, y, rfl, lz, s3⟩ := hp
    obtain ⟨rfl, rfl⟩ := hy
    have ek : V.int (2 + (i : Int)) = V.int ((2 + i : Nat) : Int) := congrArg V.int (by omega)
    walk_at "rds"
    refine ⟨a, ns, 2 + i, by show [V.ref a, V.int (2 + (i : Int))] = _; rw [ek], s3.seq hS, ?_⟩
    walk_at "rds"
    intro H5 p s5 lp
    refine ⟨_, _, rfl, rfl, sz1000 (by omega), ?_⟩
    exact ⟨_, _, rfl, by rw [Str.length_append]; omega, s3.trans s5⟩
  obtain ⟨z, y, rfl, lz, s3⟩ := hp
  have lz : z.length ≤ 120 := by omega
  walk_at "rds"
  refine ⟨fun σ' H' => ∃ (z : Str) (y y4 : Option V), σ' = [some (.ref a), some (.str z), y, y4] ∧ z.length ≤ 500 ∧ Same H H', ?_, ?_⟩
  · walk_at "rds"
    refine ⟨a, ns, 0, rfl, s3.seq hS, ?_⟩
    walk_at "rds"
    refine ite2 (fun _ => ?_) (fun _ => ?_)
    · walk_at "rds"
      refine ⟨a, ns, 1, rfl, s3.seq hS, ?_⟩
      walk_at "rds"
      refine ⟨_, _, rfl, ?_⟩
      obtain ⟨n, hn, ln⟩ : ∃ n : Nat, (if (238 + ns.getD 1 0 % 6) - (z.length : Int) > 0 then (238 + ns.getD 1 0 % 6) - (z.length : Int) else 0) = (n : Int) ∧ n ≤ 243 := by
        split
        · exact ⟨((238 + ns.getD 1 0 % 6) - (z.length : Int)).toNat, by omega, by omega⟩
        · exact ⟨0, rfl, by omega⟩
      rw [hn]
      refine ⟨_, _, rfl, rfl, mulOk_a (by omega), ?_⟩
      have lm : (PySem.Txt.mul (Str.ofString "a") (n : Int)).length = n := by
        show (PySem.Txt.mul (Str.ofString "a") (n : Int)).cps.size = n
        rw [mul_a, List.size_toArray, List.length_replicate]
      refine ⟨_, _, rfl, rfl, sz1000 (by omega), ?_⟩
      exact ⟨_, _, _, rfl, by rw [Str.length_append]; omega, s3⟩
    · exact ⟨z, _, _, rfl, by omega, s3⟩
  rintro σ' H' ⟨z, y, y4, rfl, hz, s4⟩
  walk_at "rds"
  exact q _ _ s4 hz
theorem c__law_due {C_LedgerError : Addr} {C_BadCommand : Addr} (T : Txt K mg C_LedgerError C_BadCommand) : Cal P w K mg base 2 "_law_due" (spDue K) [] := by
  have c__law_all_in := c__law_all_in (P := P) (w := w) (base := base) T
  have c__law_printable := c__law_printable (P := P) (w := w) (base := base) T
  refine cal T.d__law_due sc__law_due (fun vs H Q E h => ?_) (fun f cdv A' outer s H vs Q E hr h => ?_)
  · obtain ⟨z, rfl, _⟩ := h; rfl
  obtain ⟨z, rfl, hz, qe, qr⟩ := h
  refine ⟨_, (pss_cons (ps_if (pt_cmpR op_gt (pe_callB call_len_str (by rfl) T.z_len (by decide +kernel) (pa_cons (pv 0) pa_nil)) pe_int (nomark _)) (pss_one (ps_ret (pe_tup (pa_cons pe_str (pa_cons pe_int pa_nil))))) pss_nil)
      (pss_cons (ps_if (pt_not (pt_val (pe_c c__law_all_in hr (by decide) (by rfl) (pa_cons (pv 0) (pa_cons (pe_c0 c__law_printable hr (by decide) (by rfl)) pa_nil))))) (pss_one (ps_ret (pe_tup (pa_cons pe_str (pa_cons pe_int pa_nil))))) pss_nil)
      (pss_cons (ps_set (i := 1) sc__law_due.nd rfl (Or.inl rfl) (pe_lst pa_nil))
      (pss_cons (ps_for PassesOwn.never rfl (pi_list (pe_split (pv 0) pe_str)) (pg_name (i := 2) sc__law_due.nd rfl (Or.inl rfl)) (pss_cons (ps_if (pt_cmpR op_eq (pv 2) pe_str (nomark _)) (pss_one (ps_ret (pe_tup (pa_cons pe_str (pa_cons (pe_callB (klen (K := K)) (by rfl) T.z_len (by decide +kernel) (pa_cons (pv 1) pa_nil)) pa_nil))))) pss_nil)
      (pss_cons (ps_if (PW.pt (pw_or (pt_cmpR op_eq (pe_ix ix_str (pv 2) pe_int (fun _ _ => rfl)) pe_str (nomark _)) (pw_or (pt_cmpR op_eq (pe_ix ix_str (pv 2) (pe_un un_neg pe_int) (fun _ _ => rfl)) pe_str (nomark _)) (pw_or1 (pt_cmpR op_in_str pe_str (pv 2) (by rfl)))))) (pss_one (ps_ret (pe_tup (pa_cons pe_str (pa_cons (pe_callB (klen (K := K)) (by rfl) T.z_len (by decide +kernel) (pa_cons (pv 1) pa_nil)) pa_nil))))) pss_nil)
      (pss_one (ps_expr (pe_bm PySem.F.plainAttrs_list PySem.F.slot_list_append PySem.F.type_list_append mt_append (pv 1) (pa_cons (pe_split (pv 2) pe_str) pa_nil)))))))
      (pss_one (ps_ret (pv 1))))))), ?_⟩
  walk_at "rds"
  have lz := len_tl z
  have new : ∀ {r : Str} {k : Nat}, stAll z.cps.toList = .inl (r, k) → ∀ H', Same H H' → ∀ b, H' b = none → Q (.ref b) (upd H' b (.tup [.str r, .int k])) := fun e H' s b hb => qe _ _ e _ b (s.trans (same_upd hb)) upd_same
  unfold stAll at new qr
  by_cases h240 : 240 < z.length
  · refine ifT (decide_eq_true (by omega)) ?_
    walk_at "rds"
    exact fun b hb => new (by rw [if_pos (by omega)]) H (Same.refl _) b hb
  rw [if_neg (by omega)] at new qr
  refine ifF (decide_eq_false (by omega)) ?_
  walk_at "rds"
  refine ⟨rfl, ?_⟩
  walk_at "rds"
  refine ⟨z, _, rfl, ?_⟩
  walk_at "rds"
  rw [inL_all prt_mem]
  cases hp : z.cps.toList.all prC with
  | false =>
    rw [hp, if_neg Bool.false_ne_true] at new
    refine ifT rfl ?_
    walk_at "rds"
    exact fun b hb => new rfl H (Same.refl _) b hb
  | true =>
  rw [hp, if_pos rfl] at new qr
  refine ifF rfl ?_
  walk_at "rds"
  intro b hb
  walk_at "rds"
  have sl := sizeLine_eq
  refine ⟨_, _, rfl, rfl, rfl, by omega, fun p hp2 => ?_⟩
  rw [sgn1.2, split_wrdC]
  have sh := spA_short 59 z.cps.toList
  have sn := spA_len 59 z.cps.toList
  generalize spA 59 z.cps.toList = ps at new qr sh sn
  have sb := same_upd (o := .lst []) hb
  have s0 := sb.trans (same_upd (o := .lst (ps.map wrd)) hp2)
  have hb0 : upd (upd H b (.lst [])) p (.lst (ps.map wrd)) b = some (.lst []) := (same_upd hp2) _ _ upd_same
  have hp0 : upd (upd H b (.lst [])) p (.lst (ps.map wrd)) p = some (.lst (ps.map wrd)) := upd_same
  have nbp : b ≠ p := fun z => by rw [z, upd_same] at hp2; cases hp2
  generalize upd (upd H b (.lst [])) p (.lst (ps.map wrd)) = H0 at s0 hb0 hp0 ⊢
  walk_at "rds"
  refine ⟨⟨_, sq hp0⟩, ?_⟩
  refine for_it (walk_list (K := K) (a := p) (xs := ps.map wrd)) (Pv := fun i σ H' => ∃ (xs : List V) (y : Option V), σ = [some (.str z), some (.ref b), y] ∧ Same H H' ∧ H' p = some (.lst (ps.map wrd)) ∧ H' b = some (.lst xs) ∧ DtAll K H' (some b) xs ((ps.take i).map fun p => rowD (spA 32 p)) ∧ stPre ps i) ⟨[], none, rfl, s0, hp0, hb0, .nil, fun _ m => nomatch m⟩ (fun _ _ _ _ h => by obtain ⟨_, _, _, _, h, _⟩ := h; exact sq h) (fun i x σ H6 H7 hi hp hy => ?_) (fun σ H6 hp => ?_)
  · obtain ⟨xs, y, rfl, s6, hp6, hb6, dt, pre⟩ := hp
    obtain ⟨rfl, e5⟩ := hy
    rw [List.getElem?_map] at e5
    have hi' : i < ps.length := by rw [List.length_map] at hi; exact hi
    have gp : ps[i]? = some ps[i] := List.getElem?_eq_getElem hi'
    have ex : x = wrd ps[i] := by rw [gp] at e5; exact (Option.some.inj e5).symm
    subst ex
    have lq : ps[i].length ≤ 1000 := by have := sh ps[i] (List.getElem_mem hi'); omega
    have hk : xs.length = i := by rw [dt.length, List.length_map, List.length_take]; omega
    have bad := stR_bad pre gp
    have nxt := fun h1 h2 => stPre_succ pre gp h1 h2
    have tk : (ps.take (i + 1)).map (fun p => rowD (spA 32 p)) = (ps.take i).map (fun p => rowD (spA 32 p)) ++ [rowD (spA 32 ps[i])] := by rw [List.take_add_one, gp, List.map_append]; rfl
    generalize ps[i] = u at lq bad nxt tk
    have ez : decide (wrd u = V.str (Str.ofString "")) = decide (u = []) := by
      apply decide_eq_decide.mpr
      exact ⟨fun h => congrArg (fun v => match v with | V.str s => s.cps.toList | _ => []) h, fun h => by rw [h]; rfl⟩
    walk_at "rds"
    by_cases h0 : u = []
    · refine ifT (ez.trans (decide_eq_true h0)) ?_
      walk_at "rds"
      refine ⟨b, _, rfl, .inl (sq hb6), ?_⟩
      walk_at "rds"
      rw [hk]
      exact fun c hc => new (bad.1 h0) _ s6 c hc
    refine ifF (ez.trans (decide_eq_false h0)) ?_
    obtain ⟨c, r, rfl⟩ : ∃ c r, u = c :: r := by
      cases u with
      | nil => exact absurd rfl h0
      | cons c r => exact ⟨c, r, rfl⟩
    have leaf : [] ∈ spA 32 (c :: r) → ∀ c', H7 c' = none → Q (.ref c') (upd H7 c' (.tup [.str (Str.ofString "space"), .int (i : Nat)])) := fun h c' hc' => new (bad.2 h0 h) _ s6 c' hc'
    walk_at "rds"
    refine ⟨⟨(c :: r).toArray⟩, _, c, rfl, rfl, by rw [wl]; exact sz1000 (by omega), atI_nat (j := 0) (by rfl), ?_⟩
    walk_at "rds"
    rw [sgn1.1, sgnD]
    have spaces := spA_empty (c :: r)
    by_cases c1 : c = 32
    · refine ifT (decide_eq_true c1) ?_
      walk_at "rds"
      refine ⟨b, _, rfl, .inl (sq hb6), ?_⟩
      walk_at "rds"
      rw [hk]
      exact leaf (spaces.mpr (.inl (.inr (by rw [c1]; rfl))))
    refine ifF (decide_eq_false c1) ?_
    obtain ⟨q', d, hqd⟩ : ∃ q' d, c :: r = q' ++ [d] := ⟨_, _, (List.dropLast_concat_getLast (by simp)).symm⟩
    have last : (c :: r).getLast? = some d := by rw [hqd]; simp
    walk_at "rds"
    refine ⟨⟨(c :: r).toArray⟩, _, d, rfl, rfl, by rw [wl]; exact sz1000 (by omega), by show atI (c :: r) (-1) = some d; rw [hqd]; exact atI_last _ _, ?_⟩
    walk_at "rds"
    rw [sgnD]
    by_cases d1 : d = 32
    · refine ifT (decide_eq_true d1) ?_
      walk_at "rds"
      refine ⟨b, _, rfl, .inl (sq hb6), ?_⟩
      walk_at "rds"
      rw [hk]
      exact leaf (spaces.mpr (.inr (.inl (by rw [last, d1]))))
    refine ifF (decide_eq_false d1) ?_
    walk_at "rds"
    have tw := two_blanks ⟨(c :: r).toArray⟩
    cases ht : (!(PySem.Builtin.Str.occurrences (⟨(c :: r).toArray⟩ : Str) (Str.ofString "  ") 0 (⟨(c :: r).toArray⟩ : Str).length 1).isEmpty) with
    | true =>
      refine ifT rfl ?_
      walk_at "rds"
      refine ⟨b, _, rfl, .inl (sq hb6), ?_⟩
      walk_at "rds"
      rw [hk]
      exact leaf (spaces.mpr (.inr (.inr (tw.mp ht))))
    | false =>
    have fine : [] ∉ spA 32 (c :: r) := fun m => by
      rcases spaces.mp m with (z | z) | z | z
      · cases z
      · exact c1 (by simpa using z)
      · rw [last] at z; exact d1 (Option.some.inj z)
      · rw [tw.mpr z] at ht; cases ht
    refine ifF rfl ?_
    walk_at "rds"
    refine ⟨.inl ⟨rfl, _, sq hb6⟩, ?_⟩
    walk_at "rds"
    refine ⟨⟨(c :: r).toArray⟩, _, rfl, rfl, rfl, by rw [wl]; omega, fun r2 hr2 => ?_⟩
    rw [split_wrdC]
    have s8 : Same H7 (upd H7 r2 (.lst ((spA 32 (c :: r)).map wrd))) := same_upd hr2
    have hr3 : upd H7 r2 (.lst ((spA 32 (c :: r)).map wrd)) r2 = some (.lst ((spA 32 (c :: r)).map wrd)) := upd_same
    have ne : r2 ≠ b := fun z => by rw [z, hb6] at hr2; cases hr2
    have er : (⟨(c :: r).toArray⟩ : Str).cps.toList = c :: r := rfl
    rw [er]
    generalize upd H7 r2 (.lst ((spA 32 (c :: r)).map wrd)) = H8 at s8 hr3 ⊢
    walk_at "rds"
    have hb8 := s8 _ _ hb6
    refine ⟨b, xs, .ref r2, rfl, rfl, hb8, by rw [hk]; exact sz1000' (by omega), ?_⟩
    refine ⟨xs ++ [.ref r2], _, rfl, same_mut (s6.trans s8) hb, by rw [upd_ne nbp.symm]; exact s8 _ _ hp6, upd_same, ?_, nxt h0 fine⟩
    rw [tk]
    exact DtAll.chg hb8 (fun b o n e => by rw [upd_ne n]; exact e) _ _ ((dt.on s8).snoc2 (.lst ne hr3 (row_dt _ (fun l m => by have := spA_short 32 _ l m; omega))))
  · obtain ⟨xs, y, rfl, s6, hp6, hb6, dt, pre⟩ := hp
    rw [List.length_map] at dt pre
    rw [List.take_length] at dt
    walk_at "rds"
    refine qr _ (stR_ok pre) _ _ s6 ?_
    rw [List.map_map]
    exact .lst trivial hb6 (DtAll.frees _ _ dt)
theorem c__law_raises_base {C_LedgerError : Addr} {C_BadCommand : Addr} (T : Txt K mg C_LedgerError C_BadCommand) : Cal P w K mg base 5 "_law_raises_base" (fun vs H Q _ => ∃ (z : Str) (r : Str) (k : Nat), vs = [.str z] ∧ z.length ≤ 500 ∧ stAll z.cps.toList = .inl (r, k) ∧ ∀ H', Q (.bl true) H') [] := by
  have c_statements := c_statements (P := P) (w := w) (K := K) (base := base) T
  refine cal T.d__law_raises_base sc__law_raises_base (fun vs H Q E h => ?_) (fun f cdv A' outer s H vs Q E hr h => ?_)
  · obtain ⟨z, r, k, rfl, _⟩ := h; rfl
  obtain ⟨z, r, k, rfl, hz, hs, q⟩ := h
  refine ⟨_, (pss_cons (ps_try_as (i := 1) (Wout := fun _ _ _ _ => False) rfl rfl sc__law_raises_base.nd rfl rfl ⟨by rfl, by decide, .inl T.x_LedgerError.g⟩ takes0 (fun W pn xe tk po => (pss_one (ps_expr (pe_cX c_statements hr (by decide) (by rfl) (fun σ => passAt tk σ) (pa_cons (pv 0) pa_nil))))) (fun a oe cls d pn hz hf => (pss_one (ps_ret (pe_callB (by exact call_isED T.ec_BadCommand hz hf) (by rfl) T.z_isinstance (by decide +kernel) (pa_cons (pv 1) (pa_cons (pe_bltn (v := .ty "ValueError") (by rfl) T.z_ValueError (by decide +kernel) rfl) pa_nil)))))))
      (pss_one (ps_ret pe_bl))), ?_⟩
  walk_at "rds"
  refine ⟨by omega, fun rs e => (by rw [hs] at e; cases e), fun r' k' e H1 d s1 hd => ?_⟩
  refine ⟨true, T.x_LedgerError.exm T.u_BadCommand_LedgerError, fun _ b hb => ?_, fun z => nomatch z⟩
  walk_at "rds"
  refine ⟨⟨rfl, d, _, rfl, hd⟩, .ty "ValueError", .type "ValueError", true, rfl, fun u hu => hu, T.kt_BadCommand_ValueError, ?_⟩
  exact q _
end
theorem spA_mem {c : Nat} : ∀ (p : List Nat), ∀ l ∈ spA c p, ∀ x ∈ l, x ∈ p
  | [], l, hl, x, hx => by rw [List.mem_singleton.mp hl] at hx; cases hx
  | a :: r, l, hl, x, hx => by
    rw [spA] at hl
    split at hl
    · rcases List.mem_cons.mp hl with rfl | hl
      · cases hx
      · exact List.mem_cons_of_mem _ (spA_mem r l hl x hx)
    · obtain ⟨u, q, e⟩ := spA_ne c r
      rw [e] at hl
      have ih := spA_mem (c := c) r
      rw [e] at ih
      rcases List.mem_cons.mp hl with rfl | hl
      · rcases List.mem_append.mp hx with hx | hx
        · rw [List.mem_singleton.mp hx]; exact List.mem_cons_self
        · exact List.mem_cons_of_mem _ (ih u List.mem_cons_self x hx)
      · exact List.mem_cons_of_mem _ (ih l (List.mem_cons_of_mem _ hl) x hx)
theorem stR_inr : ∀ {ps : List (List Nat)} {k : Nat} {rs : List (List (List Nat))}, stR k ps = .inr rs → rs = ps.map (spA 32)
  | [], k, rs, h => by rw [stR] at h; injection h with h; rw [← h]; rfl
  | p :: ps, k, rs, h => by
    rw [stR] at h
    split at h
    · cases h
    · split at h
      · cases h
      · cases e : stR (k + 1) ps with
        | inl z => rw [e] at h; cases h
        | inr qs => rw [e] at h; injection h with h; rw [← h, stR_inr e]; rfl
theorem stR_inl : ∀ {ps : List (List Nat)} {k : Nat} {r : Str} {j : Nat}, stR k ps = .inl (r, j) → PyData.strOk r = true
  | [], k, r, j, h => by rw [stR] at h; cases h
  | p :: ps, k, r, j, h => by
    rw [stR] at h
    split at h
    · injection h with h; injection h with h _; rw [← h]; decide +kernel
    · split at h
      · injection h with h; injection h with h _; rw [← h]; decide +kernel
      · cases e : stR (k + 1) ps with
        | inl z => rw [e] at h; injection h with h; obtain ⟨z1, z2⟩ := z; injection h with h1 _; rw [← h1]; exact stR_inl e
        | inr qs => rw [e] at h; cases h
theorem shape_bad {cs : List Nat} {r : Str} {k : Nat} (h : stAll cs = .inl (r, k)) : SeqAt.shaped (.tuple [.str r, .int k]) = true ∧ PyData.eqv (.tuple [.str r, .int k]) (.tuple [.str r, .int k]) = true := by
  have so : PyData.strOk r = true := by
    unfold stAll at h
    split at h
    · injection h with h; injection h with h _; rw [← h]; decide +kernel
    · split at h
      · exact stR_inl h
      · injection h with h; injection h with h _; rw [← h]; decide +kernel
  have l : (PyData.tuple [.str r, .int k]).canLay0 = true := by simp [PyData.canLay0, PyData.canLayAll0, so]
  refine ⟨?_, SeqAt.eqv_refl _ l⟩
  unfold SeqAt.shaped
  rw [l]
  simp [PyData.depth, PyData.depthAll]
theorem lay_row {r : List (List Nat)} (h : ∀ l ∈ r, ∀ x ∈ l, x < 1114112) : PyData.canLayAll0 (r.map fun l => PyData.str ⟨l.toArray⟩) = true ∧ PyData.depthAll (r.map fun l => PyData.str ⟨l.toArray⟩) ≤ 0 := by
  induction r with
  | nil => simp [PyData.canLayAll0, PyData.depthAll]
  | cons l r ih =>
    obtain ⟨i1, i2⟩ := ih fun x m => h x (List.mem_cons_of_mem _ m)
    have so : PyData.strOk ⟨l.toArray⟩ = true := by
      unfold PyData.strOk
      rw [← Array.all_toList]
      exact List.all_eq_true.mpr fun x m => decide_eq_true (h l List.mem_cons_self x m)
    rw [List.map_cons]
    refine ⟨by simp [PyData.canLayAll0, PyData.canLay0, so, i1], ?_⟩
    simp only [PyData.depthAll, PyData.depth]
    omega
theorem lay_rows {rs : List (List (List Nat))} (h : ∀ r ∈ rs, ∀ l ∈ r, ∀ x ∈ l, x < 1114112) : PyData.canLayAll0 (rs.map rowD) = true ∧ PyData.depthAll (rs.map rowD) ≤ 1 := by
  induction rs with
  | nil => simp [PyData.canLayAll0, PyData.depthAll]
  | cons r rs ih =>
    obtain ⟨i1, i2⟩ := ih fun x m => h x (List.mem_cons_of_mem _ m)
    obtain ⟨j1, j2⟩ := lay_row (h r List.mem_cons_self)
    rw [List.map_cons]
    refine ⟨by simp [PyData.canLayAll0, rowD, PyData.canLay0, j1]; exact i1, ?_⟩
    simp only [PyData.depthAll, rowD, PyData.depth] at *
    omega
theorem shape_rows {cs : List Nat} {rs : List (List (List Nat))} (h : stAll cs = .inr rs) : SeqAt.shaped (.list (rs.map rowD)) = true ∧ PyData.eqv (.list (rs.map rowD)) (.list (rs.map rowD)) = true := by
  unfold stAll at h
  split at h
  · cases h
  split at h
  · rename_i hp
    have e := stR_inr h
    have hm : ∀ r ∈ rs, ∀ l ∈ r, ∀ x ∈ l, x < 1114112 := fun r hr l hl x hx => by
      rw [e] at hr
      obtain ⟨p, hp1, rfl⟩ := List.mem_map.mp hr
      have m := spA_mem cs p hp1 x (spA_mem p l hl x hx)
      have := List.all_eq_true.mp hp x m
      unfold prC at this
      rw [Bool.and_eq_true, Bool.and_eq_true] at this
      have := of_decide_eq_true this.1.2
      omega
    obtain ⟨i1, i2⟩ := lay_rows hm
    have l : (PyData.list (rs.map rowD)).canLay0 = true := by simp [PyData.canLay0, i1]
    refine ⟨?_, SeqAt.eqv_refl _ l⟩
    unfold SeqAt.shaped
    rw [l, Bool.true_and]
    refine decide_eq_true ?_
    rw [PyData.depth]
    omega
  · cases h
section
variable {P : Program} {w : World} {K : PySem.W.Frag} {mg : Str → Option Value} {base : Heap}
theorem ok_law {C_LedgerError : Addr} {C_BadCommand : Addr} {f : Addr} {fd : FuncData} (F : L2.Fun K "law" "law" s_law f fd) (T : Txt K mg C_LedgerError C_BadCommand) : FnOk P w K mg base L2.CX0 6 f fd ["script"] (spLaw K) := by
  have c__law_built := c__law_built (P := P) (w := w) (K := K) (base := base) T
  have c__law_due := c__law_due (P := P) (w := w) (K := K) (base := base) T
  have c__law_raises_base := c__law_raises_base (P := P) (w := w) (K := K) (base := base) T
  have c_statements := c_statements (P := P) (w := w) (K := K) (base := base) T
  refine F.ok sc_law (fun vs H Q E h => ?_) (fun cdv A' outer s H vs Q E hr h => ?_)
  · obtain ⟨a, ns, rfl, _⟩ := h; rfl
  obtain ⟨a, ns, rfl, hS, hlen, q⟩ := h
  have sl := sizeLine_eq
  refine ⟨_, (pss_cons (ps_set (i := 1) sc_law.nd rfl (Or.inl rfl) (pe_c c__law_built hr (by decide) (by rfl) (pa_cons (pv 0) pa_nil)))
      (pss_cons (ps_set (i := 2) sc_law.nd rfl (Or.inl rfl) (pe_c c__law_due hr (by decide) (by rfl) (pa_cons (pv 1) pa_nil)))
      (pss_cons (ps_set (i := 3) sc_law.nd rfl (Or.inl rfl) pe_non)
      (pss_cons (ps_set (i := 4) sc_law.nd rfl (Or.inl rfl) pe_non)
      (pss_cons (ps_try_as (i := 5) (Wout := fun _ _ _ _ => False) rfl rfl sc_law.nd rfl rfl ⟨by rfl, by decide, .inl T.x_BadCommand.g⟩ takes0 (fun W pn xe tk po => (pss_one (ps_set (i := 3) sc_law.nd rfl (Or.inl rfl) (pe_cX c_statements hr (by decide) (by rfl) (fun σ => passAt tk σ) (pa_cons (pv 1) pa_nil))))) (fun a oe cls d pn hz hf => (pss_one (ps_set (i := 4) sc_law.nd rfl (Or.inl rfl) (pe_tup (pa_cons (pe_xf T.x_BadCommand.xf T.xn_BadCommand_reason hz hf (pv 5)) (pa_cons (pe_xf T.x_BadCommand.xf T.xn_BadCommand_statement hz hf (pv 5)) pa_nil)))))))
      (pss_cons (ps_if (pt_val (pe_callB (kisi (K := K)) (by rfl) T.z_isinstance (by decide +kernel) (pa_cons (pv 2) (pa_cons (pe_bltn (v := .ty "tuple") (by rfl) T.z_tuple (by decide +kernel) rfl) pa_nil)))) (pss_cons (ps_if (PW.pt (pw_or (pt_cmpR op_isN (pv 4) pe_non (nomark _)) (pw_or (pt_not (pt_val (pe_callB (kisi (K := K)) (by rfl) T.z_isinstance (by decide +kernel) (pa_cons (pe_ix (kixt (K := K)) (pv 4) pe_int (fun _ _ => rfl)) (pa_cons (pe_bltn (v := .ty "str") (by rfl) T.z_str (by decide +kernel) rfl) pa_nil))))) (pw_or1 (pt_not (pt_val (pe_callB (kisi (K := K)) (by rfl) T.z_isinstance (by decide +kernel) (pa_cons (pe_ix (kixt (K := K)) (pv 4) pe_int (fun _ _ => rfl)) (pa_cons (pe_bltn (v := .ty "int") (by rfl) T.z_int (by decide +kernel) rfl) pa_nil))))))))) (pss_one (ps_ret pe_bl)) pss_nil)
      (pss_one (ps_ret (pe_and (pe_cmpR (op_eqD hr.units) (pv 4) (pv 2) (nomark _)) (pe_one (pe_c c__law_raises_base hr (by decide) (by rfl) (pa_cons (pv 1) pa_nil))))))) pss_nil)
      (pss_cons (ps_if (PW.pt (pw_or (pt_cmpR op_notN (pv 4) pe_non (nomark _)) (pw_or1 (pt_not (pt_val (pe_callB (kisi (K := K)) (by rfl) T.z_isinstance (by decide +kernel) (pa_cons (pv 3) (pa_cons (pe_bltn (v := .ty "list") (by rfl) T.z_list (by decide +kernel) rfl) pa_nil)))))))) (pss_one (ps_ret pe_bl)) pss_nil)
      (pss_cons (ps_for PassesOwn.never rfl (pi_list (pv 3)) (pg_name (i := 6) sc_law.nd rfl (Or.inl rfl)) (pss_one (ps_if (pt_not (pt_val (pe_callB (kisi (K := K)) (by rfl) T.z_isinstance (by decide +kernel) (pa_cons (pv 6) (pa_cons (pe_bltn (v := .ty "list") (by rfl) T.z_list (by decide +kernel) rfl) pa_nil))))) (pss_one (ps_ret pe_bl)) pss_nil)))
      (pss_one (ps_ret (pe_cmpR (op_eqD hr.units) (pv 3) (pv 2) (nomark _)))))))))))), ?_⟩
  walk_at "rds"
  refine ⟨a, ns, rfl, hS, hlen, fun H1 z s1 hz => ?_⟩
  walk_at "rds"
  cases hst : stAll z.cps.toList with
  | inl rk =>
    obtain ⟨r, k⟩ := rk
    refine ⟨hz, fun r' k' e H2 b s2 hb => ?_, fun rs e => (by (try rw [hst] at e); cases e)⟩
    try rw [hst] at e
    injection e with e
    injection e with er ek
    subst er; subst ek
    walk_at "rds"
    refine ⟨by omega, fun rs e => (by (try rw [hst] at e); cases e), fun r' k' e H3 d s3 hd => ?_⟩
    try rw [hst] at e
    injection e with e
    injection e with er ek
    subst er; subst ek
    refine ⟨true, T.x_BadCommand.exm T.u_BadCommand_BadCommand, fun _ b' hb' => ?_, fun z => nomatch z⟩
    walk_at "rds"
    refine ⟨rfl, rfl, d, _, _, rfl, hd, rfl, ?_⟩
    walk_at "rds"
    refine ⟨rfl, rfl, d, _, _, rfl, hd, rfl, ?_⟩
    walk_at "rds"
    intro t ht
    have sht := same_upd (o := .tup [.str r, .int (k : Int)]) ht
    have hb5 := sht _ _ (s3 _ _ hb)
    have ht2 : upd H3 t (.tup [.str r, .int (k : Int)]) t = some (.tup [.str r, .int (k : Int)]) := upd_same
    generalize upd H3 t (.tup [.str r, .int (k : Int)]) = H5 at hb5 ht2 ⊢
    walk_at "rds"
    refine ⟨_, .ty _, _, _, true, rfl, .ty _, .base (.tup hb5), kit_ty (by decide +kernel), ?_⟩
    walk_at "rds"
    refine ⟨t, _, ((0 : Nat) : Int), _, rfl, rfl, .inl (.inl ht2), atI_nat (by rfl), ?_⟩
    walk_at "isi"
    walk_at "rds"
    refine ⟨t, _, ((1 : Nat) : Int), _, rfl, rfl, .inl (.inl ht2), atI_nat (by rfl), ?_⟩
    walk_at "isi"
    walk_at "rds"
    obtain ⟨sh1, sh2⟩ := shape_bad hst
    have dp : ∀ {x : Addr}, H5 x = some (.tup [.str r, .int (k : Int)]) → Dp K H5 (.ref x) (.tuple [.str r, .int (k : Int)]) := fun h => .tup (SqT.of h) (.cons (.str _) (.cons (.int _) .nil))
    refine ⟨_, _, dp ht2, dp hb5, sh1, sh1, ?_⟩
    rw [sh2]
    walk_at "rds"
    delta tNil
    exact ⟨z, r, k, rfl, hz, hst, fun H' => q _⟩
  | inr rs =>
    refine ⟨hz, fun r' k' e => (by (try rw [hst] at e); cases e), fun rs' e H2 b s2 hb => ?_⟩
    try rw [hst] at e
    injection e with e
    subst e
    walk_at "rds"
    refine ⟨by omega, fun rs' e H3 b3 s3 hb3 => ?_, fun r' k' e => (by (try rw [hst] at e); cases e)⟩
    try rw [hst] at e
    injection e with e
    subst e
    walk_at "rds"
    obtain ⟨sh1, sh2⟩ := shape_rows hst
    have hb4 := hb.on s3
    cases hb4 with
    | lst _ hbl dtl =>
    refine ⟨_, .ty _, _, _, false, rfl, .ty _, .base (.lst hbl), kit_ty (by decide +kernel), ?_⟩
    walk_at "rds"
    obtain ⟨xa, hal, dta⟩ : ∃ xs, H3 b3 = some (.lst xs) ∧ DtAll K H3 none xs (rs.map rowD) := by
      cases hb3 with
      | lst _ h d => exact ⟨_, h, d⟩
    refine ⟨_, .ty _, _, _, true, rfl, .ty _, .base (.lst hal), kit_ty (by decide +kernel), ?_⟩
    walk_at "rds"
    refine ⟨⟨_, sq hal⟩, ?_⟩
    refine for_it (walk_list (K := K) (a := b3) (xs := xa)) (Pv := fun i σ H' => ∃ (y5 y6 : Option V), σ = [some (.ref a), some (.str z), some (.ref b), some (.ref b3), some .non, y5, y6] ∧ Same H3 H') ⟨none, none, rfl, Same.refl _⟩ (fun _ _ _ _ h => by obtain ⟨_, _, _, h⟩ := h; exact sq (h _ _ hal)) (fun i x σ H6 H7 hi hp hy => ?_) (fun σ H6 hp => ?_)
    · obtain ⟨y5, y6, rfl, s6⟩ := hp
      obtain ⟨rfl, e5⟩ := hy
      obtain ⟨dd, ed, hd⟩ := DtAll.get dta e5
      rw [List.getElem?_map] at ed
      have hd7 := hd.on s6
      obtain ⟨rr, er, rfl⟩ := Option.map_eq_some_iff.mp ed
      have ty : TyX K H7 x (.type "list") := hd7.ty
      walk_at "rds"
      refine ⟨_, .ty _, _, _, true, rfl, .ty _, ty, kit_ty (by decide +kernel), ?_⟩
      walk_at "rds"
      exact ⟨_, _, rfl, s6⟩
    · obtain ⟨y5, y6, rfl, s6⟩ := hp
      walk_at "rds"
      refine ⟨_, _, (hb3.on s6).dp, ((hb.on s3).on s6).dp, sh1, sh1, ?_⟩
      rw [sh2]
      walk_at "rds"
      exact q _
end

theorem fin {C_LedgerError : Addr} {C_BadCommand : Addr} {P : Program} {w : World} {K : PySem.W.Frag} {mg : Str → Option Value} {fa : Addr} (hfa : mg "law" = some (.ref fa)) (T : Txt K mg C_LedgerError C_BadCommand) :
    ∃ fd : FuncData, (∀ (s : Shared) (u : Value), BindsTo s fd ⟨[u], []⟩ [("script", u)]) ∧ ∀ base : Heap, K.In base → base.Ns mainGlobals mg → FnOk P w K mg base L2.CX0 6 fa fd ["script"] (spLaw K) := by
  obtain ⟨f, fd, F, hm, b⟩ := T.d_law.ex
  cases hfa.symm.trans hm
  refine ⟨fd, fun s u => ?_, fun base _ _ => ok_law F T⟩
  obtain ⟨oc, od, kV, doc, pm, an, cdv, ct, osl, rfl, l, _⟩ := F.ex
  exact .of_eq rfl

theorem all_mk {K : PySem.W.Frag} {h : Heap} {mg : Str → Option Value} (X : K.In h) (G : h.Ns mainGlobals mg)
    {f_is_printable : Addr} {od_is_printable an_is_printable : Option Addr} {sl_is_printable : Array (Option Value)} {oc_is_printable kV_is_printable dc_is_printable pm_is_printable cd_is_printable ct_is_printable : Value}
    {f_statements : Addr} {od_statements an_statements : Option Addr} {sl_statements : Array (Option Value)} {oc_statements kV_statements dc_statements pm_statements cd_statements ct_statements : Value}
    {f_parts_of : Addr} {od_parts_of an_parts_of : Option Addr} {sl_parts_of : Array (Option Value)} {oc_parts_of kV_parts_of dc_parts_of pm_parts_of cd_parts_of ct_parts_of : Value}
    {f_words_of : Addr} {od_words_of an_words_of : Option Addr} {sl_words_of : Array (Option Value)} {oc_words_of kV_words_of dc_words_of pm_words_of cd_words_of ct_words_of : Value}
    {f__law_cell : Addr} {od__law_cell an__law_cell : Option Addr} {sl__law_cell : Array (Option Value)} {oc__law_cell kV__law_cell dc__law_cell pm__law_cell cd__law_cell ct__law_cell : Value}
    {f__law_word : Addr} {od__law_word an__law_word : Option Addr} {sl__law_word : Array (Option Value)} {oc__law_word kV__law_word dc__law_word pm__law_word cd__law_word ct__law_word : Value}
    {f__law_printable : Addr} {od__law_printable an__law_printable : Option Addr} {sl__law_printable : Array (Option Value)} {oc__law_printable kV__law_printable dc__law_printable pm__law_printable cd__law_printable ct__law_printable : Value}
    {f__law_all_in : Addr} {od__law_all_in an__law_all_in : Option Addr} {sl__law_all_in : Array (Option Value)} {oc__law_all_in kV__law_all_in dc__law_all_in pm__law_all_in cd__law_all_in ct__law_all_in : Value}
    {f__law_piece : Addr} {od__law_piece an__law_piece : Option Addr} {sl__law_piece : Array (Option Value)} {oc__law_piece kV__law_piece dc__law_piece pm__law_piece cd__law_piece ct__law_piece : Value}
    {f__law_built : Addr} {od__law_built an__law_built : Option Addr} {sl__law_built : Array (Option Value)} {oc__law_built kV__law_built dc__law_built pm__law_built cd__law_built ct__law_built : Value}
    {f__law_due : Addr} {od__law_due an__law_due : Option Addr} {sl__law_due : Array (Option Value)} {oc__law_due kV__law_due dc__law_due pm__law_due cd__law_due ct__law_due : Value}
    {f__law_raises_base : Addr} {od__law_raises_base an__law_raises_base : Option Addr} {sl__law_raises_base : Array (Option Value)} {oc__law_raises_base kV__law_raises_base dc__law_raises_base pm__law_raises_base cd__law_raises_base ct__law_raises_base : Value}
    {f_law : Addr} {od_law an_law : Option Addr} {sl_law : Array (Option Value)} {oc_law kV_law dc_law pm_law cd_law ct_law : Value}
    {C_LedgerError : Addr}
    {C_BadCommand : Addr} {nm_BadCommand qn_BadCommand : Str} {NN_BadCommand : Addr} {bs_BadCommand bm_BadCommand sub_BadCommand : List Value} {sn_BadCommand : List Str} {ab_BadCommand : Bool} {col_BadCommand : Option Bool} {dd_BadCommand : Option Addr} {m0_BadCommand m1_BadCommand m2_BadCommand m3_BadCommand m5_BadCommand : Option Value}
    {f_BadCommand____init__ : Addr} {od_BadCommand____init__ an_BadCommand____init__ : Option Addr} {sl_BadCommand____init__ : Array (Option Value)} {oc_BadCommand____init__ kV_BadCommand____init__ dc_BadCommand____init__ pm_BadCommand____init__ cd_BadCommand____init__ ct_BadCommand____init__ : Value}
    {t_MOST_TEXT : Tok}
    (a_is_printable : PySem.W.nsIn K mainGlobals "is_printable" = some (some (.ref f_is_printable)))
    (l_is_printable : K.lookup f_is_printable = some ⟨oc_is_printable, od_is_printable, .func (PySem.W.fnOf "is_printable" "is_printable" (defArgs s_is_printable) (defBody s_is_printable) (defScope s_is_printable) .none kV_is_printable dc_is_printable pm_is_printable an_is_printable cd_is_printable ct_is_printable), sl_is_printable⟩)
    (e_is_printable : PySem.W.codeIn K cd_is_printable "is_printable" = true)
    (k_is_printable : PySem.W.keepIn K (.ref f_is_printable) = true)
    (a_statements : PySem.W.nsIn K mainGlobals "statements" = some (some (.ref f_statements)))
    (l_statements : K.lookup f_statements = some ⟨oc_statements, od_statements, .func (PySem.W.fnOf "statements" "statements" (defArgs s_statements) (defBody s_statements) (defScope s_statements) .none kV_statements dc_statements pm_statements an_statements cd_statements ct_statements), sl_statements⟩)
    (e_statements : PySem.W.codeIn K cd_statements "statements" = true)
    (k_statements : PySem.W.keepIn K (.ref f_statements) = true)
    (a_parts_of : PySem.W.nsIn K mainGlobals "parts_of" = some (some (.ref f_parts_of)))
    (l_parts_of : K.lookup f_parts_of = some ⟨oc_parts_of, od_parts_of, .func (PySem.W.fnOf "parts_of" "parts_of" (defArgs s_parts_of) (defBody s_parts_of) (defScope s_parts_of) .none kV_parts_of dc_parts_of pm_parts_of an_parts_of cd_parts_of ct_parts_of), sl_parts_of⟩)
    (e_parts_of : PySem.W.codeIn K cd_parts_of "parts_of" = true)
    (k_parts_of : PySem.W.keepIn K (.ref f_parts_of) = true)
    (a_words_of : PySem.W.nsIn K mainGlobals "words_of" = some (some (.ref f_words_of)))
    (l_words_of : K.lookup f_words_of = some ⟨oc_words_of, od_words_of, .func (PySem.W.fnOf "words_of" "words_of" (defArgs s_words_of) (defBody s_words_of) (defScope s_words_of) .none kV_words_of dc_words_of pm_words_of an_words_of cd_words_of ct_words_of), sl_words_of⟩)
    (e_words_of : PySem.W.codeIn K cd_words_of "words_of" = true)
    (k_words_of : PySem.W.keepIn K (.ref f_words_of) = true)
    (a__law_cell : PySem.W.nsIn K mainGlobals "_law_cell" = some (some (.ref f__law_cell)))
    (l__law_cell : K.lookup f__law_cell = some ⟨oc__law_cell, od__law_cell, .func (PySem.W.fnOf "_law_cell" "_law_cell" (defArgs s__law_cell) (defBody s__law_cell) (defScope s__law_cell) .none kV__law_cell dc__law_cell pm__law_cell an__law_cell cd__law_cell ct__law_cell), sl__law_cell⟩)
    (e__law_cell : PySem.W.codeIn K cd__law_cell "_law_cell" = true)
    (k__law_cell : PySem.W.keepIn K (.ref f__law_cell) = true)
    (a__law_word : PySem.W.nsIn K mainGlobals "_law_word" = some (some (.ref f__law_word)))
    (l__law_word : K.lookup f__law_word = some ⟨oc__law_word, od__law_word, .func (PySem.W.fnOf "_law_word" "_law_word" (defArgs s__law_word) (defBody s__law_word) (defScope s__law_word) .none kV__law_word dc__law_word pm__law_word an__law_word cd__law_word ct__law_word), sl__law_word⟩)
    (e__law_word : PySem.W.codeIn K cd__law_word "_law_word" = true)
    (k__law_word : PySem.W.keepIn K (.ref f__law_word) = true)
    (a__law_printable : PySem.W.nsIn K mainGlobals "_law_printable" = some (some (.ref f__law_printable)))
    (l__law_printable : K.lookup f__law_printable = some ⟨oc__law_printable, od__law_printable, .func (PySem.W.fnOf "_law_printable" "_law_printable" (defArgs s__law_printable) (defBody s__law_printable) (defScope s__law_printable) .none kV__law_printable dc__law_printable pm__law_printable an__law_printable cd__law_printable ct__law_printable), sl__law_printable⟩)
    (e__law_printable : PySem.W.codeIn K cd__law_printable "_law_printable" = true)
    (k__law_printable : PySem.W.keepIn K (.ref f__law_printable) = true)
    (a__law_all_in : PySem.W.nsIn K mainGlobals "_law_all_in" = some (some (.ref f__law_all_in)))
    (l__law_all_in : K.lookup f__law_all_in = some ⟨oc__law_all_in, od__law_all_in, .func (PySem.W.fnOf "_law_all_in" "_law_all_in" (defArgs s__law_all_in) (defBody s__law_all_in) (defScope s__law_all_in) .none kV__law_all_in dc__law_all_in pm__law_all_in an__law_all_in cd__law_all_in ct__law_all_in), sl__law_all_in⟩)
    (e__law_all_in : PySem.W.codeIn K cd__law_all_in "_law_all_in" = true)
    (k__law_all_in : PySem.W.keepIn K (.ref f__law_all_in) = true)
    (a__law_piece : PySem.W.nsIn K mainGlobals "_law_piece" = some (some (.ref f__law_piece)))
    (l__law_piece : K.lookup f__law_piece = some ⟨oc__law_piece, od__law_piece, .func (PySem.W.fnOf "_law_piece" "_law_piece" (defArgs s__law_piece) (defBody s__law_piece) (defScope s__law_piece) .none kV__law_piece dc__law_piece pm__law_piece an__law_piece cd__law_piece ct__law_piece), sl__law_piece⟩)
    (e__law_piece : PySem.W.codeIn K cd__law_piece "_law_piece" = true)
    (k__law_piece : PySem.W.keepIn K (.ref f__law_piece) = true)
    (a__law_built : PySem.W.nsIn K mainGlobals "_law_built" = some (some (.ref f__law_built)))
    (l__law_built : K.lookup f__law_built = some ⟨oc__law_built, od__law_built, .func (PySem.W.fnOf "_law_built" "_law_built" (defArgs s__law_built) (defBody s__law_built) (defScope s__law_built) .none kV__law_built dc__law_built pm__law_built an__law_built cd__law_built ct__law_built), sl__law_built⟩)
    (e__law_built : PySem.W.codeIn K cd__law_built "_law_built" = true)
    (k__law_built : PySem.W.keepIn K (.ref f__law_built) = true)
    (a__law_due : PySem.W.nsIn K mainGlobals "_law_due" = some (some (.ref f__law_due)))
    (l__law_due : K.lookup f__law_due = some ⟨oc__law_due, od__law_due, .func (PySem.W.fnOf "_law_due" "_law_due" (defArgs s__law_due) (defBody s__law_due) (defScope s__law_due) .none kV__law_due dc__law_due pm__law_due an__law_due cd__law_due ct__law_due), sl__law_due⟩)
    (e__law_due : PySem.W.codeIn K cd__law_due "_law_due" = true)
    (k__law_due : PySem.W.keepIn K (.ref f__law_due) = true)
    (a__law_raises_base : PySem.W.nsIn K mainGlobals "_law_raises_base" = some (some (.ref f__law_raises_base)))
    (l__law_raises_base : K.lookup f__law_raises_base = some ⟨oc__law_raises_base, od__law_raises_base, .func (PySem.W.fnOf "_law_raises_base" "_law_raises_base" (defArgs s__law_raises_base) (defBody s__law_raises_base) (defScope s__law_raises_base) .none kV__law_raises_base dc__law_raises_base pm__law_raises_base an__law_raises_base cd__law_raises_base ct__law_raises_base), sl__law_raises_base⟩)
    (e__law_raises_base : PySem.W.codeIn K cd__law_raises_base "_law_raises_base" = true)
    (k__law_raises_base : PySem.W.keepIn K (.ref f__law_raises_base) = true)
    (a_law : PySem.W.nsIn K mainGlobals "law" = some (some (.ref f_law)))
    (l_law : K.lookup f_law = some ⟨oc_law, od_law, .func (PySem.W.fnOf "law" "law" (defArgs s_law) (defBody s_law) (defScope s_law) .none kV_law dc_law pm_law an_law cd_law ct_law), sl_law⟩)
    (e_law : PySem.W.codeIn K cd_law "law" = true)
    (k_law : PySem.W.keepIn K (.ref f_law) = true)
    (xa_LedgerError : PySem.W.nsIn K mainGlobals "LedgerError" = some (some (.ref C_LedgerError)))
    (xe_LedgerError : PySem.W.excIn K C_LedgerError [.type "ValueError", .type "Exception", .type "BaseException", .type "object"] "ValueError.__new__" = true)
    (xk_LedgerError : PySem.W.keepIn K (.ref C_LedgerError) = true)
    (xb_LedgerError : PySem.W.subIn K (.ref C_LedgerError) (.type "BaseException") = some true)
    (xt_LedgerError : PySem.W.typeIn K (.ref C_LedgerError) = some (.type "type"))
    (xh_LedgerError : PySem.W.hasDictIn K C_LedgerError = true)
    (xa_BadCommand : PySem.W.nsIn K mainGlobals "BadCommand" = some (some (.ref C_BadCommand)))
    (xl_BadCommand : K.lookup C_BadCommand = some (excClassObj nm_BadCommand qn_BadCommand C_BadCommand NN_BadCommand bs_BadCommand bm_BadCommand true sn_BadCommand sub_BadCommand ab_BadCommand col_BadCommand dd_BadCommand m0_BadCommand m1_BadCommand m2_BadCommand m3_BadCommand m5_BadCommand "ValueError.__new__"))
    (xr_BadCommand : PySem.HandSPX.refsVE bm_BadCommand = true)
    (xs_BadCommand : PySem.W.findIn K (.ref C_BadCommand) "__setattr__" = some (some (.builtin "object.__setattr__")))
    (xk_BadCommand : PySem.W.keepIn K (.ref C_BadCommand) = true)
    (xb_BadCommand : PySem.W.subIn K (.ref C_BadCommand) (.type "BaseException") = some true)
    (xt_BadCommand : PySem.W.typeIn K (.ref C_BadCommand) = some (.type "type"))
    (xh_BadCommand : PySem.W.hasDictIn K C_BadCommand = true)
    (xg_BadCommand : PySem.W.findIn K (.ref C_BadCommand) "__getattribute__" = some (some (.builtin "BaseException.__getattribute__")))
    (xq_BadCommand : PySem.W.findIn K (.ref C_BadCommand) "__getattr__" = some none)
    (xn_BadCommand_reason : PySem.W.findIn K (.ref C_BadCommand) "reason" = some none)
    (xn_BadCommand_statement : PySem.W.findIn K (.ref C_BadCommand) "statement" = some none)
    (a_BadCommand____init__ : PySem.W.findIn K (.ref C_BadCommand) "__init__" = some (some (.ref f_BadCommand____init__)))
    (ty_BadCommand____init__ : PySem.W.typeIn K (.ref f_BadCommand____init__) = some (.type "function"))
    (l_BadCommand____init__ : K.lookup f_BadCommand____init__ = some ⟨oc_BadCommand____init__, od_BadCommand____init__, .func (PySem.W.fnOf "__init__" "BadCommand.__init__" (defArgs s_BadCommand____init__) (defBody s_BadCommand____init__) (defScope s_BadCommand____init__) .none kV_BadCommand____init__ dc_BadCommand____init__ pm_BadCommand____init__ an_BadCommand____init__ cd_BadCommand____init__ ct_BadCommand____init__), sl_BadCommand____init__⟩)
    (e_BadCommand____init__ : PySem.W.codeIn K cd_BadCommand____init__ "BadCommand.__init__" = true)
    (k_BadCommand____init__ : PySem.W.keepIn K (.ref f_BadCommand____init__) = true)
    (ehg_BadCommand : PySem.W.findIn K (.ref C_BadCommand) "__getattribute__" = some (some (.builtin "BaseException.__getattribute__")))
    (ehk_BadCommand : PySem.W.findIn K (.ref C_BadCommand) "__getattr__" = some none)
    (eha_BadCommand : PySem.W.findIn K (.ref C_BadCommand) "__class__" = some (some (.builtin "object.__class__")))
    (ehm_BadCommand : PySem.W.mroIn K C_BadCommand (.type "object") = some true)
    (ehn_BadCommand : PySem.W.specialIn K (.builtin "object.__class__") "__get__" = some (some (.builtin "getset_descriptor.__get__")))
    (eht_BadCommand : PySem.W.takesIn K (.builtin "object.__class__") = some true)
    (skt_BadCommand_ValueError : PySem.W.subIn K (.ref C_BadCommand) (.type "ValueError") = some true)
    (u_BadCommand_BadCommand : PySem.W.subIn K (.ref C_BadCommand) (.ref C_BadCommand) = some true)
    (u_BadCommand_LedgerError : PySem.W.subIn K (.ref C_BadCommand) (.ref C_LedgerError) = some true)
    (a_MOST_TEXT : PySem.W.nsIn K mainGlobals "MOST_TEXT" = some (some (.int 240 t_MOST_TEXT)))
    (z_ValueError : PySem.W.nsIn K mainGlobals "ValueError" = some none)
    (z_enumerate : PySem.W.nsIn K mainGlobals "enumerate" = some none)
    (z_int : PySem.W.nsIn K mainGlobals "int" = some none)
    (z_isinstance : PySem.W.nsIn K mainGlobals "isinstance" = some none)
    (z_len : PySem.W.nsIn K mainGlobals "len" = some none)
    (z_list : PySem.W.nsIn K mainGlobals "list" = some none)
    (z_max : PySem.W.nsIn K mainGlobals "max" = some none)
    (z_min : PySem.W.nsIn K mainGlobals "min" = some none)
    (z_range : PySem.W.nsIn K mainGlobals "range" = some none)
    (z_str : PySem.W.nsIn K mainGlobals "str" = some none)
    (z_tuple : PySem.W.nsIn K mainGlobals "tuple" = some none) : Txt K mg C_LedgerError C_BadCommand :=
  { d_is_printable := ⟨_, _, (fun_mk l_is_printable e_is_printable k_is_printable), PySem.W.mg_of X G a_is_printable, ((fun_mk (st := s_is_printable) l_is_printable e_is_printable k_is_printable).binds (ps := ["value"]) fun _ _ _ _ _ _ us hl => match us, hl with | [_], _ => rfl)⟩,
    d_statements := ⟨_, _, (fun_mk l_statements e_statements k_statements), PySem.W.mg_of X G a_statements, ((fun_mk (st := s_statements) l_statements e_statements k_statements).binds (ps := ["text"]) fun _ _ _ _ _ _ us hl => match us, hl with | [_], _ => rfl)⟩,
    d_parts_of := ⟨_, _, (fun_mk l_parts_of e_parts_of k_parts_of), PySem.W.mg_of X G a_parts_of, ((fun_mk (st := s_parts_of) l_parts_of e_parts_of k_parts_of).binds (ps := ["text"]) fun _ _ _ _ _ _ us hl => match us, hl with | [_], _ => rfl)⟩,
    d_words_of := ⟨_, _, (fun_mk l_words_of e_words_of k_words_of), PySem.W.mg_of X G a_words_of, ((fun_mk (st := s_words_of) l_words_of e_words_of k_words_of).binds (ps := ["part", "index"]) fun _ _ _ _ _ _ us hl => match us, hl with | [_, _], _ => rfl)⟩,
    d__law_cell := ⟨_, _, (fun_mk l__law_cell e__law_cell k__law_cell), PySem.W.mg_of X G a__law_cell, ((fun_mk (st := s__law_cell) l__law_cell e__law_cell k__law_cell).binds (ps := ["script", "k"]) fun _ _ _ _ _ _ us hl => match us, hl with | [_, _], _ => rfl)⟩,
    d__law_word := ⟨_, _, (fun_mk l__law_word e__law_word k__law_word), PySem.W.mg_of X G a__law_word, ((fun_mk (st := s__law_word) l__law_word e__law_word k__law_word).binds (ps := ["size", "chars", "seed", "step"]) fun _ _ _ _ _ _ us hl => match us, hl with | [_, _, _, _], _ => rfl)⟩,
    d__law_printable := ⟨_, _, (fun_mk l__law_printable e__law_printable k__law_printable), PySem.W.mg_of X G a__law_printable, ((fun_mk (st := s__law_printable) l__law_printable e__law_printable k__law_printable).binds (ps := []) fun _ _ _ _ _ _ us hl => match us, hl with | [], _ => rfl)⟩,
    d__law_all_in := ⟨_, _, (fun_mk l__law_all_in e__law_all_in k__law_all_in), PySem.W.mg_of X G a__law_all_in, ((fun_mk (st := s__law_all_in) l__law_all_in e__law_all_in k__law_all_in).binds (ps := ["word", "chars"]) fun _ _ _ _ _ _ us hl => match us, hl with | [_, _], _ => rfl)⟩,
    d__law_piece := ⟨_, _, (fun_mk l__law_piece e__law_piece k__law_piece), PySem.W.mg_of X G a__law_piece, ((fun_mk (st := s__law_piece) l__law_piece e__law_piece k__law_piece).binds (ps := ["cell"]) fun _ _ _ _ _ _ us hl => match us, hl with | [_], _ => rfl)⟩,
    d__law_built := ⟨_, _, (fun_mk l__law_built e__law_built k__law_built), PySem.W.mg_of X G a__law_built, ((fun_mk (st := s__law_built) l__law_built e__law_built k__law_built).binds (ps := ["script"]) fun _ _ _ _ _ _ us hl => match us, hl with | [_], _ => rfl)⟩,
    d__law_due := ⟨_, _, (fun_mk l__law_due e__law_due k__law_due), PySem.W.mg_of X G a__law_due, ((fun_mk (st := s__law_due) l__law_due e__law_due k__law_due).binds (ps := ["text"]) fun _ _ _ _ _ _ us hl => match us, hl with | [_], _ => rfl)⟩,
    d__law_raises_base := ⟨_, _, (fun_mk l__law_raises_base e__law_raises_base k__law_raises_base), PySem.W.mg_of X G a__law_raises_base, ((fun_mk (st := s__law_raises_base) l__law_raises_base e__law_raises_base k__law_raises_base).binds (ps := ["text"]) fun _ _ _ _ _ _ us hl => match us, hl with | [_], _ => rfl)⟩,
    d_law := ⟨_, _, (fun_mk l_law e_law k_law), PySem.W.mg_of X G a_law, ((fun_mk (st := s_law) l_law e_law k_law).binds (ps := ["script"]) fun _ _ _ _ _ _ us hl => match us, hl with | [_], _ => rfl)⟩,
    x_LedgerError := ⟨xe_LedgerError, PySem.W.mg_of X G xa_LedgerError, xk_LedgerError, xb_LedgerError, xt_LedgerError, xh_LedgerError⟩,
    x_BadCommand := ⟨PySem.W.mg_of X G xa_BadCommand, ⟨⟨_, _, _, _, _, _, _, _, _, _, _, _, _, _, _, xl_BadCommand, xr_BadCommand⟩, xs_BadCommand, xb_BadCommand, xt_BadCommand, xk_BadCommand⟩, ⟨xg_BadCommand, xq_BadCommand, xb_BadCommand, xh_BadCommand⟩⟩,
    xn_BadCommand_reason := xn_BadCommand_reason,
    xn_BadCommand_statement := xn_BadCommand_statement,
    ei_BadCommand := ⟨_, _, a_BadCommand____init__, ty_BadCommand____init__, (fun_mk l_BadCommand____init__ e_BadCommand____init__ k_BadCommand____init__), ((fun_mk (st := s_BadCommand____init__) l_BadCommand____init__ e_BadCommand____init__ k_BadCommand____init__).binds (ps := ["self", "reason", "statement"]) fun _ _ _ _ _ _ us hl => match us, hl with | [_, _, _], _ => rfl)⟩,
    ec_BadCommand := ⟨ehg_BadCommand, ehk_BadCommand, xb_BadCommand, xh_BadCommand, eha_BadCommand, ehn_BadCommand, eht_BadCommand, ehm_BadCommand⟩,
    kt_BadCommand_ValueError := kit_tyB (by decide +kernel) skt_BadCommand_ValueError,
    u_BadCommand_BadCommand := u_BadCommand_BadCommand,
    u_BadCommand_LedgerError := u_BadCommand_LedgerError,
    c_MOST_TEXT := ⟨_, PySem.W.mg_of X G a_MOST_TEXT, _, rfl⟩,
    z_ValueError := PySem.W.mg_none_of X G z_ValueError,
    z_enumerate := PySem.W.mg_none_of X G z_enumerate,
    z_int := PySem.W.mg_none_of X G z_int,
    z_isinstance := PySem.W.mg_none_of X G z_isinstance,
    z_len := PySem.W.mg_none_of X G z_len,
    z_list := PySem.W.mg_none_of X G z_list,
    z_max := PySem.W.mg_none_of X G z_max,
    z_min := PySem.W.mg_none_of X G z_min,
    z_range := PySem.W.mg_none_of X G z_range,
    z_str := PySem.W.mg_none_of X G z_str,
    z_tuple := PySem.W.mg_none_of X G z_tuple }
end Law
open PySem PySem.W PyProof.Rows
set_option maxRecDepth 100000 in
set_option maxHeartbeats 0 in
theorem PySem.Challenge.cw_oathledger_k42_statements_of_a_text_holds : PySem.Challenge.rw_oathledger_k42_statements_of_a_text.Holds := by
  w_on; o_law; k_head; (case hw => w_witness2)
  k_fill
  refine L2.walk_of (l := PySem.Challenge.rw_oathledger_k42_statements_of_a_text) (n := 63) (k := 6) (x := "script") (CX := fun _ => L2.CX0) (sp := fun w => Law.spLaw _) rfl (by decide) rfl ⟨rfl, by decide, by decide⟩ (fun w h Y => PySem.W.kIn_of Y) ?F (fun _ _ a ns hl _ hS => ⟨a, ns, rfl, hS, hl, fun _ => rfl⟩) (fun _ _ _ _ _ h => h)
  case F =>
    intro w mg fa h KX G hmg
    refine' Law.fin hmg (Law.all_mk KX G ?a_is_printable ?l_is_printable ?e_is_printable ?k_is_printable ?a_statements ?l_statements ?e_statements ?k_statements ?a_parts_of ?l_parts_of ?e_parts_of ?k_parts_of ?a_words_of ?l_words_of ?e_words_of ?k_words_of ?a__law_cell ?l__law_cell ?e__law_cell ?k__law_cell ?a__law_word ?l__law_word ?e__law_word ?k__law_word ?a__law_printable ?l__law_printable ?e__law_printable ?k__law_printable ?a__law_all_in ?l__law_all_in ?e__law_all_in ?k__law_all_in ?a__law_piece ?l__law_piece ?e__law_piece ?k__law_piece ?a__law_built ?l__law_built ?e__law_built ?k__law_built ?a__law_due ?l__law_due ?e__law_due ?k__law_due ?a__law_raises_base ?l__law_raises_base ?e__law_raises_base ?k__law_raises_base ?a_law ?l_law ?e_law ?k_law ?xa_LedgerError ?xe_LedgerError ?xk_LedgerError ?xb_LedgerError ?xt_LedgerError ?xh_LedgerError ?xa_BadCommand ?xl_BadCommand ?xr_BadCommand ?xs_BadCommand ?xk_BadCommand ?xb_BadCommand ?xt_BadCommand ?xh_BadCommand ?xg_BadCommand ?xq_BadCommand ?xn_BadCommand_reason ?xn_BadCommand_statement ?a_BadCommand____init__ ?ty_BadCommand____init__ ?l_BadCommand____init__ ?e_BadCommand____init__ ?k_BadCommand____init__ ?ehg_BadCommand ?ehk_BadCommand ?eha_BadCommand ?ehm_BadCommand ?ehn_BadCommand ?eht_BadCommand ?skt_BadCommand_ValueError ?u_BadCommand_BadCommand ?u_BadCommand_LedgerError ?a_MOST_TEXT ?z_ValueError ?z_enumerate ?z_int ?z_isinstance ?z_len ?z_list ?z_max ?z_min ?z_range ?z_str ?z_tuple)
    (case a_is_printable => k_is)
    (case l_is_printable => k_is)
    (case e_is_printable => k_is)
    (case k_is_printable => k_is)
    (case a_statements => k_is)
    (case l_statements => k_is)
    (case e_statements => k_is)
    (case k_statements => k_is)
    (case a_parts_of => k_is)
    (case l_parts_of => k_is)
    (case e_parts_of => k_is)
    (case k_parts_of => k_is)
    (case a_words_of => k_is)
    (case l_words_of => k_is)
    (case e_words_of => k_is)
    (case k_words_of => k_is)
    (case a__law_cell => k_is)
    (case l__law_cell => k_is)
    (case e__law_cell => k_is)
    (case k__law_cell => k_is)
    (case a__law_word => k_is)
    (case l__law_word => k_is)
    (case e__law_word => k_is)
    (case k__law_word => k_is)
    (case a__law_printable => k_is)
    (case l__law_printable => k_is)
    (case e__law_printable => k_is)
    (case k__law_printable => k_is)
    (case a__law_all_in => k_is)
    (case l__law_all_in => k_is)
    (case e__law_all_in => k_is)
    (case k__law_all_in => k_is)
    (case a__law_piece => k_is)
    (case l__law_piece => k_is)
    (case e__law_piece => k_is)
    (case k__law_piece => k_is)
    (case a__law_built => k_is)
    (case l__law_built => k_is)
    (case e__law_built => k_is)
    (case k__law_built => k_is)
    (case a__law_due => k_is)
    (case l__law_due => k_is)
    (case e__law_due => k_is)
    (case k__law_due => k_is)
    (case a__law_raises_base => k_is)
    (case l__law_raises_base => k_is)
    (case e__law_raises_base => k_is)
    (case k__law_raises_base => k_is)
    (case a_law => k_is)
    (case l_law => k_is)
    (case e_law => k_is)
    (case k_law => k_is)
    (case xa_LedgerError => k_is)
    (case xe_LedgerError => first | k_is | k_exc)
    (case xk_LedgerError => k_is)
    (case xb_LedgerError => k_is)
    (case xt_LedgerError => k_is)
    (case xh_LedgerError => k_is)
    (case xa_BadCommand => k_is)
    (case xl_BadCommand => k_is)
    (case xr_BadCommand => decide +kernel)
    (case xs_BadCommand => k_is)
    (case xk_BadCommand => k_is)
    (case xb_BadCommand => k_is)
    (case xt_BadCommand => k_is)
    (case xh_BadCommand => k_is)
    (case xg_BadCommand => k_is)
    (case xq_BadCommand => k_is)
    (case xn_BadCommand_reason => k_is)
    (case xn_BadCommand_statement => k_is)
    (case a_BadCommand____init__ => k_is)
    (case ty_BadCommand____init__ => k_is)
    (case l_BadCommand____init__ => k_is)
    (case e_BadCommand____init__ => k_is)
    (case k_BadCommand____init__ => k_is)
    (case ehg_BadCommand => k_is)
    (case ehk_BadCommand => k_is)
    (case eha_BadCommand => k_is)
    (case ehm_BadCommand => k_is)
    (case ehn_BadCommand => k_is)
    (case eht_BadCommand => k_is)
    (case skt_BadCommand_ValueError => k_is)
    (case u_BadCommand_BadCommand => k_is)
    (case u_BadCommand_LedgerError => k_is)
    (case a_MOST_TEXT => k_is)
    (case z_ValueError => k_is)
    (case z_enumerate => k_is)
    (case z_int => k_is)
    (case z_isinstance => k_is)
    (case z_len => k_is)
    (case z_list => k_is)
    (case z_max => k_is)
    (case z_min => k_is)
    (case z_range => k_is)
    (case z_str => k_is)
    (case z_tuple => k_is)

