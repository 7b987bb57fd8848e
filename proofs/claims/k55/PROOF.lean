--@ins
--@isany
--@omega
--@obj accounts Accounts
--@obj store Store
--@obj state.accounts Accounts
--@obj state.store Store
--@obj state.sessions Sessions
--@obj self.accounts Accounts
--@obj self.store Store
--@obj self.sessions Sessions
--@obj state State
--@obj other State
import PyProof.Rows.All
import Wide.All
import OpenK.AllK
import Wide.FinOn
import HandS.ForMost
import HandS.Walk
import HandS.Flow
import HandS.Codes
import HandS.IsInst
import HandS.Conv
import HandS.StrMore
import PyProof.MeetsSeq2
import PyProof.DictTable
import HandS.Wide
import HandS.TupAny
import HandS.More
import HandS.Dict
import HandS.ForExc
import HandS.ExcIs
import HandS.ExcField
import HandS.DeepEq
import HandS.TupLe
import HandS.Steps
import HandS.ExcInit
import HandS.HotCalls
import HandS.TryMany
import HandS.FStr
import HandS.WideBits
import HandS.SortRule
import HandS.SortKw
import HandS.Keys
import KE.SortKeyHeap
import KE.DataMinMax
import KE.SortData
import HandS.RaiseMore
import HandS.Zip
import HandS.DictSubView
import HandS.Deep
import HandS.Sort
import HandS.SetKeys
import HandS.Strs
import HandS.SetFor
import HandS.DictComp
import HandS.Style
import HandS.StrSplit
import KE.GoesEnum
import PySem.Challenge.RW_oathledger_k55_whole_strangers_commute
set_option Elab.async false
set_option linter.all false
set_option maxRecDepth 100000
set_option maxHeartbeats 4000000
namespace Law
open PySem PySem.Spec PyProof.Rows L2
open C8 (Cal Met Mak pe_c pe_mk pe_mt pe_mt0 pe_gc pss_cut tCut)
/-! ### a def of the top, by its name -/
structure DefOk (K : PySem.W.Frag) (mg : Str → Option Value) (x : Str) (st : Stmt) (ps : List Str) : Prop where
  ex : ∃ (f : Addr) (fd : FuncData), L2.Fun K x x st f fd ∧ mg x = some (.ref f) ∧ Binds K fd ps []
section
variable {P : Program} {w : World} {K : PySem.W.Frag} {mg : Str → Option Value} {base : Heap}
/-- a def's promise, by its body -/
theorem cal {x : Str} {st : Stmt} {N ps : List Str} {k : Nat} {sp : Sp} (D : DefOk K mg x st ps) (S : FnScope N ps (defScope st)) (len : ∀ vs H Q E, sp vs H Q E → vs.length = ps.length)
    (hbody : ∀ (f : Addr) (cdv : Value) (A : Around) (outer : List Env) (s : Shared) (H : Hp) (vs : List V) (Q : VK) (E : XK), Room k (A.deeper (envOfC x (defScope st) s.heap.objs.size f cdv)) → sp vs H Q E →
      ∃ t, PSs (cxOf L2.CX0 P w K mg base N x (defScope st) f cdv A outer s H E).nox (defBody st) t ∧ t { nx := fun _ H' => Q .non H', rt := Q } (start N vs) H) : Cal P w K mg base (k + 1) x sp [] := by
  obtain ⟨f, fd, F, hm, b⟩ := D.ex
  exact ⟨f, fd, ps, [], F.ok S len (fun cdv A outer s H vs Q E hr h => hbody f cdv A outer s H vs Q E hr h), hm, F.kp, b, .nil⟩
/-- a call without arguments -/
theorem pe_c0 {X : Cx} {k j : Nat} {x : Str} {sp : Sp} {dvs : List V} {p pos : Pos} (c : Cal X.prog X.w X.K X.mg X.base k x sp dvs) (hr : Room j X.A) (hk : k ≤ j) (hg : Gl X x)
    (hdb : (x == ("__debug__" : Str)) = false := by decide) : PE X (.Call (.Name x p) [] [] pos) (tCall sp dvs L2.E0 tNil) := by
  obtain ⟨f, fd, ps, ds, F, hm, kp, b, d⟩ := c.ex
  exact pe_call0 F (hr.mono hk) hg hm kp b d pass0 hdb
end
/-! ### small things -/
theorem same_upd {H : Hp} {p : Addr} {o : HO} (h : H p = none) : Same H (upd H p o) := fun b x e => by
  rw [upd_ne (ne_of_none e h)]
  exact e
theorem same_mut {H H' : Hp} {p : Addr} {o : HO} (s : Same H H') (h : H p = none) : Same H (upd H' p o) := fun b x e => by
  rw [upd_ne (ne_of_none e h)]
  exact s b x e
theorem sz1000 {n : Nat} (h : n ≤ 100000) : n ≤ sizeLine := Nat.le_trans h (by decide)
theorem sz1000' {n : Nat} (h : n < 100000) : n < sizeLine := Nat.lt_of_lt_of_le h (by decide)
theorem sz1000'' {n : Nat} (h : n ≤ 16777216) : n ≤ sizeLine := by rw [sizeLine_eq]; exact h
theorem sq {K : PySem.W.Frag} {H : Hp} {a : Addr} {xs : List V} (h : H a = some (.lst xs)) : SqL K H a xs := .inl (.inl h)
def spLaw (K : PySem.W.Frag) : Sp := fun vs H Q _ => ∃ (a : Addr) (ns : List Int), vs = [.ref a] ∧ SqL K H a (ns.map V.int) ∧ ns.length ≤ 63 ∧ ∀ H', Q (.bl true) H'
/-! ### the reading, step by step -/
local macro_rules | `(tactic| walk_at "sd") => `(tactic| first
  | omega
  | decide
  | assumption
  | (show _ ∨ _; exact Or.inl ⟨by omega, by omega⟩)
  | (show _ ∨ _; exact Or.inr ⟨by omega, by omega⟩)
  | (show _ ∧ _; exact ⟨by omega, by omega⟩)
  | (show _ ∧ _; exact ⟨by decide, by decide⟩)
  | exact sz1000 (by omega)
  | exact sz1000' (by omega))
local macro_rules | `(tactic| walk_at "sz") => `(tactic| first
  | exact sz1000 (Nat.le_of_ble_eq_true rfl)
  | exact sz1000 (by omega)
  | exact sz1000'' (by omega)
  | assumption)
/-- one step of a reading: a slot, an operator upon numbers, a call upon values -/
local macro_rules | `(tactic| walk_at "rd") => `(tactic| first
  | refine ⟨_, (rfl : (_ : List (Option V))[_]? = some (some _)), ?_⟩
  | refine ⟨_, _, (rfl : (_ : V) = _), (rfl : (_ : V) = _), (by walk_at "sd" : (_ : Prop)), ?_⟩
  | refine ⟨_, _, (rfl : (_ : V) = _), (rfl : (_ : V) = _), ?_⟩
  | refine ⟨_, (rfl : (_ : List V) = _), (by walk_at "sd" : (_ : Prop)), (by walk_at "sd" : (_ : Prop)), ?_⟩
  | refine ⟨_, (rfl : (_ : List V) = _), ?_⟩
  | refine ⟨_, (rfl : (_ : V) = _), ?_⟩
  | refine .inl ⟨_, (rfl : (_ : List V) = _), ?_⟩
  | refine ⟨⟨_, (rfl : (_ : V) = _)⟩, ?_⟩
  | refine ⟨(rfl : scal _ _ = true), ?_⟩
  | refine ⟨(rfl : V.non = V.non), ?_⟩
  | refine ⟨(by walk_at "sz" : (_ ≤ sizeLine)), ?_⟩)
local macro_rules | `(tactic| walk_at "rds") => `(tactic| repeat walk_at "rd")
theorem tyes {σ : L2.St} {H : Hp} {A B : Hp → Prop} (h : A H) : tYes σ H (fun b H3 => if b = true then A H3 else B H3) := by
  show (if true = true then A H else B H)
  rw [if_pos rfl]
  exact h
theorem sum_ones {ys : List Str} (h : ∀ y ∈ ys, y.length = 1) : (ys.map (fun x => x.length)).sum = ys.length := by
  induction ys with
  | nil => rfl
  | cons y r ih =>
    rw [List.map_cons, List.sum_cons, ih (fun z hz => h z (List.mem_cons_of_mem _ hz)), h y List.mem_cons_self, List.length_cons]
    omega
theorem chr_at {z : Str} {i : Int} (h0 : 0 ≤ i) (h1 : i < z.length) : ∃ c, atI z.cps.toList i = some c := by
  obtain ⟨j, rfl⟩ := Int.eq_ofNat_of_zero_le h0
  have hj : j < z.cps.toList.length := by
    rw [Array.length_toList]
    exact Int.ofNat_lt.mp h1
  exact ⟨z.cps.toList[j], atI_nat (List.getElem?_eq_getElem hj)⟩
/-- what an append to a tracked new list leaves -/
theorem lst_app {α : Type} {H : Hp} {D : Addr} {f : α → V} {ys : List α} {y : α} : upd H D (.lst (ys.map f ++ [f y])) D = some (.lst ((ys ++ [y]).map f)) := by
  rw [upd_same, List.map_append]
  rfl
theorem rg40 {n : Nat} (h : n ≤ 100000) : RgC 0 n 40 ((n + 39) / 40) := by
  have e : Builtin.Range.rangeSize 0 (n : Int) 40 = (((n + 39) / 40 : Nat) : Int) := by
    rw [rangeSize_pos (by decide) (by omega)]
    omega
  refine ⟨by decide, by decide, ?_, e⟩
  unfold Builtin.Range.small
  rw [e]
  unfold Builtin.Range.rangeFitsLong
  simp
  omega
theorem isi {K : PySem.W.Frag} {H : Hp} {x : V} {T1 T2 : String} {b : Bool} {Q : VK} (ty : TyX K H x (.type T1)) (e : kitB T1 T2 = some b) (q : Q (.bl b) H) : rIsi K [x, .ty T2] H Q :=
  ⟨x, .ty T2, _, _, b, rfl, .ty _, ty, kit_ty e, q⟩
theorem ifT {c : Bool} {A B : Prop} (hc : c = true) (h : A) : if c = true then A else B := by
  rw [if_pos hc]
  exact h
theorem ifF {c : Bool} {A B : Prop} (hc : c = false) (h : B) : if c = true then A else B := by
  rw [if_neg (by rw [hc]; decide)]
  exact h
local macro_rules | `(tactic| walk_at "isk") => `(tactic| first
  | exact .base (.int _) | exact .base (.str _) | exact .base (.bl _) | exact .base .non
  | exact .base (.lst (by assumption)) | exact .base (.tup (by assumption)) | exact .base (.dK (by assumption)))
/-- isinstance(x, T) with a built-in T; the object's fact stands in the context -/
local macro_rules | `(tactic| walk_at "isi") => `(tactic| first
  | refine ⟨_, .ty _, _, _, true, (rfl : (_ : List V) = _), .ty _, (by walk_at "isk"), kit_ty (by decide +kernel), ?_⟩
  | refine ⟨_, .ty _, _, _, false, (rfl : (_ : List V) = _), .ty _, (by walk_at "isk"), kit_ty (by decide +kernel), ?_⟩)
/-! ### classes of the top -/
structure MethOk (K : PySem.W.Frag) (C : Addr) (m qual : Str) (st : Stmt) (ps : List Str) : Prop where
  ex : ∃ (f : Addr) (fd : FuncData), Meth K C m f ∧ L2.Fun K m qual st f fd ∧ Binds K fd ps []
structure MakOk (K : PySem.W.Frag) (C : Addr) (qual : Str) (st : Stmt) (ps : List Str) : Prop where
  ex : ∃ (f : Addr) (fd : FuncData), Mk K C f ∧ L2.Fun K "__init__" qual st f fd ∧ Binds K fd ps []
section
variable {P : Program} {w : World} {K : PySem.W.Frag} {mg : Str → Option Value} {base : Heap}
theorem met {C : Addr} {m qual : Str} {st : Stmt} {N ps : List Str} {k : Nat} {sp : Sp} (c : Cls K C) (D : MethOk K C m qual st ps) (S : FnScope N ps (defScope st)) (len : ∀ vs H Q E, sp vs H Q E → vs.length = ps.length)
    (hbody : ∀ (f : Addr) (cdv : Value) (A : Around) (outer : List Env) (s : Shared) (H : Hp) (vs : List V) (Q : VK) (E : XK), Room k (A.deeper (envOfC qual (defScope st) s.heap.objs.size f cdv)) → sp vs H Q E →
      ∃ t, PSs (cxOf L2.CX0 P w K mg base N qual (defScope st) f cdv A outer s H E).nox (defBody st) t ∧ t { nx := fun _ H' => Q .non H', rt := Q } (start N vs) H) : Met P w K mg base (k + 1) C m sp [] := by
  obtain ⟨f, fd, M, F, b⟩ := D.ex
  exact ⟨f, fd, ps, [], c, M, F.ok S len (fun cdv A outer s H vs Q E hr h => hbody f cdv A outer s H vs Q E hr h), b, .nil⟩
theorem mak {C : Addr} {x qual : Str} {st : Stmt} {N ps : List Str} {k : Nat} {sp : Sp} (hm : mg x = some (.ref C)) (D : MakOk K C qual st ps) (S : FnScope N ps (defScope st)) (len : ∀ vs H Q E, sp vs H Q E → vs.length = ps.length)
    (hbody : ∀ (f : Addr) (cdv : Value) (A : Around) (outer : List Env) (s : Shared) (H : Hp) (vs : List V) (Q : VK) (E : XK), Room k (A.deeper (envOfC qual (defScope st) s.heap.objs.size f cdv)) → sp vs H Q E →
      ∃ t, PSs (cxOf L2.CX0 P w K mg base N qual (defScope st) f cdv A outer s H E).nox (defBody st) t ∧ t { nx := fun _ H' => Q .non H', rt := Q } (start N vs) H) : Mak P w K mg base (k + 1) x C sp [] := by
  obtain ⟨f, fd, M, F, b⟩ := D.ex
  exact ⟨f, fd, ps, [], M, F.ok S len (fun cdv A outer s H vs Q E hr h => hbody f cdv A outer s H vs Q E hr h), hm, b, .nil⟩
end
/-- a tuple of the top, in the written part -/
def KTup (K : PySem.W.Frag) (a : Addr) (xs : List V) : Prop := ∃ o its n, K.lookup a = some o ∧ o.cls = Value.type "tuple" ∧ o.data = Data.seq its n ∧ its.size ≤ sizeLine ∧ Vals xs its.toList
theorem pe_mk0 {X : Cx} {k j : Nat} {x : Str} {C : Addr} {sp : Sp} {dvs : List V} {p pos : Pos} (c : Mak X.prog X.w X.K X.mg X.base k x C sp dvs) (hr : Room j X.A) (hk : k + 1 ≤ j) (hg : Gl X x)
    (hdb : (x == ("__debug__" : Str)) = false := by decide) : PE X (.Call (.Name x p) [] [] pos) (tMake C sp dvs L2.E0 tNil) := by
  obtain ⟨f, fd, ps, ds, M, F, hm, b, d⟩ := c.ex
  exact pe_make0 M F (hr.mono hk) hg hm b d pass0 hdb
/-! ### rules whose written part is named K (a comprehension's context is another one) -/
section
variable {X : Cx} {K : PySem.W.Frag}
theorem kin (h : X.K = K := by rfl) : OpR X (compareOp .In) (rIn K false) := by subst h; exact op_in_seq
theorem knin (h : X.K = K := by rfl) : OpR X (compareOp .NotIn) (rIn K true) := by subst h; exact op_notIn_seq
theorem kixl (h : X.K = K := by rfl) : IxR X (rIxL K) := by subst h; exact ix_list
theorem kixt (h : X.K = K := by rfl) : IxR X (rIxT K) := by subst h; exact ix_tup
theorem ksll (h : X.K = K := by rfl) : SlR X (rSlL K) := by subst h; exact sl_list
theorem kisi (h : X.K = K := by rfl) : CallR X (.builtin "isinstance") (rIsi K) := by subst h; exact call_isi
theorem kfld {o : Expr} {f : Str} {pos : Pos} {ta : TE} (he : PE X o ta) (hb : attributeBase o f X.env (eval o X.env) = eval o X.env := by rfl) (h : X.K = K := by rfl) : PE X (.Attribute o f pos) (tFld K ta f) := by subst h; exact pe_fld he hb
def rLenK (K : PySem.W.Frag) : List V → Hp → VK → Prop := fun xs H Q => ∃ p ys, xs = [.ref p] ∧ (SqL K H p ys ∨ SqT K H p ys) ∧ Q (.int ys.length) H
theorem klen (h : X.K = K := by rfl) : CallR X (.builtin "len") (rLenK K) := by subst h; exact call_len_seq
end
theorem hu1 {k : Nat} {A : Around} (hr : Room k A) : A.units + 1 < cLine := by have := hr.units; omega
section
variable {X : Cx}
theorem kdin {d : Addr} (h : ∃ es n, KDict X.K X.w d es n) : OpR X (compareOp .In) (fun x y H Q => ∃ (z : Str) (r : Option Value), x = .str z ∧ y = .ref d ∧ PySem.W.nsIn X.K d z = some r ∧ Q (.bl r.isSome) H) := by
  obtain ⟨es, n, D⟩ := h
  exact op_in_kd D
theorem kdnin {d : Addr} (h : ∃ es n, KDict X.K X.w d es n) : OpR X (compareOp .NotIn) (fun x y H Q => ∃ (z : Str) (r : Option Value), x = .str z ∧ y = .ref d ∧ PySem.W.nsIn X.K d z = some r ∧ Q (.bl (!r.isSome)) H) := by
  obtain ⟨es, n, D⟩ := h
  exact op_notIn_kd D
end
theorem kgtup {X : Cx} {K : PySem.W.Frag} {es : List Expr} {k : Nat} {t : TGs} {n : Nat} {pos : Pos} (hc : X.calm = true) (h : PGs X es t)
    (hn : (assignEach es X.env).length = n := by rfl) (hst : (assignEach es X.env).findIdx? (·.1) = none := by rfl) (hK : X.K = K := by rfl) : PG X (.Tuple es k pos) (gTup K n t) := by subst hK; exact pg_tup hc h hn hst
theorem hu65 {A : Around} {k : Nat} (hr : Room k A) : A.units + 65 < cLine := by have := hr.un; omega
theorem keqD {X : Cx} {K : PySem.W.Frag} (hu : X.A.units + 64 < cLine) (h : X.K = K := by rfl) : OpR X (compareOp .Eq) (rEqD K) := by subst h; exact op_eqD hu
theorem kneD {X : Cx} {K : PySem.W.Frag} (hu : X.A.units + 64 < cLine) (h : X.K = K := by rfl) : OpR X (compareOp .NotEq) (rNeD K) := by subst h; exact op_neD hu

/-! ### defs that raise own exceptions -/
theorem kit_tyB {K : PySem.W.Frag} {B : Addr} {T : String} (hm : PySem.W.kitMeta T = true) (h : PySem.W.subIn K (.ref B) (.type T) = some true) : PySem.W.kitOne K (.ref B) (.type T) = some true := by
  unfold PySem.W.kitOne
  rw [if_neg (by rw [show ((Value.ref B : Value) == .type T) = false from rfl]; exact Bool.false_ne_true)]
  show (if PySem.W.kitMeta T = true then PySem.W.subIn K (.ref B) (.type T) else none) = some true
  rw [if_pos hm]; exact h
theorem kit_own {K : PySem.W.Frag} {B C : Addr} (h1 : PySem.W.subIn K (.ref C) (.type "BaseException") = some true) (h2 : PySem.W.typeIn K (.ref C) = some (.type "type")) (h3 : PySem.W.subIn K (.ref B) (.ref C) = some true) : PySem.W.kitOne K (.ref B) (.ref C) = some true := by
  have h0 : (PySem.W.clsIn K C).isSome = true := by
    have h1 : PySem.W.mroIn K C (.type "BaseException") = some true := h1
    unfold PySem.W.mroIn at h1
    cases e : PySem.W.clsIn K C with
    | some _ => rfl
    | none => rw [e] at h1; cases h1
  unfold PySem.W.kitOne
  split
  · rfl
  · show (if ((PySem.W.clsIn K C).isSome && PySem.W.typeIn K (.ref C) == some (.type "type")) = true then PySem.W.subIn K (.ref B) (.ref C) else none) = some true
    rw [h0, h2, h3]
    rfl
section
variable {X : Cx}
/-- C() of an own exception class without an __init__ of its own -/
theorem pmk_own0 {x : Str} {C : Addr} {bmB : List Value} {B newId initId : String} {p pos : Pos} (F : ExcBaseFacts B newId initId bmB) (q : PySem.W.excIn X.K C bmB newId = true) (gC : X.mg x = some (.ref C)) (kC : PySem.W.keepIn X.K (.ref C) = true) (r : Raises X (.ref C)) (hg : Gl X x)
    (hdb : (x == ("__debug__" : Str)) = false := by decide) : PMk X (.Call (.Name x p) [] [] pos) (fun _ H Q => Q (.ref C) none H) := by
  intro pins s σ H Q I h
  refine wpAny_Call_Name_kw (ld_glob I hg gC ?_ hdb)
  refine PySem.W.callWith_K0 I.kIn kC ?_
  show wpAny _ _ (call (.ref C) []) _ _ _
  obtain ⟨bm, N, nm, qn, bs, hdct, sn, sub, ab, col, dd, k0, k1, k2, k3, k5, mN, hC, hN, hni, T⟩ := exc_obj I.kIn q
  refine wpAny_call_exc_subT F T hC hN hni (fun h' e hm => ?_) (Nat.zero_le _)
  exact mk_of I hm r h (I.hok.gone hm.new)
end
/-- an own exception class over ValueError -/
structure ExOk (K : PySem.W.Frag) (mg : Str → Option Value) (x : Str) (C : Addr) : Prop where
  ex : PySem.W.excIn K C [.type "ValueError", .type "Exception", .type "BaseException", .type "object"] "ValueError.__new__" = true
  g : mg x = some (.ref C)
  kp : PySem.W.keepIn K (.ref C) = true
  bp : PySem.W.subIn K (.ref C) (.type "BaseException") = some true
  tp : PySem.W.typeIn K (.ref C) = some (.type "type")
  hd : PySem.W.hasDictIn K C = true
theorem ExOk.exm {K : PySem.W.Frag} {mg : Str → Option Value} {x : Str} {C : Addr} {cls : Value} {b : Bool} (e : ExOk K mg x C) (h : PySem.W.subIn K cls (.ref C) = some b) : PySem.W.exmOne K cls (.ref C) = some b := PySem.W.exm_ref e.bp e.hd e.tp h
theorem pmk_ok {X : Cx} {x : Str} {C : Addr} {p pos : Pos} (e : ExOk X.K X.mg x C) (hg : Gl X x) (hdb : (x == ("__debug__" : Str)) = false := by decide) : PMk X (.Call (.Name x p) [] [] pos) (fun _ H Q => Q (.ref C) none H) :=
  pmk_own0 PySem.F.excBase_ValueError e.ex e.g e.kp (raises_own e.bp e.tp) hg hdb
/-! the promises of such defs -/
structure CalX (P : Program) (w : World) (K : PySem.W.Frag) (mg : Str → Option Value) (base : Heap) (k : Nat) (x : Str) (sp : Sp) : Prop where
  ex : ∃ (f : Addr) (fd : FuncData) (ps : List Str), FnOk P w K mg base (L2.CX P w) k f fd ps sp ∧ mg x = some (.ref f) ∧ PySem.W.keepIn K (.ref f) = true ∧ Binds K fd ps []
structure MetX (P : Program) (w : World) (K : PySem.W.Frag) (mg : Str → Option Value) (base : Heap) (k : Nat) (C : Addr) (m : Str) (sp : Sp) : Prop where
  ex : ∃ (f : Addr) (fd : FuncData) (ps : List Str), Cls K C ∧ Meth K C m f ∧ FnOk P w K mg base (L2.CX P w) k f fd ps sp ∧ Binds K fd ps []
structure MakX (P : Program) (w : World) (K : PySem.W.Frag) (mg : Str → Option Value) (base : Heap) (k : Nat) (x : Str) (C : Addr) (sp : Sp) : Prop where
  ex : ∃ (f : Addr) (fd : FuncData) (ps : List Str), Mk K C f ∧ FnOk P w K mg base (L2.CX P w) k f fd ps sp ∧ mg x = some (.ref C) ∧ Binds K fd ps []
section
variable {P : Program} {w : World} {K : PySem.W.Frag} {mg : Str → Option Value} {base : Heap}
theorem calX {x : Str} {st : Stmt} {N ps : List Str} {k : Nat} {sp : Sp} (D : DefOk K mg x st ps) (S : FnScope N ps (defScope st)) (len : ∀ vs H Q E, sp vs H Q E → vs.length = ps.length)
    (hbody : ∀ (f : Addr) (cdv : Value) (A : Around) (outer : List Env) (s : Shared) (H : Hp) (vs : List V) (Q : VK) (E : XK), Room k (A.deeper (envOfC x (defScope st) s.heap.objs.size f cdv)) → sp vs H Q E →
      ∃ t, PSs (cxOf (L2.CX P w) P w K mg base N x (defScope st) f cdv A outer s H E) (defBody st) t ∧ t { nx := fun _ H' => Q .non H', rt := Q } (start N vs) H) : CalX P w K mg base (k + 1) x sp := by
  obtain ⟨f, fd, F, hm, b⟩ := D.ex
  exact ⟨f, fd, ps, F.okX S len (fun cdv A outer s H vs Q E hr h => hbody f cdv A outer s H vs Q E hr h), hm, F.kp, b⟩
theorem metX {C : Addr} {m qual : Str} {st : Stmt} {N ps : List Str} {k : Nat} {sp : Sp} (c : Cls K C) (D : MethOk K C m qual st ps) (S : FnScope N ps (defScope st)) (len : ∀ vs H Q E, sp vs H Q E → vs.length = ps.length)
    (hbody : ∀ (f : Addr) (cdv : Value) (A : Around) (outer : List Env) (s : Shared) (H : Hp) (vs : List V) (Q : VK) (E : XK), Room k (A.deeper (envOfC qual (defScope st) s.heap.objs.size f cdv)) → sp vs H Q E →
      ∃ t, PSs (cxOf (L2.CX P w) P w K mg base N qual (defScope st) f cdv A outer s H E) (defBody st) t ∧ t { nx := fun _ H' => Q .non H', rt := Q } (start N vs) H) : MetX P w K mg base (k + 1) C m sp := by
  obtain ⟨f, fd, M, F, b⟩ := D.ex
  exact ⟨f, fd, ps, c, M, F.okX S len (fun cdv A outer s H vs Q E hr h => hbody f cdv A outer s H vs Q E hr h), b⟩
theorem makX {C : Addr} {x qual : Str} {st : Stmt} {N ps : List Str} {k : Nat} {sp : Sp} (hm : mg x = some (.ref C)) (D : MakOk K C qual st ps) (S : FnScope N ps (defScope st)) (len : ∀ vs H Q E, sp vs H Q E → vs.length = ps.length)
    (hbody : ∀ (f : Addr) (cdv : Value) (A : Around) (outer : List Env) (s : Shared) (H : Hp) (vs : List V) (Q : VK) (E : XK), Room k (A.deeper (envOfC qual (defScope st) s.heap.objs.size f cdv)) → sp vs H Q E →
      ∃ t, PSs (cxOf (L2.CX P w) P w K mg base N qual (defScope st) f cdv A outer s H E) (defBody st) t ∧ t { nx := fun _ H' => Q .non H', rt := Q } (start N vs) H) : MakX P w K mg base (k + 1) x C sp := by
  obtain ⟨f, fd, M, F, b⟩ := D.ex
  exact ⟨f, fd, ps, M, F.okX S len (fun cdv A outer s H vs Q E hr h => hbody f cdv A outer s H vs Q E hr h), hm, b⟩
end
/-! their calls: E tells at the slots what is wished of an error -/
section
variable {X : Cx} {k j : Nat} {C : Addr} {x m : Str} {sp : Sp} {p pos apos : Pos} {e o : Expr} {es : List Expr} {ta : TE} {t : TA} {E : L2.St → XK}
theorem pe_cX (c : CalX X.prog X.w X.K X.mg X.base k x sp) (hr : Room j X.A) (hk : k ≤ j) (hg : Gl X x) (hx : ∀ σ, PassesAt (L2.CX X.prog X.w) X σ (E σ)) (ha : PA X (e :: es) t)
    (hdb : (x == ("__debug__" : Str)) = false := by decide) (he : starEach (e :: es) X.env = (false, eval e X.env) :: starEach es X.env := by rfl) (hpl : (backTo pos (starEach es X.env)).any (·.1) = false := by rfl) :
    PE X (.Call (.Name x p) (e :: es) [] pos) (tCallS sp E t) := by
  obtain ⟨f, fd, ps, F, hm, kp, b⟩ := c.ex
  exact pe_callS F (hr.mono hk) hg hm kp b hx ha hdb he hpl
/-- where nothing is raised -/
theorem pe_cXn (c : CalX X.prog X.w X.K X.mg X.base k x sp) (hr : Room j X.A) (hk : k ≤ j) (hg : Gl X x) (ha : PA X (e :: es) t)
    (hdb : (x == ("__debug__" : Str)) = false := by decide) (he : starEach (e :: es) X.env = (false, eval e X.env) :: starEach es X.env := by rfl) (hpl : (backTo pos (starEach es X.env)).any (·.1) = false := by rfl) :
    PE X (.Call (.Name x p) (e :: es) [] pos) (tCall sp [] L2.E0 t) := by
  obtain ⟨f, fd, ps, F, hm, kp, b⟩ := c.ex
  exact pe_call F (hr.mono hk) hg hm kp b .nil passL ha hdb he hpl
def tMethX (C : Addr) (m : Str) (sp : Sp) (E : L2.St → XK) (ta : TE) (t : TA) : TE := fun σ H Q => ta σ H fun x H1 => ∃ a dx fs, x = .ref a ∧ H1 a = some (.ins C dx fs) ∧ fs.lookup m = none ∧ t σ H1 fun vs H2 => sp (.ref a :: vs) H2 Q (E σ)
theorem pe_mtX {pl : Sem Bool} (c : MetX X.prog X.w X.K X.mg X.base k C m sp) (hr : Room j X.A) (hk : k ≤ j) (hx : ∀ σ, PassesAt (L2.CX X.prog X.w) X σ (E σ)) (he : PE X o ta) (ha : PA X (e :: es) t)
    (hst : starEach (e :: es) X.env = (false, eval e X.env) :: starEach es X.env := by rfl) (hpl : (backTo pos (starEach es X.env)).any (·.1) = false := by rfl)
    (ht : eval (.Call (.Attribute o m apos) (e :: es) [] pos) X.env = (do
      let ov ← eval o X.env
      standAt apos.atName
      let (f, first) ← holding [ov] (getMethod ov m pl)
      callWith pos f first (backTo pos (starEach (e :: es) X.env)) (backToKw pos (keywordEach [] X.env))) := by rfl) :
    PE X (.Call (.Attribute o m apos) (e :: es) [] pos) (tMethX C m sp E ta t) := by
  obtain ⟨f, fd, ps, hc, hm, F, b⟩ := c.ex
  refine ⟨fun pins s σ H Q I h => ?_⟩
  refine PySem.W.methodCall_KW (pl := pl) (thn (he.run pins s σ H _ I h) fun u s1 ⟨x, H1, I1, rx, a, dx, fs, ex, ea, l, q⟩ => ?_) ht
  subst ex
  obtain rfl : u = Value.ref a := rx
  refine getmeth_ok I1 ea hc hm l ?_
  refine PySem.W.callWith_K (first := [.ref a]) (h₀ := X.base) I.ok.mod.kin hm.kp (thn (ha.run pos pins s1 σ H1 _ I1 q) fun us s2 ⟨vs, H2, I2, r, q2⟩ => ⟨I2.kIn, ?_⟩) hst hpl
  exact run_fnS (us := .ref a :: us) (vs := .ref a :: vs) F (hr.mono hk) b (hx σ) I2 (.cons rfl r) q2
theorem pe_mtX0 {pl : Sem Bool} (c : MetX X.prog X.w X.K X.mg X.base k C m sp) (hr : Room j X.A) (hk : k ≤ j) (hx : ∀ σ, PassesAt (L2.CX X.prog X.w) X σ (E σ)) (he : PE X o ta)
    (ht : eval (.Call (.Attribute o m apos) [] [] pos) X.env = (do
      let ov ← eval o X.env
      standAt apos.atName
      let (f, first) ← holding [ov] (getMethod ov m pl)
      callWith pos f first (backTo pos (starEach [] X.env)) (backToKw pos (keywordEach [] X.env))) := by rfl) :
    PE X (.Call (.Attribute o m apos) [] [] pos) (tMethX C m sp E ta tNil) := by
  obtain ⟨f, fd, ps, hc, hm, F, b⟩ := c.ex
  refine ⟨fun pins s σ H Q I h => ?_⟩
  refine PySem.W.methodCall_KW (pl := pl) (thn (he.run pins s σ H _ I h) fun u s1 ⟨x, H1, I1, rx, a, dx, fs, ex, ea, l, q⟩ => ?_) ht
  subst ex
  obtain rfl : u = Value.ref a := rx
  refine getmeth_ok I1 ea hc hm l ?_
  exact PySem.W.callWith_K0 (first := [.ref a]) I1.kIn hm.kp (run_fnS (us := [.ref a]) (vs := [.ref a]) F (hr.mono hk) b (hx σ) I1 (.cons rfl .nil) q)
def tMakeX (C : Addr) (sp : Sp) (E : L2.St → XK) (t : TA) : TE := fun σ H Q => t σ H fun vs H1 => ∀ x dx, H1 x = none → H1 dx = none → dx ≠ x → sp (.ref x :: vs) (upd (upd H1 dx (.own x)) x (.ins C dx [])) (fun v H2 => v = .non ∧ Q (.ref x) H2) (E σ)
theorem run_makeX {CX : CXT} {f : Addr} {fd : FuncData} {ps : List Str} {pins : List (Addr × Obj)} {σ : L2.St} {H : Hp} {s : Shared} {Q : VK} {us : List Value} {vs : List V} {Eσ : XK} (M : Mk X.K C f) (F : FnOk X.prog X.w X.K X.mg X.base CX k f fd ps sp) (hr : Room (k + 1) X.A) (hb : Binds X.K fd ps [])
    (hx : PassesAt CX X σ Eσ) (I : Inv X pins σ H s) (r : Vals vs us)
    (h : ∀ x dx, H x = none → H dx = none → dx ≠ x → sp (.ref x :: vs) (upd (upd H dx (.own x)) x (.ins C dx [])) (fun v H2 => v = .non ∧ Q (.ref x) H2) Eσ) :
    wpAny (model X.prog X.w) X.A (call (.ref C) us) (EP X pins σ Q) X.xe s := by
  have hq := h (s.heap.objs.size + 1) s.heap.objs.size (I.hok.fresh (Nat.le_succ _)) (I.hok.fresh (Nat.le_refl _)) (Nat.ne_of_lt (Nat.lt_succ_self _))
  have I2 := Inv.made (C := C) I
  have r2 : Vals (V.ref (s.heap.objs.size + 1) :: vs) (Value.ref (s.heap.objs.size + 1) :: us) := .cons rfl r
  have hl : (Value.ref (s.heap.objs.size + 1) :: us ++ ([] : List Value)).length = ps.length := by
    have e := r2.length
    rw [F.len _ _ _ _ hq] at e
    rw [List.append_nil]
    exact e.symm
  have hb' := hb _ (Value.ref (s.heap.objs.size + 1) :: us) I2.kIn hl
  rw [List.append_nil] at hb'
  refine wpAny_call (make_map (f := f) I.kIn M.makes M.init (beq_iff_eq.mp M.fn) (codeAny_mono (F.run _ X.stack _ _ ⟨Value.ref (s.heap.objs.size + 1) :: us, []⟩ (Value.ref (s.heap.objs.size + 1) :: us) _ _ Eσ (hr.make C us [])
    (I2.env0.make C us []) hb' r2 hq) fun r s' hq' => ?_))
  cases r with
  | error e => exact hx pins _ _ e s' I2 hq'
  | ok fl =>
    cases fl with
    | ret u =>
      obtain ⟨v, H', I3, rv, ev, q3⟩ := I2.after hq'
      subst ev
      exact ⟨rv, ⟨V.ref (s.heap.objs.size + 1), H', I3, rfl, q3⟩⟩
    | next => exact False.elim hq'
    | brk => exact False.elim hq'
    | cont => exact False.elim hq'
theorem pe_mkX (c : MakX X.prog X.w X.K X.mg X.base k x C sp) (hr : Room j X.A) (hk : k + 1 ≤ j) (hg : Gl X x) (hx : ∀ σ, PassesAt (L2.CX X.prog X.w) X σ (E σ)) (ha : PA X (e :: es) t)
    (hdb : (x == ("__debug__" : Str)) = false := by decide) (he : starEach (e :: es) X.env = (false, eval e X.env) :: starEach es X.env := by rfl) (hpl : (backTo pos (starEach es X.env)).any (·.1) = false := by rfl) :
    PE X (.Call (.Name x p) (e :: es) [] pos) (tMakeX C sp E t) := by
  obtain ⟨f, fd, ps, M, F, hm, b⟩ := c.ex
  refine ⟨fun pins s σ H Q I h => ?_⟩
  refine wpAny_Call_Name_kw (ld_glob I hg hm ?_ hdb)
  refine PySem.W.callWith_K (h₀ := X.base) I.ok.mod.kin M.kp (thn (ha.run pos pins s σ H _ I h) fun us s1 ⟨vs, H1, I1, r, q⟩ => ⟨I1.kIn, ?_⟩) he hpl
  exact run_makeX M F (hr.mono hk) b (hx σ) I1 r q
/-- where nothing is let out: for the calls above in a def without errors -/
theorem no_pass : ∀ σ : L2.St, PassesAt (L2.CX X.prog X.w) X σ ((fun _ => L2.E0) σ) := fun σ pins H s e s' I c => passL pins σ H s e s' I c
end
/-- a for's body that is one try: kept together, so that for_it can name it -/
def tBody (t : TS) : TS := t
theorem pss_body {X : Cx} {b : List Stmt} {t : TS} (h : PSs X b t) : PSs X b (tBody t) := h

/-! ### own exceptions with an __init__ of their own -/
structure ExI (K : PySem.W.Frag) (mg : Str → Option Value) (x : Str) (C : Addr) : Prop where
  g : mg x = some (.ref C)
  ox : OexC K C
  xf : XfC K C
theorem ExI.exm {K : PySem.W.Frag} {mg : Str → Option Value} {x : Str} {C : Addr} {cls : Value} {b : Bool} (e : ExI K mg x C) (h : PySem.W.subIn K cls (.ref C) = some b) : PySem.W.exmOne K cls (.ref C) = some b := PySem.W.exm_ref e.ox.exC e.xf.hdC e.ox.tyC h
structure ExInit (K : PySem.W.Frag) (C : Addr) (qual : Str) (st : Stmt) (ps : List Str) : Prop where
  ex : ∃ (f : Addr) (fd : FuncData), PySem.W.findIn K (.ref C) "__init__" = some (some (.ref f)) ∧ PySem.W.typeIn K (.ref f) = some (.type "function") ∧ L2.Fun K "__init__" qual st f fd ∧ Binds K fd ps []
structure ExMk (P : Program) (w : World) (K : PySem.W.Frag) (mg : Str → Option Value) (base : Heap) (k : Nat) (x : Str) (C : Addr) (sp : Sp) : Prop where
  ex : ∃ (f : Addr) (fd : FuncData) (ps : List Str), OexC K C ∧ PySem.W.findIn K (.ref C) "__init__" = some (some (.ref f)) ∧ PySem.W.typeIn K (.ref f) = some (.type "function") ∧ FnOk P w K mg base L2.CX0 k f fd ps sp ∧ Binds K fd ps [] ∧ mg x = some (.ref C)
section
variable {P : Program} {w : World} {K : PySem.W.Frag} {mg : Str → Option Value} {base : Heap}
theorem exmk {C : Addr} {x qual : Str} {st : Stmt} {N ps : List Str} {k : Nat} {sp : Sp} (e : ExI K mg x C) (D : ExInit K C qual st ps) (S : FnScope N ps (defScope st)) (len : ∀ vs H Q E, sp vs H Q E → vs.length = ps.length)
    (hbody : ∀ (f : Addr) (cdv : Value) (A : Around) (outer : List Env) (s : Shared) (H : Hp) (vs : List V) (Q : VK) (E : XK), Room k (A.deeper (envOfC qual (defScope st) s.heap.objs.size f cdv)) → sp vs H Q E →
      ∃ t, PSs (cxOf L2.CX0 P w K mg base N qual (defScope st) f cdv A outer s H E).nox (defBody st) t ∧ t { nx := fun _ H' => Q .non H', rt := Q } (start N vs) H) : ExMk P w K mg base (k + 1) x C sp := by
  obtain ⟨f, fd, h1, h2, F, b⟩ := D.ex
  exact ⟨f, fd, ps, e.ox, h1, h2, F.ok S len (fun cdv A outer s H vs Q E hr h => hbody f cdv A outer s H vs Q E hr h), b, e.g⟩
end
theorem pmk_ei {X : Cx} {k j : Nat} {x : Str} {C : Addr} {sp : Sp} {ta : TA} {p pos : Pos} {e : Expr} {es : List Expr} (c : ExMk X.prog X.w X.K X.mg X.base k x C sp) (hr : Room j X.A) (hk : k + 1 ≤ j) (hg : Gl X x) (ha : PA X (e :: es) ta)
    (hdb : (x == ("__debug__" : Str)) = false := by decide) (he : starEach (e :: es) X.env = (false, eval e X.env) :: starEach es X.env := by rfl) (hpl : (backTo pos (starEach es X.env)).any (·.1) = false := by rfl) :
    PMk X (.Call (.Name x p) (e :: es) [] pos) (tMkO C sp [] ta) := by
  obtain ⟨f, fd, ps, T, iC, tI, F1, hb, hm⟩ := c.ex
  exact pmk_oex T iC tI F1 (hr.mono hk) hb .nil pass0 hg hm ha hdb he hpl
/-- what an __init__ of two fields leaves -/
def spInit2 (C : Addr) (f g : Str) : Sp := fun vs H Q _ => ∃ (a : Addr) (r s : V), vs = [.ref a, r, s] ∧ H a = some (exo a C none) ∧
  ∀ d, H d = none → d ≠ a → Q .non (upd (upd (upd H d (exd d [(f, r)])) a (exo a C (some d))) d (exd d [(g, s), (f, r)]))
/-- its use where it is raised -/
theorem mk_two {C : Addr} {f g : Str} {H1 : Hp} {Q : XK} {r s : V} (q : ∀ H' d, Same H1 H' → H1 d = none → H' d = some (.xd [(g, s), (f, r)]) → Q (.ref C) (some d) H') :
    ([r, s] : List V).length ≤ 1000 ∧ ∀ a, H1 a = none → spInit2 C f g (.ref a :: ([r, s] ++ [])) (upd H1 a (exo a C none)) (fun v H2 => v = .non ∧ ∃ (d : Addr) (fs : List (Str × V)), H2 a = some (exo a C (some d)) ∧ H2 d = some (exd d fs) ∧ H1 d = none ∧ Q (.ref C) (some d) (upd (del H2 a) d (.xd fs))) (fun _ _ _ => False) := by
  refine ⟨by show 2 ≤ 1000; decide, fun a ha => ⟨a, r, s, rfl, upd_same, fun d hd hne => ⟨rfl, d, [(g, s), (f, r)], ?_, upd_same, ?_, q _ d ?_ ?_ upd_same⟩⟩⟩
  · rw [upd_ne hne.symm, upd_same]
  · rw [upd_ne hne] at hd; exact hd
  · intro b o e
    have hb : b ≠ d := fun z => by rw [z] at e; rw [upd_ne hne] at hd; rw [hd] at e; cases e
    have hba : b ≠ a := fun z => by rw [z, ha] at e; cases e
    rw [upd_ne hb, del_ne hba, upd_ne hb, upd_ne hba, upd_ne hb, upd_ne hba]
    exact e
  · rw [upd_ne hne] at hd; exact hd

/-! ### an exception out of a list comprehension -/
/-- behind the block: R of the new list (or its use), or the exception passed on from this frame -/
def LcEnd (P : Program) (w : World) (Ar : Around) (en : Env) (Xe : Value → Shared → Prop) (use : Option (Value → Sem Unit)) (Qf : Value → Shared → Prop) (D : Value) (C : Addr) : Result → Shared → Prop
  | .ok _, s5 => match use with
    | none => ∃ m, s5.heap.Ns C m ∧ ∀ h5, PySem.Heap.SameBut C s5.heap h5 → Qf D { s5 with heap := h5 }
    | some u => wpAny (model P w) Ar (u D) (fun _ s6 => ∃ m, s6.heap.Ns C m ∧ ∀ h6, PySem.Heap.SameBut C s6.heap h6 → Qf .none { s6 with heap := h6 }) Xe s5
  | .error x, s5 => ∃ m, s5.heap.Ns C m ∧ ∀ h5, PySem.Heap.SameBut C s5.heap h5 → wpAny (model P w) Ar (PySem.passOn "comprehension.variables-let-go" x en : Sem Value) Qf Xe { s5 with heap := h5 }
theorem lc_runX {P : Program} {w : World} {Ar : Around} {en : Env} {Xe Qf : Value → Shared → Prop} {s0 : Shared} {elt tg iter : Expr} {ifs : List Expr} {sc : Scope} {pos po : Pos} {mk fst : Sem Value} {cl : List (Str × Addr)} {use : Option (Value → Sem Unit)}
    (h1 : ∀ x, foldedSetIterable iter en x = pure x) (h2 : closureFor sc en = pure cl) (h3 : sc.kind = .function) (h4 : ∀ x ∈ sc.names, x.2 = .local → sc.names.lookup x.1 = some .local)
    (go : wpAny (model P w) Ar fst (fun x s1 => wpAny (model P w) Ar (PySem.pyIter x) (fun it s2 => wpAny (model P w) Ar mk (fun D s3 =>
      wpAny (model P w) Ar (PySem.newFunctionEnv sc en.globals cl [] en.qual none .none (some en)) (fun ce s4 => ce.frame = en.frame ∧
        codeAny (model P w) Ar (.compStart (.ListComp elt [⟨tg, iter, ifs, 0⟩] sc pos) 0 it D { ce with scope := PySem.relabel sc en }) (LcEnd P w Ar en Xe use Qf D ce.locals) s4) Xe s3) Xe s2) Xe s1) Xe s0) :
    wpAny (model P w) Ar (PySem.comprehension (.ListComp elt [⟨tg, iter, ifs, 0⟩] sc pos) sc en po mk false fst use) Qf Xe s0 := by
  unfold PySem.comprehension
  rw [h2]
  refine wpAny_bind (wpAny_mono go (fun x s1 g1 => ?_) fun _ _ z => z)
  refine wpAny_bind (wpAny_standAt (wpAny_bind (wpAny_of_eq (h1 x) ?_)))
  refine wpAny_bind (wpAny_holding (wpAny_mono g1 (fun it s2 g2 => ?_) fun _ _ z => z))
  refine wpAny_standIf (wpAny_bind (wpAny_mono g2 (fun D s3 g3 => ?_) fun _ _ z => z))
  refine wpAny_bind (wpAny_pure (wpAny_bind (wpAny_mono g3 (fun ce s4 g4 => ?_) fun _ _ z => z)))
  obtain ⟨fr, g4⟩ := g4
  dsimp only
  refine wpAny_holding (wpAny_bind (wpAny_attempt (wpAny_holding (wpAny_run (codeAny_mono g4 fun r s5 g5 => ?_)))))
  have loc : ∀ y ∈ (sc.names.filter fun x => (x.2 == .local || x.2 == .cell) && x.1 != (".0" : Str)).reverse, y.2 = .local → Env.kindOf { ce with scope := PySem.relabel sc en } y.1 = some .local := fun y m e =>
    PySem.lookup_relabel_local (h4 y (List.mem_filter.mp (List.mem_reverse.mp m)).1 e)
  cases r with
  | ok f =>
   cases use with
   | some u =>
    have loc2 : ∀ y ∈ (sc.names.filter fun x => (x.2 == .local || x.2 == .cell) && x.1 != (".0" : Str)).reverse.drop 1 ++ (sc.names.filter fun x => (x.2 == .local || x.2 == .cell) && x.1 != (".0" : Str)).reverse.take 1, y.2 = .local → Env.kindOf { ce with scope := PySem.relabel sc en } y.1 = some .local :=
      fun y m e => loc y ((List.mem_append.mp m).elim List.mem_of_mem_drop List.mem_of_mem_take) e
    refine wpAny_bind (wpAny_rule (wpAny_bind (wpAny_holding (wpAny_mono g5 (fun _ s6 g6 => ?_) fun _ _ z => z))))
    obtain ⟨m, n6, q6⟩ := g6
    refine wpAny_bind (PySem.wpAny_comp_letGo (cenv := { ce with scope := PySem.relabel sc en }) h3 _ s6 m loc2 n6 fun h6 _ _ b6 => ?_)
    exact wpAny_pure (q6 h6 b6)
   | none =>
    obtain ⟨m, n5, q5⟩ := g5
    refine wpAny_bind (wpAny_holding (PySem.wpAny_comp_letGo (cenv := { ce with scope := PySem.relabel sc en }) h3 _ s5 m loc n5 fun h5 _ _ b5 => ?_))
    exact wpAny_pure (q5 h5 b5)
  | error x =>
    obtain ⟨m, n5, q5⟩ := g5
    refine wpAny_bind (wpAny_holding (PySem.wpAny_comp_letGo (cenv := { ce with scope := PySem.relabel sc en }) h3 _ s5 m loc n5 fun h5 _ _ b5 => ?_))
    have same : ∀ c : Env, c.frame = en.frame → (PySem.passOn "comprehension.variables-let-go" x c : Sem Value) = PySem.passOn "comprehension.variables-let-go" x en := fun c e => by
      unfold PySem.passOn
      rw [e]
    exact Eq.mpr (congrArg (fun t => wpAny (model P w) Ar t Qf Xe _) (same _ fr)) (q5 h5 b5)
/-- an exception that a call lets out within the block is passed on by the def -/
theorem lc_out {X : Cx} {E : XK} {pins : List (Addr × Obj)} {σ : L2.St} {H : Hp} {sn s9 : Shared} {C : Addr} {m : Str → Option Value} {D u : Value} {Qf E1 : Value → Shared → Prop} {use : Option (Value → Sem Unit)}
    (hs : X.stack = X.env :: X.outer) (hf : X.env.frame = some X.env.locals) (tk : Takes X (fun c d _ H => E c d H)) (I : Inv X pins σ H sn) (fp : ∀ H', H' C = none → FpOk X pins H' C) (hC : sn.heap.Ns C m) (nC : H C = none)
    (c : L2.CX X.prog X.w X.stack H sn E u s9) : wpAny (model X.prog X.w) X.A (PySem.noteFrame u X.env) (fun _ s5 => LcEnd X.prog X.w X.A X.env X.xe use Qf D C (.error u) s5) E1 s9 := by
  obtain ⟨a, B, H', cls, d, rfl, fl, hok, ub, na, os, ag, hE⟩ := c
  have hfr : X.A.frames = some (X.env :: X.outer) := by rw [I.ok.frames, hs]
  have nst : C ∉ frs X.stack := fun hm => (List.mem_cons.mp (I.stkSub C hm)).elim (fp H nC).2.1 (fp H nC).2.2.1
  obtain ⟨oC, es, ep, gC, dC, kC, fC⟩ := hC
  have nC' : H' C = none := ub.free C oC gC nC
  have f' := fp H' nC'
  have gC9 : s9.heap.get? C = some oC := fl.1 C oC (ub.keep C oC gC nC nst)
  obtain ⟨G, g1, g2⟩ := L2.restrict s9.heap fun b => ((B.get? b).isSome || decide (b ∈ frs X.stack)) && decide (b ≠ C)
  have gB : ∀ b o, b ≠ C → B.get? b = some o → G.get? b = some o := fun b o n e => (g1 b (by rw [e, decide_eq_true n]; rfl)).trans (fl.1 b o e)
  have gF : ∀ b, b ∈ frs X.stack → b ≠ C → G.get? b = s9.heap.get? b := fun b hb n => g1 b (by rw [decide_eq_true hb, decide_eq_true n]; simp)
  have og : ∀ b o, G.get? b = some o → b ≠ C ∧ s9.heap.get? b = some o ∧ ((B.get? b).isSome = true ∨ b ∈ frs X.stack) := fun b o e => by
    cases q : (((B.get? b).isSome || decide (b ∈ frs X.stack)) && decide (b ≠ C)) with
    | false => rw [g2 b q] at e; cases e
    | true =>
      rw [g1 b q] at e
      rw [Bool.and_eq_true, Bool.or_eq_true] at q
      exact ⟨of_decide_eq_true q.2, e, q.1.imp id of_decide_eq_true⟩
  have J : Inv X pins σ H' { sn with heap := G, gens := s9.gens, drawn := s9.drawn, toks := s9.toks } := by
    refine I.call' (ch := [C]) rfl ⟨fun b o e n hb hx => gB b o (by simpa using hx) (ub.keep b o e n hb), fun b o e n hb hx => ?_, fun b o e n _ => ub.free b o e n, fun b o e hx => ?_, ub.tups, ub.frzs, ub.tbls⟩ (fun b v e => ?_) ag (fun b hb => ?_)
    · obtain ⟨sl, q⟩ := ub.slot b o e hb
      exact ⟨sl, (gF b hb (by simpa using hx)).trans q⟩
    · by_cases hb : b ∈ frs X.stack
      · obtain ⟨sl, q⟩ := ub.slot b o e hb
        exact ⟨_, (gF b hb (by simpa using hx)).trans q⟩
      · obtain ⟨o', q⟩ := ub.there b o e hb
        exact ⟨o', gB b o' (by simpa using hx) q⟩
    · refine (hok b v e).stay (fun c o hc q => gB c o (fun z => ?_) q) (fun _ q => q) fun _ _ q => q
      rcases hc with hc | hc
      · rw [← hc, z, nC'] at e; cases e
      · rw [z, nC'] at hc; cases hc
    · have hb : b = C := by simpa using hb
      subst hb
      exact ⟨f'.2.2.2.1, f'.2.1, f'.2.2.2.2.1, f'.2.2.2.2.2⟩
  rw [hs] at fl
  refine HandSPX.looks_onZ Zc.steady hfr hf fl fun h1 held up1 => ?_
  rw [← hs] at held
  obtain ⟨sl, gC1⟩ := up1 C oC gC9 (fun vs z => by rw [dC] at z; cases z)
  refine ⟨m, ⟨_, es, ep, gC1, dC, kC, fC⟩, fun h5 sb => ?_⟩
  obtain ⟨kB, nB, ff, oe, vs, T, oT, ts, he, hz, hd, hv1, hnT, hTe, hT, hdT, h3⟩ := held
  have aC : a ≠ C := fun z => by
    rw [z, gC1] at he; cases he
    rw [show ({ oC with slots := sl } : Obj).data = oC.data from rfl, dC] at hd; cases hd
  have tC : T ≠ C := fun z => by
    rw [z, gC1] at hT; cases hT
    rw [show ({ oC with slots := sl } : Obj).data = oC.data from rfl, dC] at hdT; cases hdT
  have he5 := (sb.2 a aC).trans he
  obtain ⟨B2, b1, b2⟩ := L2.restrict B fun b => decide (b ≠ C)
  have bs : ∀ b o, B2.get? b = some o → b ≠ C ∧ B.get? b = some o := fun b o e => by
    by_cases n : b ≠ C
    · rw [b1 b (decide_eq_true n)] at e; exact ⟨n, e⟩
    · rw [b2 b (decide_eq_false n)] at e; cases e
  have bn : ∀ b, B.get? b = none → B2.get? b = none := fun b e => by
    cases q : B2.get? b with
    | none => rfl
    | some o => rw [(bs b o q).2] at e; cases e
  have ff5 : h5.FunFrames B2 X.stack := by
    have st : ∀ (l : List Env), h1.FunFrames B l → (∀ b ∈ frs l, b ≠ C) → h5.FunFrames B2 l := by
      intro l
      induction l with
      | nil => intro _ _; trivial
      | cons e l ih =>
        intro h n
        obtain ⟨k1, ⟨L, o, k2, k3, k4, k5⟩, k6⟩ := h
        refine ⟨k1, ⟨L, o, k2, bn L k3, (sb.2 L (n L (List.mem_filterMap.mpr ⟨e, List.mem_cons_self, k2⟩))).trans k4, k5⟩, ih k6 fun b hb => n b ?_⟩
        obtain ⟨e', m1, m2⟩ := List.mem_filterMap.mp hb
        exact List.mem_filterMap.mpr ⟨e', List.mem_cons_of_mem _ m1, m2⟩
    exact st _ ff fun b hb z => nst (by rw [← z]; exact hb)
  unfold PySem.passOn
  refine wpAny_bind (wpAny_field he5 hd hv1 ?_)
  rw [if_neg (show ¬ ((Value.ref T == Value.none) = true) from by simp)]
  have fin : wpAny (model X.prog X.w) X.A (PySem.setFlight (.ref a) X.env.frame) (fun _ s4 => wpAny (model X.prog X.w) X.A (throw (.ref a) : Sem Value) Qf X.xe s4) X.xe { s9 with heap := h5 } := by
    rw [hf]
    refine HandSPX.setFlight_anyZ (base := B2) (l := X.stack) (Z := Zc cls d) (fl := PySem.rawInt X.env.locals) (fun b o e => (sb.2 b (bs b o e).1).trans (kB b o (bs b o e).2)) ff5 ⟨oe, vs, T, oT, ts, he5, hz, hd, hv1, bn T hnT, hTe, (sb.2 T tC).trans hT, hdT, h3⟩ fun h6 k1 k2 k3 k4 => wpAny_throw (tk _ _ ?_)
    refine ⟨a, B2, _, pins, σ, H', cls, d, rfl, J, fun b o e hb => ?_, fun b o e hnf => ?_, .inr (.inr ⟨k1, bn a nB, k2, k3⟩), na, os, ag, hE⟩
    · obtain ⟨n, _, q⟩ := og b o e
      rcases q with q | q
      · obtain ⟨o', q'⟩ := Option.isSome_iff_exists.mp q
        have z := gB b o' n q'
        rw [e] at z; cases z
        rw [b1 b (decide_eq_true n)]; exact q'
      · exact absurd q hb
    · obtain ⟨n, q, _⟩ := og b o e
      obtain ⟨sl1, q1⟩ := up1 b o q hnf
      obtain ⟨sl2, q2⟩ := k4 b _ ((sb.2 b n).trans q1) hnf
      exact ⟨sl2, q2⟩
  first
    | exact wpAny_bind (wpAny_pure (wpAny_bind fin))
    | exact wpAny_bind fin
abbrev blkx (X : Cx) (s : Shared) (H : Hp) (sc : Scope) (ce : Env) (fp : List Addr) (xe : Value → Shared → Prop) : Cx := { X.blk s H sc ce fp with xe := xe }
theorem inv_blkx {X : Cx} {s s' : Shared} {H H' : Hp} {sc : Scope} {ce : Env} {fp : List Addr} {pins : List (Addr × Obj)} {σ : L2.St} (xe : Value → Shared → Prop) (I : Inv (X.blk s H sc ce fp) pins σ H' s') : Inv (blkx X s H sc ce fp xe) pins σ H' s' :=
  ⟨⟨I.ok.mod, I.ok.kind, I.ok.glob, I.ok.blt, I.ok.above, I.ok.inj, I.ok.has, I.ok.cab, I.ok.hd, I.ok.frames, I.ok.stk, I.ok.exf, I.ok.bs, I.ok.bsz, I.ok.noex, I.ok.exfs, I.ok.funs, I.ok.frf⟩,
    I.os, I.bare, I.base, I.loc, I.cell, I.free, I.freeC, I.pin, I.hok, I.len⟩
/-- [elt for target in iter if ..] in a def that lets exceptions out, E what they are to fulfil -/
theorem lc_coreX {X : Cx} {E : XK} {pins : List (Addr × Obj)} {σ : L2.St} {s : Shared} {H : Hp} {Q : VK} {use : Option (Value → Sem Unit)} {Qf : Value → Shared → Prop} {po : Pos} {elt tg iter : Expr} {ifs : List Expr} {sc : Scope} {own : List (Str × Nat)} {pos : Pos} {wi : TI} {g : TG} {tt : TT} {te : TE} (hc : X.calm = true) (hN : X.N.Nodup)
    (hst : X.stack = X.env :: X.outer) (hf : X.env.frame = some X.env.locals) (tk : Takes X (fun c d _ H => E c d H)) (hi : PI X tg iter wi) (ok : BlkOk X.N X.env.scope sc own)
    (hg : ∀ (s : Shared) (H : Hp) (C : Addr) (cl : List (Str × Addr)) (fp : List Addr) (xe : Value → Shared → Prop), PG (blkx X s H sc (PySem.compEnvC sc cl C X.env) fp xe) tg g)
    (ht : ∀ (s : Shared) (H : Hp) (C : Addr) (cl : List (Str × Addr)) (fp : List Addr) (xe : Value → Shared → Prop), PTs (blkx X s H sc (PySem.compEnvC sc cl C X.env) fp xe) ifs tt)
    (he : ∀ (s : Shared) (H : Hp) (C : Addr) (cl : List (Str × Addr)) (fp : List Addr) (xe : Value → Shared → Prop), (∀ σ, PassesAt (L2.CX X.prog X.w) (blkx X s H sc (PySem.compEnvC sc cl C X.env) fp xe) σ E) → PE (blkx X s H sc (PySem.compEnvC sc cl C X.env) fp xe) elt te)
    (hs : ∀ x, foldedSetIterable iter X.env x = pure x) (I : Inv X pins σ H s) (h : tLc wi g tt te (own.map (·.2)) σ H Q)
    (hend : ∀ D C s' m H', Inv X pins σ H' s' → Q (.ref D) H' → s'.heap.Ns C m → FpOk X pins H' C → LcEnd X.prog X.w X.A X.env X.xe use Qf (.ref D) C (.ok .next) s') :
    wpAny (model X.prog X.w) X.A (PySem.comprehension (.ListComp elt [⟨tg, iter, ifs, 0⟩] sc pos) sc X.env po (newList []) false (eval iter X.env) use) Qf X.xe s := by
  have free : ∀ y ∈ sc.names, y.2 = .free → ∃ c, X.env.cells.lookup y.1 = some c := fun y hy e => (ok.free y hy e).elim (fun k => I.ok.has _ (.inl k)) (fun k => I.ok.has _ (.inr k))
  refine lc_runX hs (closure_ok free) ok.kind (fun y hy e => by rw [ok.uniq y hy, e]) (thn (hi.run pins s σ H _ I h) fun xv s1 hx => thn hx fun itv s2 h2 => ?_)
  obtain ⟨it, fp, tn, J, H2, e, I2, T, st2, f2, q⟩ := h2
  subst e
  refine wpAny_newObj_type (newEnv_comp ?_) (by show 0 ≤ sizeLine; decide)
  refine ⟨rfl, ?_⟩
  generalize hD : s2.heap.objs.size = D
  have nD : H2 D = none := I2.hok.fresh (Nat.le_of_eq hD)
  obtain ⟨W, ⟨m0, w0⟩, turn⟩ := q D nD
  generalize hs3 : ({ s2 with heap := s2.heap.push { cls := .type "list", data := .seq ([] : List Value).toArray } } : Shared) = s3
  have h3 : s3.heap = s2.heap.push { cls := .type "list", data := .seq ([] : List Value).toArray } := by rw [← hs3]
  have old3 : ∀ b o, s2.heap.get? b = some o → s3.heap.get? b = some o := fun b o e => by rw [h3]; exact Heap.get?_push_of_some _ e
  have I3 : Inv X pins σ (upd H2 D (.lst [])) s3 := by
    rw [← hs3]
    refine I2.laid (t' := s2.toks) (fun b o e => Heap.get?_push_of_some _ e) (Nat.le_of_eq hD) ⟨Nat.zero_le _, [], 0, .nil, ?_⟩
    rw [← hD]
    exact Heap.get?_push_size _ rfl
  have f3 : ∀ b ∈ fp, FpOk X pins (upd H2 D (.lst [])) b ∧ b < s3.heap.objs.size := fun b hb => by
    obtain ⟨o, e, _⟩ := T.obj _ _ st2 b hb
    have lt := Heap.lt_size e
    refine ⟨⟨?_, (f2 b hb).2⟩, by rw [h3, Heap.size_push]; exact Nat.lt_succ_of_lt lt⟩
    rw [upd_ne (by rw [← hD]; exact Nat.ne_of_lt lt)]
    exact (f2 b hb).1
  have st3 : tn 0 s3.heap := T.keep _ _ _ st2 fun b _ o e => old3 b o e
  have I4 := block_start I3 ok hN f3
  generalize hK : (upd H2 D (.lst [])) = H3 at I3 I4 w0 f3
  generalize hcl : cellsFrom (s3.heap.objs.size + 1) sc.names (cloFrom X.env.cells sc.names []) = cl at I4 ⊢
  show codeAny _ _ (.compStart (.ListComp elt [⟨tg, iter, ifs, 0⟩] sc pos) 0 (.ref it) (.ref D) (PySem.compEnvC sc cl s3.heap.objs.size X.env)) (LcEnd X.prog X.w X.A X.env X.xe use Qf (.ref D) s3.heap.objs.size) { s3 with heap := pushCells (s3.heap.push { cls := .type "dict", data := .dict #[] }) sc.names }
  generalize hR : LcEnd X.prog X.w X.A X.env X.xe use Qf (.ref D) s3.heap.objs.size = R
  have nC : ∀ {H' : Hp}, H' s3.heap.objs.size = none → FpOk X pins H' s3.heap.objs.size := fun z => I3.fpOk (Nat.le_refl _) z
  have outer_ : ∀ {ps : List (Addr × Obj)} {σ' : L2.St} {H' : Hp} {s' : Shared} {xe : Value → Shared → Prop}, Inv (blkx X s3 H3 sc (PySem.compEnvC sc cl s3.heap.objs.size X.env) fp xe) ps σ' H' s' → Inv X pins σ H' s' := fun {ps σ' H' s' xe} K =>
    I3.call' (ch := fp) K.os K.base K.hok K.bare fun b hb => ⟨(f3 b hb).1.2.2.2.1, (f3 b hb).1.2.1, (f3 b hb).1.2.2.2.2.1, (f3 b hb).1.2.2.2.2.2⟩
  -- what the block's exceptions come to
  generalize hxe : (PySem.notedBy (model X.prog X.w) X.A (PySem.compEnvC sc cl s3.heap.objs.size X.env) fun e s' => R (.error e) s') = xe
  have pass : ∀ σ', PassesAt (L2.CX X.prog X.w) (blkx X s3 H3 sc (PySem.compEnvC sc cl s3.heap.objs.size X.env) fp xe) σ' E := fun σ' ps Hn sn e s9 K c => by
    obtain ⟨m, hn, _⟩ := K.loc
    show xe e s9
    rw [← hxe, ← hR]
    exact lc_out hst hf tk (outer_ K) (fun H' z => nC z) hn K.free c
  have I5 := inv_blkx xe I4
  have pg := hg s3 H3 s3.heap.objs.size cl fp xe
  have pt := ht s3 H3 s3.heap.objs.size cl fp xe
  have pe := he s3 H3 s3.heap.objs.size cl fp xe pass
  have cL : (PySem.compEnvC sc cl s3.heap.objs.size X.env).locals = s3.heap.objs.size := rfl
  generalize hce : PySem.compEnvC sc cl s3.heap.objs.size X.env = ce at I5 pg pt pe hxe outer_ cL ⊢
  generalize hs4 : ({ s3 with heap := pushCells (s3.heap.push { cls := .type "dict", data := .dict #[] }) sc.names } : Shared) = s4 at I5 ⊢
  have st4 : tn 0 s4.heap := T.keep _ _ _ st3 fun b _ o e => by rw [← hs4]; exact pushCells_keeps _ _ _ _ (Heap.get?_push_of_some _ e)
  have n4 : ∀ b ∈ fp, H3 b = none := fun b hb => (f3 b hb).1.1
  have fpk : ∀ {σ' : L2.St} {H' : Hp} {s' : Shared}, Inv (blkx X s3 H3 sc ce fp xe) [] σ' H' s' → (∀ b ∈ fp, H' b = none) → ∀ b ∈ fp, FpOk (blkx X s3 H3 sc ce fp xe) [] H' b := fun K n b hb =>
    ⟨n b hb, (K.ok.exf b hb).1, K.ok.exfs b hb, .inl hb, fun x c e => (K.ok.exf b hb).2 x c e, fun p hp => absurd (show p ∈ ([] : List (Addr × Obj)) ++ [] from hp) (by simp)⟩
  have loop : codeAny (model X.prog X.w) X.A (.compLoop (.ListComp elt [⟨tg, iter, ifs, 0⟩] sc pos) 0 (.ref it) (.ref D) ce) R s4 := by
    refine compLoop_any (fun n s' => ∃ i H', Inv (blkx X s3 H3 sc ce fp xe) [] (wipe σ (own.map (·.2))) H' s' ∧ tn i s'.heap ∧ (∀ b ∈ fp, H' b = none) ∧ W i n H') ?_ m0 ⟨0, H3, I5, st4, n4, w0⟩
    rintro n s5 ⟨i, H5, K5, st5, n5, w5⟩
    rw [hxe]
    rcases turn i n H5 w5 with ⟨stop, qq⟩ | ⟨goes, Nx, hNx, step⟩
    · have td := T.done (blkx X s3 H3 sc ce fp xe) rfl rfl rfl hc i [] s5 _ H5 xe K5 (fpk K5 n5) st5 stop
      refine thn td fun r s6 ⟨hr, K6⟩ => ?_
      subst hr
      obtain ⟨m, hn, _⟩ := K6.loc
      have z : H5 ce.locals = none := K6.free
      rw [cL] at z hn
      show R (.ok .next) s6
      rw [← hR]
      exact hend D _ s6 m H5 (outer_ K6) qq hn (nC z)
    · have ti := T.item (blkx X s3 H3 sc ce fp xe) rfl rfl rfl hc i [] s5 _ H5 xe K5 (fpk K5 n5) st5 goes
      refine thn ti fun r s6 ⟨u, hr, h6⟩ => ?_
      subst hr
      refine thn h6 fun _ s7 ⟨x, H7, K7, r7, y7, st7, n7⟩ => ?_
      have K7' := K7.pinned (fpk K7 n7) (T.obj _ _ st7)
      refine thn (pg.run _ s7 _ H7 x u _ K7' r7 (step x H7 y7)) fun _ s8 ⟨σ8, H8, K8, hw8, q8⟩ => ?_
      refine thn (pt.run _ s8 σ8 H8 _ K8 q8) fun b s9 ⟨H9, K9, q9⟩ => ?_
      have fin : ∀ {s' : Shared} {H' : Hp}, Inv (blkx X s3 H3 sc ce fp xe) ([] ++ pinsAt fp s7.heap) σ8 H' s' → Nx H' → ∃ m, m < n ∧ ∃ i H', Inv (blkx X s3 H3 sc ce fp xe) [] (wipe σ (own.map (·.2))) H' s' ∧ tn i s'.heap ∧ (∀ b ∈ fp, H' b = none) ∧ W i m H' := fun {s' H'} K nx => by
        obtain ⟨m', lt, w'⟩ := hNx H' nx
        have pinned : ∀ b ∈ fp, ∀ o, s7.heap.get? b = some o → s'.heap.get? b = some o ∧ H' b = none := fun b hb o e =>
          let z := K.pin (b, o) (List.mem_append_right _ (List.mem_append_right _ (mem_pinsAt hb e)))
          ⟨z.1, z.2.1⟩
        have len : (wipe σ (own.map (·.2))).length = σ8.length := by rw [← hw8, wipe_length]
        refine ⟨m', lt, i + 1, H', (K.unpinned (pins := [])).weak len (fun j v e => ?_), T.keep _ _ _ st7 fun b hb o e => (pinned b hb o e).1, fun b hb => ?_, w'⟩
        · rw [← hw8] at e
          exact (wipe_some e).1
        · obtain ⟨o, e, _⟩ := T.obj _ _ st7 b hb
          exact (pinned b hb o e).2
      cases b with
      | false =>
        simp only [Bool.false_eq_true, if_false] at q9 ⊢
        exact fin K9 q9
      | true =>
        simp only [if_true] at q9 ⊢
        refine thn (pe.run _ s9 σ8 H9 _ K9 q9) fun z s10 ⟨yv, H10, K10, r10, acc, hD10, hz10, nx⟩ => ?_
        exact app_ok (X := blkx X s3 H3 sc ce fp xe) K10 hD10 hz10 r10 fun s11 K11 => fin K11 nx
  exact codeAny_compStart_list loop (T.self X.A 0 _ _ _ st4 loop)
theorem pe_lcX {X : Cx} {E : XK} {elt tg iter : Expr} {ifs : List Expr} {sc : Scope} {own : List (Str × Nat)} {pos : Pos} {wi : TI} {g : TG} {tt : TT} {te : TE} (hc : X.calm = true) (hN : X.N.Nodup)
    (hst : X.stack = X.env :: X.outer) (hf : X.env.frame = some X.env.locals) (tk : Takes X (fun c d _ H => E c d H)) (hi : PI X tg iter wi) (ok : BlkOk X.N X.env.scope sc own)
    (hg : ∀ (s : Shared) (H : Hp) (C : Addr) (cl : List (Str × Addr)) (fp : List Addr) (xe : Value → Shared → Prop), PG (blkx X s H sc (PySem.compEnvC sc cl C X.env) fp xe) tg g)
    (ht : ∀ (s : Shared) (H : Hp) (C : Addr) (cl : List (Str × Addr)) (fp : List Addr) (xe : Value → Shared → Prop), PTs (blkx X s H sc (PySem.compEnvC sc cl C X.env) fp xe) ifs tt)
    (he : ∀ (s : Shared) (H : Hp) (C : Addr) (cl : List (Str × Addr)) (fp : List Addr) (xe : Value → Shared → Prop), (∀ σ, PassesAt (L2.CX X.prog X.w) (blkx X s H sc (PySem.compEnvC sc cl C X.env) fp xe) σ E) → PE (blkx X s H sc (PySem.compEnvC sc cl C X.env) fp xe) elt te)
    (hs : ∀ x, foldedSetIterable iter X.env x = pure x := by intro _; rfl) : PE X (.ListComp elt [⟨tg, iter, ifs, 0⟩] sc pos) (tLc wi g tt te (own.map (·.2))) := by
  refine ⟨fun pins s σ H Q I h => ?_⟩
  rw [PySem.eval_ListComp]
  refine lc_coreX hc hN hst hf tk hi ok hg ht he hs I h fun D C s6 m H5 J q hn fp => ⟨m, hn, fun h5 sb => ?_⟩
  obtain ⟨e0, e1, e2, e3, e4, e5⟩ := fp
  exact ⟨.ref D, H5, J.turned (t' := s6.toks) (fun b o hb e => (sb.2 b hb).trans e) e0 e1 e3 e4 e5, rfl, q⟩
/-- name = [..] on one line, the name a local -/
theorem ps_setLcX {X : Cx} {E : XK} {i : Nat} {y : Str} {py spos : Pos} {elt tg iter : Expr} {ifs : List Expr} {sc : Scope} {own : List (Str × Nat)} {pos : Pos} {wi : TI} {g : TG} {tt : TT} {te : TE} (hc : X.calm = true) (hN : X.N.Nodup)
    (hy : X.N[i]? = some y) (hyl : X.env.scope.names.lookup y = some .local) (hsw : swapsWith (.ListComp elt [⟨tg, iter, ifs, 0⟩] sc pos) (some (.Name y py)) spos.line X.env = pure true)
    (hst : X.stack = X.env :: X.outer) (hf : X.env.frame = some X.env.locals) (tk : Takes X (fun c d _ H => E c d H)) (hi : PI X tg iter wi) (ok : BlkOk X.N X.env.scope sc own)
    (hg : ∀ (s : Shared) (H : Hp) (C : Addr) (cl : List (Str × Addr)) (fp : List Addr) (xe : Value → Shared → Prop), PG (blkx X s H sc (PySem.compEnvC sc cl C X.env) fp xe) tg g)
    (ht : ∀ (s : Shared) (H : Hp) (C : Addr) (cl : List (Str × Addr)) (fp : List Addr) (xe : Value → Shared → Prop), PTs (blkx X s H sc (PySem.compEnvC sc cl C X.env) fp xe) ifs tt)
    (he : ∀ (s : Shared) (H : Hp) (C : Addr) (cl : List (Str × Addr)) (fp : List Addr) (xe : Value → Shared → Prop), (∀ σ, PassesAt (L2.CX X.prog X.w) (blkx X s H sc (PySem.compEnvC sc cl C X.env) fp xe) σ E) → PE (blkx X s H sc (PySem.compEnvC sc cl C X.env) fp xe) elt te)
    (hs : ∀ x, foldedSetIterable iter X.env x = pure x := by intro _; rfl) : PS X (.Assign [.Name y py] (.ListComp elt [⟨tg, iter, ifs, 0⟩] sc pos) spos) (tAsg (tLc wi g tt te (own.map (·.2))) (gName i)) := by
  refine ⟨fun pins s σ H D I h => ?_⟩
  rw [PySem.exec_Assign_Name_used _ _ _ _ hsw]
  refine wpAny_bind (wpAny_standAt (wpAny_bind ?_))
  have h : tLc wi g tt te (own.map (·.2)) σ H (fun x H1 => gName i x σ H1 D.nx) := h
  refine wpAny_bind (thn (lc_coreX (Qf := fun _ s' => SP X pins D .next s') (use := some (assign (.Name y py) X.env)) hc hN hst hf tk hi ok hg ht he hs I h fun L C s6 m H5 J q hn fp => ?_) fun _ _ z => wpAny_pure (wpAny_pure z))
  refine wpAny_assign_Name (store_ok2 (v := V.ref L) J hN hy (.inl hyl) rfl (fun s7 J7 ⟨a, sb, ha⟩ => ?_) (.inr hyl))
  obtain ⟨e0, e1, e2, e3, e4, e5⟩ := fp
  have ne : C ≠ a := ha.elim (fun z => by rw [z]; exact e1) (fun z e => e4 y a z e.symm)
  exact ⟨m, hn.sameBut sb ne, fun h5 sb5 => ⟨_, H5, J7.turned (t' := s7.toks) (fun b o hb e => (sb5.2 b hb).trans e) e0 e1 e3 e4 e5, q⟩⟩

/-! ### zip of a tuple and a list -/
def ItzM (K : PySem.W.Frag) (a b : Addr) : It where
  go i H := ∃ (xs ys : List V) (x y : V), SqT K H a xs ∧ SqL K H b ys ∧ xs[i]? = some x ∧ ys[i]? = some y
  yld i H v H' := ∃ T x y, v = .ref T ∧ H T = none ∧ H' = upd H T (.tup [x, y]) ∧ (∀ xs, SqT K H a xs → xs[i]? = some x) ∧ ∀ ys, SqL K H b ys → ys[i]? = some y
  stop i H := ∃ (xs ys : List V), SqT K H a xs ∧ SqL K H b ys ∧ i ≤ xs.length ∧ i ≤ ys.length ∧ (i = xs.length ∨ i = ys.length)
/-- the cells of such a zip at its turn i -/
def ZmAt (z TI TO i1 i2 a b : Addr) (i : Nat) (h : Heap) : Prop :=
  PySem.IsZip h z TI TO .none ∧ PySem.IsTupOf2 h TI (.ref i1) (.ref i2) ∧ (∃ x y, PySem.IsTupOf2 h TO x y) ∧ h.IsTupleIter i1 a i ∧ h.IsListIter i2 b i
theorem ZmAt.there {z TI TO i1 i2 a b : Addr} {i : Nat} {h : Heap} (st : ZmAt z TI TO i1 i2 a b i h) : ∀ c ∈ [z, TI, TO, i1, i2], ∃ o, h.get? c = some o ∧ ∀ v, o.data ≠ .cell v := by
  obtain ⟨s1, s2, ⟨x, y, s3⟩, ⟨o4, s4, _, d4⟩, ⟨o5, s5, _, d5⟩⟩ := st
  intro c m
  simp only [List.mem_cons, List.not_mem_nil, or_false] at m
  rcases m with rfl | rfl | rfl | rfl | rfl
  · exact ⟨_, s1, fun v q => nomatch q⟩
  · exact ⟨_, s2, fun v q => nomatch q⟩
  · exact ⟨_, s3, fun v q => nomatch q⟩
  · exact ⟨o4, s4, fun v q => by rw [d4] at q; cases q⟩
  · exact ⟨o5, s5, fun v q => by rw [d5] at q; cases q⟩
theorem turn_zipM {P : Program} {w : World} {K : PySem.W.Frag} {elts : List Expr} {kk : Nat} {tp : Pos} {a b z TI TO i1 i2 : Addr} (S : PySem.ZipSep2 z TI TO i1 i2 [i1, a] [i2, b]) (na : a ≠ i1) (nb : b ≠ i2) :
    Turn P w K (.Tuple elts kk tp) (ItzM K a b) [z, TI, TO, i1, i2] z (ZmAt z TI TO i1 i2 a b) where
  mem := List.mem_cons_self
  obj := fun _ _ st => st.there
  keep := fun i h h' st k => by
    obtain ⟨s1, s2, ⟨x, y, s3⟩, s4, s5⟩ := st
    exact ⟨k z (by simp) _ s1, k TI (by simp) _ s2, ⟨x, y, k TO (by simp) _ s3⟩, s4.at (k i1 (by simp)), s5.at (k i2 (by simp))⟩
  item := by
    intro X e1 e2 e3 hc i pins s σ H E I hf st hg
    subst e1; subst e2; subst e3
    have old := st.there
    obtain ⟨s1, s2, ⟨x0, y0, s3⟩, s4, s5⟩ := st
    obtain ⟨xs, ys, x, y, qx, qy, gx, gy⟩ := hg
    obtain ⟨us, rx, px, _⟩ := I.tuple qx
    obtain ⟨vs, ry, py, _⟩ := I.list qy
    obtain ⟨u, hu, ru⟩ := rx.get gx
    obtain ⟨v, hv, rv⟩ := ry.get gy
    have hA : X.A.in1.handled = none := I.ok.hd hc
    have lu := (List.getElem?_eq_some_iff.mp hu).1
    have lv := (List.getElem?_eq_some_iff.mp hv).1
    refine PySem.wpAny_pyNext_zipD2_item S (PySem.Draws.tuple hA i1 a na us.toArray) (PySem.Draws.list hA i2 b nb vs.toArray) s1 s2 s3 ⟨s4, px⟩ ⟨s5, py.isList⟩ (by simpa using lu) (by simpa using lv) fun u1 v1 h1 tk gu gv z1 O1 t1 t2 new sz keep => ?_
    have eu : u1 = u := by
      have gu : us.toArray[i]? = some u1 := gu
      rw [List.getElem?_toArray, hu] at gu; exact (Option.some.inj gu).symm
    have ev : v1 = v := by
      have gv : vs.toArray[i]? = some v1 := gv
      rw [List.getElem?_toArray, hv] at gv; exact (Option.some.inj gv).symm
    subst eu; subst ev
    refine ⟨_, rfl, wpAny_letOwnedTupleGo_zip (s := { s with heap := h1, toks := tk }) z1 fun h2 z2 sb => ?_⟩
    have zlt := Heap.lt_size s1
    have stays : ∀ c o, c ∉ [z, TI, TO, i1, i2] → s.heap.get? c = some o → h2.get? c = some o := fun c o nc e => by
      simp only [List.mem_cons, List.not_mem_nil, or_false, not_or] at nc
      exact (sb.2 c nc.1).trans (keep c o nc.1 nc.2.2.1 nc.2.2.2.1 nc.2.2.2.2 e)
    have new2 : h2.get? s.heap.objs.size = some { cls := .type "tuple", data := .seq #[u1, v1] } := (sb.2 _ (Nat.ne_of_gt zlt)).trans new
    have J : Inv X pins σ (upd H s.heap.objs.size (.tup [x, y])) { s with heap := h2, toks := tk } :=
      I.turnedNew (ch := [z, TI, TO, i1, i2]) stays hf (Nat.le_refl _) ⟨by show 2 ≤ sizeLine; decide, [u1, v1], .cons ru (.cons rv .nil), ⟨_, new2, rfl, _, rfl⟩⟩
    refine ⟨.ref s.heap.objs.size, _, J, rfl, ⟨_, x, y, rfl, I.hok.fresh (Nat.le_refl _), rfl, fun l hl => by rw [I.tuple_inj hl qx]; exact gx, fun l hl => by rw [I.list_inj hl qy]; exact gy⟩, ⟨z2, ?_, ⟨u1, v1, ?_⟩, ?_, ?_⟩, fun c m => ?_⟩
    · exact (sb.2 _ S.TIz).trans (keep _ _ S.TIz S.TITO S.TIi1 S.TIi2 s2)
    · exact (sb.2 _ S.TOz).trans O1
    · exact t1.1.at fun o e => (sb.2 _ S.zi1.symm).trans e
    · exact t2.1.at fun o e => (sb.2 _ S.zi2.symm).trans e
    · obtain ⟨o, e, _⟩ := old c m
      rw [upd_ne (Nat.ne_of_lt (Heap.lt_size e))]
      exact (hf c m).1
  done := by
    intro X e1 e2 e3 hc i pins s σ H E I hf st hg
    subst e1; subst e2; subst e3
    obtain ⟨s1, s2, ⟨x0, y0, s3⟩, s4, s5⟩ := st
    obtain ⟨xs, ys, qx, qy, l1, l2, hend⟩ := hg
    obtain ⟨us, rx, px, _⟩ := I.tuple qx
    obtain ⟨vs, ry, py, _⟩ := I.list qy
    have hA : X.A.in1.handled = none := I.ok.hd hc
    have k1 := rx.length
    have k2 := ry.length
    refine PySem.wpAny_pyNext_zipD2_end S (PySem.Draws.tuple hA i1 a na us.toArray) (PySem.Draws.list hA i2 b nb vs.toArray) s1 s2 s3 ⟨s4, px⟩ ⟨s5, py.isList⟩ (by simp; omega) (by simp; omega) (by simp; omega) fun h1 tk keep => ?_
    refine ⟨rfl, I.turnedL (ch := [z, TI, TO, i1, i2]) (fun c o nc e => ?_) hf⟩
    simp only [List.mem_cons, List.not_mem_nil, or_false, not_or] at nc
    exact keep c o nc.1 nc.2.2.1 nc.2.2.2.1 nc.2.2.2.2 e
  self := fun A i s Q E st h => PySem.wpAny_pyIter_zip st.1 h
def iZipM (K : PySem.W.Frag) (ta : TA) : TI := fun σ H R => ta σ H fun vs H1 => ∃ (a b : Addr) (xs ys : List V), vs = [.ref a, .ref b] ∧ SqT K H1 a xs ∧ SqL K H1 b ys ∧ R (ItzM K a b) H1
theorem pi_zipM {X : Cx} {e e2 : Expr} {ta : TA} {p pos tp : Pos} {elts : List Expr} {kk : Nat} (hg : Gl X "zip") (hm : X.mg "zip" = none) (ha : PA X [e, e2] ta)
    (s1 : starEach [e, e2] X.env = (false, eval e X.env) :: starEach [e2] X.env := by rfl) (s2 : (backTo pos (starEach [e2] X.env)).any (·.1) = false := by rfl) :
    PI X (.Tuple elts kk tp) (.Call (.Name "zip" p) [e, e2] [] pos) (iZipM X.K ta) := by
  refine ⟨fun pins s σ H R I h => ?_⟩
  refine Call_ (ld_blt I hg hm PyProof.Rows.boot_zip (PyProof.Rows.callWith_type1 (thn (ha.run pos pins s σ H _ I h) fun us s3 ⟨vs, H1, I1, r1, q1⟩ => ?_) s1 s2))
  obtain ⟨a, b, xs, ys, ev, qx, qy, q⟩ := q1
  subst ev
  cases r1 with
  | cons ra rr =>
    cases rr with
    | cons rb rr =>
      cases rr
      cases ra
      cases rb
      obtain ⟨cs, rx, px, _⟩ := I1.tuple qx
      obtain ⟨ds, ry, py, _⟩ := I1.list qy
      have la : a < s3.heap.objs.size := by obtain ⟨o, g, _⟩ := id px; exact Heap.lt_size g
      have lb : b < s3.heap.objs.size := py.lt
      refine PySem.zip_begins2 (PySem.begins_tuple a cs.toArray) (PySem.begins_list b ds.toArray) px py.isList fun h1 z1 t1 o1 g1 g2 sz keep => PySem.wpAny_pyIter_zip z1 ?_
      have J : Inv X pins σ H1 { s3 with heap := h1 } := I1.kept (t' := s3.toks) keep
      have S := PySem.zip_sep2 (N := s3.heap.objs.size) (fp1 := [a]) (fp2 := [b]) (fun c m => by rw [List.mem_singleton.mp m]; exact la) (fun c m => by rw [List.mem_singleton.mp m]; exact lb)
      refine ⟨s3.heap.objs.size + 4, [s3.heap.objs.size + 4, s3.heap.objs.size + 2, s3.heap.objs.size + 3, s3.heap.objs.size, s3.heap.objs.size + 1], _, _, H1, rfl, J,
        turn_zipM S (Nat.ne_of_lt la) (Nat.ne_of_lt (Nat.lt_succ_of_lt lb)), ⟨z1, t1, ⟨_, _, o1⟩, ⟨_, g1, rfl, rfl⟩, ⟨_, g2, rfl, rfl⟩⟩, fun c m => ?_, q⟩
      have le : s3.heap.objs.size ≤ c := by
        simp only [List.mem_cons, List.not_mem_nil, or_false] at m
        rcases m with rfl | rfl | rfl | rfl | rfl
        · exact Nat.le_add_right _ _
        · exact Nat.le_add_right _ _
        · exact Nat.le_add_right _ _
        · exact Nat.le_refl _
        · exact Nat.le_add_right _ _
      exact I1.fpOk le (I1.hok.fresh le)
theorem walk_zipM {K : PySem.W.Frag} {a b : Addr} {xs ys : List V} {n : Nat} (hn : n = min xs.length ys.length) : Walk (ItzM K a b) n (fun H => SqT K H a xs ∧ SqL K H b ys) (YPair (fun i => xs[i]?) (fun i => ys[i]?)) := by
  subst hn
  refine ⟨fun i _ hi g => ?_, fun _ g => ⟨xs, ys, g.1, g.2, by omega, by omega, by omega⟩, fun i H v H' _ g y => ?_⟩
  · have h1 : i < xs.length := by omega
    have h2 : i < ys.length := by omega
    exact ⟨xs, ys, xs[i], ys[i], g.1, g.2, by simp [h1], by simp [h2]⟩
  · obtain ⟨T, x, z, e1, e2, e3, e4, e5⟩ := y
    exact ⟨T, x, z, e1, e2, e3, e4 xs g.1, e5 ys g.2⟩

/-! ### x.translate({37: None}) of an ASCII text: the sign with code 37 is left out -/
section
open PySem PySem.Builtin PySem.Builtin.Str
/-- what the table tells of a sign -/
def Tl37 {prog : Program} {w : World} (f : Key → Option Value) : Prop := ∀ c : Nat, f (Sum.inl (c : Int)) = if c = 37 then some Value.none else none
theorem mapOfK {prog : Program} {w : World} {h h' : Heap} {a : Addr} {f : Key → Option Value} (m : h.MapOf (mixKind prog w) a f) (k : ∀ b o, h.get? b = some o → h'.get? b = some o) : h'.MapOf (mixKind prog w) a f := by
  obtain ⟨o, es, ep, ho, r⟩ := m
  exact ⟨o, es, ep, k _ _ ho, r⟩
theorem tl37 {prog : Program} {w : World} {A : Around} {E : Value → Shared → Prop} {s : Shared} {d : Addr} {c : Nat} {f : Key → Option Value} {Q : Mapped → Shared → Prop} (hh : A.handled = none) (hd : (d == sysModules) = false) (hm : s.heap.MapOf (mixKind prog w) d f) (hk : Tl37 (prog := prog) (w := w) f)
    (h1 : c = 37 → ∀ h' k, (∀ b o, s.heap.get? b = some o → h'.get? b = some o) → Q .drop { s with heap := h', toks := k })
    (h2 : c ≠ 37 → ∀ h' k, (∀ b o, s.heap.get? b = some o → h'.get? b = some o) → Q .keep { s with heap := h', toks := k }) : wpAny (model prog w) A (tableLookup (.ref d) c) Q E s := by
  unfold tableLookup
  refine wpAny_bind (wpAny_attempt (wpAny_bind (wpAny_mkInt ?_)))
  have hf := hk c
  by_cases hc : c = 37
  · rw [if_pos hc] at hf
    refine wpAny_getItem_of (knd := mixKind prog w) (k := Sum.inl (c : Int)) (mixKind_int prog w _ _) hm hf ?_
    exact wpAny_pure (h1 hc s.heap _ fun _ _ e => e)
  · rw [if_neg hc] at hf
    refine wpAny_getItem_missing_of (knd := mixKind prog w) (k := Sum.inl (c : Int)) (mixKind_int prog w _ _) hd hh hm hf fun h' e hx => ?_
    show wpAny _ _ (do let b ← isInstance (.ref e) (.type "LookupError"); _) _ _ _
    obtain ⟨ob, t, ho, hc2, _⟩ := hx.there
    refine wpAny_bind (wpAny_isInstance (T := "KeyError") (b := true) ⟨ob, ho, hc2⟩ (by first | rfl | kernel_rfl) ?_)
    show wpAny _ _ (if true = true then (do rule "str.translate.not-in-table"; pure Mapped.keep) else _) _ _ _
    rw [if_pos rfl]
    exact wpAny_bind (wpAny_rule (wpAny_pure (h2 hc h' _ hx.keeps)))
theorem pieces37 : ∀ (l : List Nat) (acc : Array Nat), List.foldl (fun acc (p : Str) => acc ++ p.cps) acc (l.map fun c => (⟨#[c]⟩ : Str)) = acc ++ l.toArray
  | [], acc => by
    show acc = acc ++ #[]
    rw [Array.append_empty]
  | c :: l, acc => by
    rw [List.map_cons, List.foldl_cons, pieces37 l]
    apply Array.toList_inj.mp
    simp
theorem look_new {c c' : Nat} {a b : Option Nat} {known : List (Nat × Option Nat)} (h : List.lookup c' ((c, a) :: known) = some b) : (c' = c ∧ b = a) ∨ List.lookup c' known = some b := by
  rw [List.lookup_cons] at h
  by_cases e : c' = c
  · rw [e, beq_self_eq_true] at h
    exact Or.inl ⟨e, (Option.some.inj h).symm⟩
  · have e2 : (c' == c) = false := beq_eq_false_iff_ne.mpr e
    rw [e2] at h
    exact Or.inr h
def out37 (l : List Nat) : List Nat := l.filter (fun c => decide (c ≠ 37))
def an37 (c : Nat) : Option Nat := if c = 37 then none else some c
/-- what stands while the signs are walked -/
def Tr37 (x : List Nat) (s : Shared) (rest : List Nat) (st : List Str × Nat × Bool × List (Nat × Option Nat) × Bool) (s' : Shared) : Prop :=
  ∃ (past : List Nat) (pieces : List Str) (known : List (Nat × Option Nat)) (h' : Heap) (k : Nat), x = past ++ rest ∧ st = (pieces, (out37 past).length, true, known, false) ∧ pieces.reverse = (out37 past).map (fun c => (⟨#[c]⟩ : Str)) ∧
    (∀ c a, List.lookup c known = some a → a = an37 c) ∧ s' = { s with heap := h', toks := k } ∧ ∀ b o, s.heap.get? b = some o → h'.get? b = some o
theorem Tr37.keep {x : List Nat} {s : Shared} {rest past : List Nat} {c : Nat} {pieces : List Str} {known : List (Nat × Option Nat)} {h' : Heap} {k : Nat} (hc : c ≠ 37) (h1 : x = past ++ c :: rest)
    (h3 : pieces.reverse = (out37 past).map (fun c => (⟨#[c]⟩ : Str))) (h4 : ∀ c a, List.lookup c known = some a → a = an37 c) (h6 : ∀ b o, s.heap.get? b = some o → h'.get? b = some o) :
    Tr37 x s rest (⟨#[c]⟩ :: pieces, (out37 past).length + 1, true, known, false) { s with heap := h', toks := k } := by
  have e : out37 (past ++ [c]) = out37 past ++ [c] := by
    unfold out37
    rw [List.filter_append, List.filter_cons_of_pos (by simpa using hc), List.filter_nil]
  refine ⟨past ++ [c], ⟨#[c]⟩ :: pieces, known, h', k, ?_, ?_, ?_, h4, rfl, h6⟩
  · rw [h1, List.append_assoc] <;> rfl
  · rw [e, List.length_append] <;> rfl
  · rw [e, List.reverse_cons, h3, List.map_append] <;> rfl
theorem Tr37.drop {x : List Nat} {s : Shared} {rest past : List Nat} {c : Nat} {pieces : List Str} {known : List (Nat × Option Nat)} {h' : Heap} {k : Nat} (hc : c = 37) (h1 : x = past ++ c :: rest)
    (h3 : pieces.reverse = (out37 past).map (fun c => (⟨#[c]⟩ : Str))) (h4 : ∀ c a, List.lookup c known = some a → a = an37 c) (h6 : ∀ b o, s.heap.get? b = some o → h'.get? b = some o) :
    Tr37 x s rest (pieces, (out37 past).length, true, known, false) { s with heap := h', toks := k } := by
  have e : out37 (past ++ [c]) = out37 past := by
    unfold out37
    rw [List.filter_append, List.filter_cons_of_neg (by simpa using hc), List.filter_nil, List.append_nil]
  refine ⟨past ++ [c], pieces, known, h', k, ?_, ?_, ?_, h4, rfl, h6⟩
  · rw [h1, List.append_assoc] <;> rfl
  · rw [e]
  · rw [e]; exact h3
theorem meets_tr37 {prog : Program} {w : World} (x : List Nat) (t : Tok) (d : Addr) (hd : (d == sysModules) = false) (hz : x.length ≤ 16000000) (ha : ∀ c ∈ x, c < 128) : MeetsIn prog w («str.translate» ⟨[.str (SX.S x) t, .ref d], []⟩) (fun A R s =>
    A.handled = none ∧ (∃ f, s.heap.MapOf (mixKind prog w) d f ∧ Tl37 (prog := prog) (w := w) f) ∧ ∀ (v : Value) (h' : Heap) (k : Nat), (∀ b o, s.heap.get? b = some o → h'.get? b = some o) → (∃ t', v = .str (SX.S (out37 x)) t') → R (.ok (.ret v)) { s with heap := h', toks := k }) := by
  refine .of_wp fun A R s h => ?_
  obtain ⟨hh, ⟨f, hm, hk⟩, h⟩ := h
  have hh1 : A.in1.handled = none := hh
  show wpAny _ _ (if ((SX.S x).length == 0) = true then (do rule "str.translate.empty"; ret (.str (SX.S x) t)) else (do
    let st ← forIn (SX.S x).cps (([], 0, (SX.S x).cps.all fun y => decide (y < 128), [], false) : List Str × Nat × Bool × List (Nat × Option Nat) × Bool) _
    _)) _ _ s
  by_cases h0 : ((SX.S x).length == 0) = true
  · rw [if_pos h0]
    have hx : x = [] := by
      rw [beq_iff_eq, SX.S_len] at h0
      exact List.eq_nil_of_length_eq_zero h0
    subst hx
    exact wpAny_bind (wpAny_rule (wpAny_pure ⟨_, rfl, h _ s.heap s.toks (fun _ _ e => e) ⟨t, rfl⟩⟩))
  · rw [if_neg h0]
    have hfast : ((SX.S x).cps.all fun y => decide (y < 128)) = true := by
      rw [← Array.all_toList]
      show (x.toArray.toList.all _) = true
      rw [List.toList_toArray, List.all_eq_true]
      exact fun c hc => decide_eq_true (ha c hc)
    rw [hfast]
    refine wpAny_bind (MeetsSeq2.wpAny_forIn_array _ (Tr37 x s) _ (fun c rest st s' hI => ?turn) (fun st s' hI => ?fin) (SX.S x).cps ([], 0, true, [], false) ?h0)
    case h0 =>
      refine ⟨[], [], [], s.heap, s.toks, ?_, rfl, rfl, fun c a z => ?_, rfl, fun _ _ e => e⟩
      · show x = [] ++ x.toArray.toList
        rw [List.toList_toArray, List.nil_append]
      · rw [List.lookup_nil] at z
        cases z
    case turn =>
      obtain ⟨past, pieces, known, h', k, e1, e2, e3, e4, e5, e6⟩ := hI
      subst e2
      subst e5
      have hpl : (out37 past).length ≤ 16000000 := by
        have q := congrArg List.length e1
        rw [List.length_append] at q
        exact Nat.le_trans (List.length_filter_le _ _) (by omega)
      have hm' : ({ s with heap := h', toks := k } : Shared).heap.MapOf (mixKind prog w) d f := mapOfK hm e6
      show wpAny _ _ (if tooLong (out37 past).length = true then _ else (if true = true then _ else _)) _ _ _
      rw [show tooLong (out37 past).length = false from PyProof.Rows.short24 (by omega), if_neg Bool.false_ne_true]
      rw [if_pos rfl]
      cases hl : List.lookup c known with
      | some a =>
        have ha2 := e4 c a hl
        subst ha2
        refine wpAny_bind (wpAny_pure ?_)
        by_cases hc : c = 37
        · have e : an37 c = none := if_pos hc
          rw [e]
          exact wpAny_pure (Tr37.drop hc e1 e3 e4 e6)
        · have e : an37 c = some c := if_neg hc
          rw [e]
          exact wpAny_pure (Tr37.keep hc e1 e3 e4 e6)
      | none =>
        have new : ∀ b, b = an37 c → ∀ c' a, List.lookup c' ((c, b) :: known) = some a → a = an37 c' := fun b hb c' a z => by
          rcases look_new z with ⟨q1, q2⟩ | q
          · rw [q2, hb, q1]
          · exact e4 c' a q
        refine wpAny_bind (tl37 hh1 hd hm' hk (fun hw h2 k2 k3 => ?_) (fun hw h2 k2 k3 => ?_))
        · have e : an37 c = none := if_pos hw
          refine wpAny_bind (wpAny_pure ?_)
          refine wpAny_pure ?_
          exact Tr37.drop (known := (c, none) :: known) hw e1 e3 (new none e.symm) (fun b o z => k3 b o (e6 b o z))
        · have e : an37 c = some c := if_neg hw
          refine wpAny_bind (wpAny_pure ?_)
          refine wpAny_pure ?_
          exact Tr37.keep (known := (c, some c) :: known) hw e1 e3 (new (some c) e.symm) (fun b o z => k3 b o (e6 b o z))
    case fin =>
      obtain ⟨past, pieces, known, h', k, e1, e2, e3, e4, e5, e6⟩ := hI
      subst e2
      subst e5
      have ex : x = past := by rw [e1, List.append_nil]
      have hl : (out37 past).length ≤ 16000000 := by
        rw [← ex]
        exact Nat.le_trans (List.length_filter_le _ _) hz
      show wpAny _ _ (if tooLong (out37 past).length = true then _ else retStr { cps := List.foldl (fun acc (p : Str) => acc ++ p.cps) #[] pieces.reverse }) _ _ _
      rw [show tooLong (out37 past).length = false from PyProof.Rows.short24 (by omega), if_neg Bool.false_ne_true, e3, pieces37, ← ex]
      have ev : (⟨#[] ++ (out37 x).toArray⟩ : Str) = SX.S (out37 x) := by
        rw [Array.empty_append] <;> rfl
      rw [ev]
      exact wpAny_bind (wpAny_mkStr (wpAny_pure ⟨_, rfl, h _ h' _ e6 ⟨_, rfl⟩⟩) (by rw [SX.S_len, sizeLine_eq, ex]; omega))
def rTr37 : V → List V → Hp → VK → Prop := fun x xs H Q => ∃ (t : Str) (d : Addr), x = .str t ∧ xs = [.ref d] ∧ H d = some (.dK [(Sum.inl 37, .non)]) ∧ (∀ c ∈ t.cps.toList, c < 128) ∧ t.length ≤ 16000000 ∧ Q (.str (SX.S (out37 t.cps.toList))) H
theorem mt_tr37 {X : Cx} (hc : X.calm = true) : MtR X "str.translate" rTr37 := by
  intro pins s σ H x xs v us Q I rx rs h
  obtain ⟨a, d, rfl, rfl, hd, ha, h3, h⟩ := h
  obtain ⟨t, rfl⟩ := rx
  obtain ⟨_, low, vs, kv, dd⟩ := dk_of I.hok hd
  cases rs with
  | cons r1 rs =>
    cases rs
    cases r1
    have ea : SX.S a.cps.toList = a := SX.S_tl a
    have hm := dd.mapOf
    have tl : Tl37 (prog := X.prog) (w := X.w) (valueAt vs) := by
      cases kv with
      | cons p r =>
        cases r
        rename_i b
        obtain ⟨k1, v1⟩ := b
        obtain ⟨e1, e2⟩ := p
        have e1 : Sum.inl 37 = k1 := e1
        have e2 : v1 = Value.none := e2
        subst e1 e2
        intro c
        unfold valueAt
        by_cases hc : c = 37
        · subst hc
          rfl
        · rw [if_neg hc]
          have hne : ¬ ((Sum.inl 37 : Key) = Sum.inl (c : Int)) := fun z => hc (by have := Sum.inl.inj z; omega)
          simp [List.find?, hne]
    rw [← ea]
    refine call_meetsIn F.slot_str_translate (typeIs_str _ _ _) F.entry_str_translate (F.args_str_translate_2 _ _) (meets_tr37 a.cps.toList t d low (by rw [Array.length_toList]; exact h3) ha) ⟨I.ok.hd hc, ⟨_, hm, tl⟩, ?_⟩
    intro v h' k hk ⟨t', e⟩
    subst e
    exact ⟨.str _, H, I.kept (t' := k) hk, ⟨t', rfl⟩, h⟩
end

/-! ### a text times an int -/
theorem op_mul_str {X : Cx} : OpR X (binaryOp .Mult) (fun x y H Q => ∃ a i, x = .str a ∧ y = .int i ∧ PySem.MulOk a i ∧ Q (.str (PySem.Txt.mul a i)) H) := fun pins s σ H x y v u Q I rx ry ⟨a, i, ex, ey, ok, q⟩ => by
  subst ex; subst ey
  obtain ⟨t, rfl⟩ := rx
  obtain ⟨t2, rfl⟩ := ry
  exact PySem.SB.mul ok (fun t' k => ⟨.str (PySem.Txt.mul a i), H, I.turnedL (ch := []) (fun _ _ _ e => e) (fun _ m => nomatch m), ⟨t', rfl⟩, q⟩)
theorem mulOk_a {n : Nat} (h : n ≤ 1000000) : PySem.MulOk (Str.ofString "a") (n : Int) := by
  refine ⟨?_, fun _ _ => ?_, fun _ _ => ?_⟩
  · rw [decide_eq_false (by omega), decide_eq_false (by omega)]; rfl
  · have e : (Str.ofString "a").length = 1 := by decide
    rw [e]
    intro z
    have : (1 : Int) ≤ (2 ^ 63 - 1) / (n : Int) := Int.le_ediv_of_mul_le (by omega) (by omega)
    omega
  · have e : (Str.ofString "a").length = 1 := by decide
    rw [e, Nat.one_mul, Int.toNat_natCast]
    unfold PySem.Builtin.Str.tooLong
    have : n ≤ sizeLine := Nat.le_trans h (by decide)
    exact decide_eq_false (by omega)
theorem mul_a {n : Nat} : (PySem.Txt.mul (Str.ofString "a") (n : Int)).cps = (List.replicate n (97 : Nat)).toArray := by
  unfold PySem.Txt.mul
  split
  · rw [show n = 0 by omega]; rfl
  · split
    · rename_i h
      have : n = 1 := by
        have e : ((Str.ofString "a").length == 0) = false := by decide
        rw [e, Bool.or_false] at h
        have := eq_of_beq h
        omega
      subst this
      decide
    · show List.foldl (fun x1 x2 => x1 ++ x2) #[] (List.replicate (n : Int).toNat (Str.ofString "a").cps) = _
      rw [Int.toNat_natCast, show (Str.ofString "a").cps = #[97] by decide]
      have : ∀ (n : Nat) (acc : Array Nat), List.foldl (fun (x1 x2 : Array Nat) => x1 ++ x2) acc (List.replicate n #[97]) = acc ++ (List.replicate n (97 : Nat)).toArray := by
        intro n
        induction n with
        | zero => intro acc; simp
        | succ n ih =>
          intro acc
          rw [List.replicate_succ, List.foldl_cons, ih, List.replicate_succ]
          apply Array.toList_inj.mp
          simp
      rw [this]
      simp

def keysIn (ks : List Str) (es : List DictEntry) : Bool := es.all fun e => match e.key with | .str z _ => ks.contains z | _ => false
theorem nsIn_none {K : PySem.W.Frag} {C : Addr} {c : Value} {od : Option Addr} {es : Array DictEntry} {n : Nat} {sl : Array (Option Value)} (h : K.lookup C = some ⟨c, od, .dict es n, sl⟩) {ks : List Str} (hk : keysIn ks es.toList = true) {z : Str} (hz : ks.contains z = false) : PySem.W.nsIn K C z = some none := by
  unfold PySem.W.nsIn
  rw [h]
  have k := List.all_eq_true.mp hk
  have f : es.toList.find? (fun x => x.key.isStr z) = none := by
    refine List.find?_eq_none.mpr fun e m hs => ?_
    have := k e m
    cases e with
    | mk hh key val =>
      cases key <;> simp [PySem.Value.isStr] at hs this
      rename_i y t
      subst hs
      rw [List.contains_iff_mem.mpr this] at hz
      cases hz
  have r : (es.toList.any fun x => x.refKey) = false := by
    refine List.any_eq_false.mpr fun e m => ?_
    have := k e m
    cases e with
    | mk hh key val =>
      cases key <;> simp [PySem.DictEntry.refKey] at this ⊢
  simp only [f, r]
  rfl

/-! ### match upon tuples -/
abbrev Bs := List (Nat × V)
abbrev TPt := V → L2.St → Hp → (Option Bs → Hp → Prop) → Prop
abbrev TPts := List V → L2.St → Hp → (Option Bs → Hp → Prop) → Prop
abbrev TCs := V → L2.Ends → L2.St → Hp → Prop
def BndR (X : Cx) (b : Nat × V) (c : Str × Value) : Prop := X.N[b.1]? = some c.1 ∧ Loc X.env.scope c.1 ∧ (X.fn c.1 = true ∨ X.env.scope.names.lookup c.1 = some .local) ∧ RelV b.2 c.2
inductive BndsR (X : Cx) : Bs → List (Str × Value) → Prop
  | nil : BndsR X [] []
  | cons {b c bs cs} : BndR X b c → BndsR X bs cs → BndsR X (b :: bs) (c :: cs)
theorem BndsR.app {X : Cx} : ∀ {bs cs bs' cs'}, BndsR X bs cs → BndsR X bs' cs' → BndsR X (bs ++ bs') (cs ++ cs')
  | _, _, _, _, .nil, h => h
  | _, _, _, _, .cons h r, h' => .cons h (r.app h')
def OptB (X : Cx) : Option Bs → Option (List (Str × Value)) → Prop
  | none, none => True
  | some b, some c => BndsR X b c
  | _, _ => False
structure PP (X : Cx) (p : Pattern) (t : TPt) : Prop where
  run : ∀ (pins : List (Addr × Obj)) (s : Shared) (σ : L2.St) (H : Hp) (v : V) (u : Value) (Q : Option Bs → Hp → Prop), Inv X pins σ H s → RelV v u → t v σ H Q →
    wpAny (model X.prog X.w) X.A (matchPattern p X.env u) (fun r s' => ∃ b H', Inv X pins σ H' s' ∧ OptB X b r ∧ Q b H') X.xe s
structure PPs (X : Cx) (ps : List Pattern) (t : TPts) : Prop where
  run : ∀ (pins : List (Addr × Obj)) (s : Shared) (σ : L2.St) (H : Hp) (vs : List V) (us : List Value) (Q : Option Bs → Hp → Prop), Inv X pins σ H s → Vals vs us → t vs σ H Q →
    wpAny (model X.prog X.w) X.A (matchEach ps X.env us) (fun r s' => ∃ b H', Inv X pins σ H' s' ∧ OptB X b r ∧ Q b H') X.xe s
structure PCs (X : Cx) (cs : List MatchCase) (t : TCs) : Prop where
  run : ∀ (pins : List (Addr × Obj)) (s : Shared) (σ : L2.St) (H : Hp) (v : V) (u : Value) (first : Bool) (D : L2.Ends), Inv X pins σ H s → RelV v u → t v D σ H →
    wpAny (model X.prog X.w) X.A (matchCases cs X.env u first) (SP X pins D) X.xe s
def tpVal (c : V) : TPt := fun v _ H Q => scal v c = true ∧ Q (if decide (v = c) = true then some [] else none) H
def tpCap (i : Nat) : TPt := fun v _ H Q => Q (some [(i, v)]) H
def tpWild : TPt := fun _ _ H Q => Q (some []) H
def tpSeq (K : PySem.W.Frag) (n : Nat) (t : TPts) : TPt := fun v σ H Q => ∃ a xs, v = .ref a ∧ SqT K H a xs ∧ (xs.length ≠ n → Q none H) ∧ (xs.length = n → t xs σ H Q)
def tpNil : TPts := fun vs _ H Q => vs = [] ∧ Q (some []) H
def tpCons (t : TPt) (u : TPts) : TPts := fun vs σ H Q => ∃ v r, vs = v :: r ∧ t v σ H fun b H1 => match b with
  | none => Q none H1
  | some bs => u r σ H1 fun b2 H2 => match b2 with
    | none => Q none H2
    | some cs => Q (some (bs ++ cs)) H2
def setB (σ : L2.St) (bs : Bs) : L2.St := bs.foldl (fun σ b => σ.set b.1 (some b.2)) σ
def tcNil : TCs := fun _ D σ H => D.nx σ H
def tcCons (tp : TPt) (tb : L2.TS) (u : TCs) : TCs := fun v D σ H => tp v σ H fun b H1 => match b with
  | none => u v D σ H1
  | some bs => tb D (setB σ bs) H1
def tMatch (te : TE) (t : TCs) : L2.TS := fun D σ H => te σ H fun v H1 => t v D σ H1
section
variable {X : Cx} {pos : Pos}
theorem mp_val {e : Expr} {c : V} (he : PE X e (tC c)) : PP X (.MatchValue e pos) (tpVal c) := by
  refine ⟨fun pins s σ H v u Q I r h => ?_⟩
  obtain ⟨hs, q⟩ := h
  refine wpAny_matchPattern_Value (thn (he.run pins s σ H (fun y H' => y = c ∧ H' = H) I ⟨rfl, rfl⟩) fun x s1 ⟨y, H1, I1, r1, e1, e2⟩ => ?_)
  subst e1; subst e2
  refine thn (op_eq pins s1 σ H1 v y u x (fun z H' => z = .bl (decide (v = y)) ∧ H' = H1) I1 r r1 ⟨hs, rfl, rfl⟩) fun c2 s2 ⟨z, H2, I2, r2, e3, e4⟩ => ?_
  subst e3; subst e4
  cases (show c2 = Value.bool (decide (v = y)) from r2)
  refine wpAny_truthy_bool ?_
  cases hd : decide (v = y) with
  | true => rw [hd] at q; exact ⟨some [], _, I2, .nil, q⟩
  | false => rw [hd] at q; exact ⟨none, _, I2, True.intro, q⟩
theorem mp_cap {i : Nat} {x : Str} (hi : X.N[i]? = some x) (hx : Loc X.env.scope x) (hf : X.fn x = true ∨ X.env.scope.names.lookup x = some .local := by first | exact .inl rfl | exact .inr rfl | assumption) : PP X (.MatchAs none (some x) pos) (tpCap i) := by
  refine ⟨fun pins s σ H v u Q I r h => ?_⟩
  exact wpAny_matchPattern_Capture ⟨some [(i, v)], H, I, .cons ⟨hi, hx, hf, r⟩ .nil, h⟩
theorem mp_wild : PP X (.MatchAs none none pos) tpWild := by
  refine ⟨fun pins s σ H v u Q I r h => ?_⟩
  exact wpAny_matchPattern_Capture ⟨some [], H, I, .nil, h⟩
theorem mp_nil : PPs X [] tpNil := by
  refine ⟨fun pins s σ H vs us Q I r h => ?_⟩
  exact wpAny_matchEach_nil ⟨some [], H, I, .nil, h.2⟩
theorem mp_cons {p : Pattern} {ps : List Pattern} {t : TPt} {u : TPts} (h1 : PP X p t) (h2 : PPs X ps u) (hp : p.isStar = false := by rfl) : PPs X (p :: ps) (tpCons t u) := by
  refine ⟨fun pins s σ H vs us Q I r h => ?_⟩
  obtain ⟨v, vr, e, h⟩ := h
  subst e
  cases r with
  | cons r rr =>
    refine wpAny_matchEach_cons (thn (h1.run pins s σ H _ _ _ I r h) fun o s1 ⟨b, H1, I1, ob, q⟩ => ?_) hp
    cases o with
    | none =>
      cases b with
      | none => exact ⟨none, H1, I1, True.intro, q⟩
      | some _ => exact ob.elim
    | some c =>
      cases b with
      | none => exact ob.elim
      | some bs =>
        refine thn (h2.run pins s1 σ H1 _ _ _ I1 rr q) fun o2 s2 ⟨b2, H2, I2, ob2, q2⟩ => ?_
        cases o2 with
        | none =>
          cases b2 with
          | none => exact ⟨none, H2, I2, True.intro, q2⟩
          | some _ => exact ob2.elim
        | some c2 =>
          cases b2 with
          | none => exact ob2.elim
          | some bs2 => exact ⟨some (bs ++ bs2), H2, I2, BndsR.app ob ob2, q2⟩
theorem mp_seq {ps : List Pattern} {n : Nat} {t : TPts} {K : PySem.W.Frag} (hc : X.calm = true) (h : PPs X ps t) (hn : ps.length = n := by rfl) (hstar : ps.findIdx? (·.isStar) = none := by rfl)
    (hwild : (ps.all fun p => p.isWildcard || (p.isStar && p.names.isEmpty)) = false := by rfl) (hK : X.K = K := by rfl) : PP X (.MatchSequence ps pos) (tpSeq K n t) := by
  subst hK; subst hn
  refine ⟨fun pins s σ H v u Q I r hw => ?_⟩
  obtain ⟨a, xs, e1, hq, q0, q1⟩ := hw
  subst e1
  cases r
  obtain ⟨its, rv, ht, hz⟩ := I.tuple hq
  have hlen : its.toArray.size = xs.length := by rw [List.size_toArray, ← rv.length]
  have sl := sizeLine_eq
  have hfit : (its.toArray.size : Int) < 2 ^ 63 := by rw [hlen]; omega
  by_cases hne : xs.length = ps.length
  · refine matchSeq_tuple_hit ht hfit (hlen.trans hne) ?_ hstar hwild
    have hsz : ps.length = its.toArray.size := (hlen.trans hne).symm
    rw [hsz]
    refine unpackItems_tuple (s := { s with toks := s.toks + 1 + 1 }) (I.ok.hd hc) ht fun h' hx => ?_
    have I1 : Inv X pins σ H { s with heap := h', toks := s.toks + 1 + 1 } := I.kept (t' := s.toks + 1 + 1) fun b o e => hx b o (Nat.ne_of_lt (Heap.lt_size e)) e
    exact h.run pins _ σ H xs _ Q I1 (by simpa using rv) (q1 hne)
  · refine matchSeq_tuple_miss ht hfit (fun e => hne (hlen.symm.trans e)) ?_ hstar hwild
    exact ⟨none, H, I.kept (t' := s.toks + 1 + 1) (fun _ _ e => e), True.intro, q0 hne⟩
theorem bind_all (hN : X.N.Nodup) {pins : List (Addr × Obj)} {H : Hp} : ∀ {bs : Bs} {cs : List (Str × Value)} {s : Shared} {σ : L2.St} {Q : Unit → Shared → Prop}, BndsR X bs cs → Inv X pins σ H s → (∀ s', Inv X pins (setB σ bs) H s' → Q () s') →
    wpAny (model X.prog X.w) X.A (assignInOrder (cs.map fun x => bindName X.env x.1) (cs.map (·.2))) Q X.xe s
  | _, _, s, σ, Q, .nil, I, h => assignInOrder_nil (h _ I)
  | _, _, s, σ, Q, .cons b r, I, h => assignInOrder_cons (wpAny_bindName (store_ok I hN b.1 b.2.1 b.2.2.2 (fun s1 I1 => bind_all hN r I1 h) b.2.2.1))
theorem mc_nil : PCs X [] tcNil := ⟨fun pins s σ H v u first D I r h => wpAny_matchCases_nil ⟨σ, H, I, h⟩⟩
theorem mc_cons {p : Pattern} {body : List Stmt} {rest : List MatchCase} {tp : TPt} {tb : L2.TS} {u : TCs} (hN : X.N.Nodup) (h1 : PP X p tp) (h2 : PSs X body tb) (h3 : PCs X rest u) : PCs X (⟨p, none, body⟩ :: rest) (tcCons tp tb u) := by
  refine ⟨fun pins s σ H v vu first D I r h => ?_⟩
  refine wpAny_matchCases_cons (thn (h1.run pins s σ H _ _ _ I r h) fun o s1 ⟨b, H1, I1, ob, q⟩ => ?_)
  cases o with
  | none =>
    cases b with
    | none => exact h3.run pins s1 σ H1 v vu false D I1 r q
    | some _ => exact ob.elim
  | some c =>
    cases b with
    | none => exact ob.elim
    | some bs => exact bind_all hN ob I1 fun s2 I2 => h2.run pins s2 _ H1 D I2 q
theorem ps_match {e : Expr} {cs : List MatchCase} {te : TE} {t : TCs} (he : PE X e te) (hc : PCs X cs t) : PS X (.Match e cs pos) (tMatch te t) := by
  refine ⟨fun pins s σ H D I h => ?_⟩
  exact wpAny_Match (thn (he.run pins s σ H _ I h) fun v s1 ⟨y, H1, I1, r1, q1⟩ => hc.run pins s1 σ H1 y v true D I1 r1 q1)
end

/-! ### several except clauses, some of them with a name -/
abbrev Suite := Addr → Value → Option Addr → L2.TS
/-- the ends behind a suite whose clause has a name at i: the name is gone -/
def offN (i : Nat) (D : L2.Ends) : L2.Ends := { nx := fun σ H => D.nx (σ.set i none) H, rt := D.rt, bk := fun σ H => D.bk (σ.set i none) H, ct := fun σ H => D.ct (σ.set i none) H }
def wNm (K : PySem.W.Frag) (Wout : L2.WX) (D : L2.Ends) : List (Value × Option Nat × Suite) → L2.WX
  | [] => Wout
  | (c, none, ts) :: r => fun cls d σ H => ∃ b, PySem.W.exmOne K cls c = some b ∧ (b = true → ∀ a, H a = none → ts a cls d D σ H) ∧ (b = false → wNm K Wout D r cls d σ H)
  | (c, some i, ts) :: r => fun cls d σ H => ∃ b, PySem.W.exmOne K cls c = some b ∧ (b = true → ∀ a, H a = none → ts a cls d (offN i D) (σ.set i (some (.ref a))) H) ∧ (b = false → wNm K Wout D r cls d σ H)
inductive Hds (X : Cx) : List ExceptHandler → List (Value × Option Nat × Suite) → Prop
  | nil : Hds X [] []
  | one {x : Str} {c : Value} {ts : Suite} {b₀ : Stmt} {suite : List Stmt} {np p : Pos} {hds : List ExceptHandler} {l : List (Value × Option Nat × Suite)} (hc : L2.Names X x c)
      (hsu : ∀ (a : Addr) (oe : Obj) (cls : Value) (d : Option Addr) (pn : List (Addr × Obj)), L2.Zc cls d oe → (∃ vs, oe.data = .fields vs) → PSs (X.suite a ((a, oe) :: pn)) (b₀ :: suite) (ts a cls d)) (r : Hds X hds l) :
      Hds X (.ExceptHandler (some (.Name x np)) none (b₀ :: suite) p :: hds) ((c, none, ts) :: l)
  | nm {x n : Str} {i : Nat} {c : Value} {ts : Suite} {b₀ : Stmt} {suite : List Stmt} {np p : Pos} {hds : List ExceptHandler} {l : List (Value × Option Nat × Suite)} (hc : L2.Names X x c) (hi : X.N[i]? = some n) (hln : X.env.kindOf n = some .local)
      (hsu : ∀ (a : Addr) (oe : Obj) (cls : Value) (d : Option Addr) (pn : List (Addr × Obj)), L2.Zc cls d oe → (∃ vs, oe.data = .fields vs) → PSs (X.suite a ((a, oe) :: pn)) (b₀ :: suite) (ts a cls d)) (r : Hds X hds l) :
      Hds X (.ExceptHandler (some (.Name x np)) (some n) (b₀ :: suite) p :: hds) ((c, some i, ts) :: l)
section
variable {X : Cx} {body : List Stmt} {h₀ : ExceptHandler} {hds : List ExceptHandler} {l : List (Value × Option Nat × Suite)} {pos : Pos} {tb : L2.WX → L2.TS} {Wout : L2.WX}
theorem ps_try_nm (hs : X.stack = X.env :: X.outer) (hf : X.env.frame = some X.env.locals) (hN : X.N.Nodup) (tk : L2.Takes X Wout)
    (hb : ∀ (W : L2.WX) (pn : List (Addr × Obj)) (xe : Value → Shared → Prop), L2.Takes (X.tr pn xe) W → PassesOwn (model X.prog X.w) X.A X.env xe → PSs (X.tr pn xe) body (tb W))
    (hh : Hds X (h₀ :: hds) l) : PS X (.Try body (h₀ :: hds) [] [] pos) (fun D σ H => tb (wNm X.K Wout D l) D σ H) := by
  refine ⟨fun pins s σ H D I h => wpAny_Try_except ?_⟩
  have ok := I.ok
  have hfr : X.A.frames = some (X.env :: X.outer) := by rw [ok.frames, hs]
  refine wpAny_mono ((hb (wNm X.K Wout D l) (X.pn ++ pins) (fun e s₁ => wpAny (model X.prog X.w) X.A (noteFrame e X.env) (fun _ s₂ => wpAny (model X.prog X.w) X.A (setFlight e none) (fun _ s₃ =>
    wpAny (model X.prog X.w) X.A (handleBy e X.env (h₀ :: hds)) (SP X pins D) X.xe s₃) X.xe s₂) X.xe s₁) (fun u s' xx => ?_) PassesOwn.looking).run [] s σ H D (I.toTry _) h) (fun f s1 fin => ?_) (fun _ _ z => z)
  · obtain ⟨a, B, sI, pins', σ', H', cls, d, rfl, J', nb, up, sky, na, os, ag, want⟩ := xx
    have J : Inv X pins σ' H' sI := J'.ofTry ok
    rw [hs] at sky
    show wpAny (model X.prog X.w) X.A (noteFrame (.ref a) X.env) _ _ _
    refine L2.Sky.land L2.Zc.steady hfr hf sky fun h3 fl3 up3 => ?_
    have J3 : Inv X pins σ' H' { s' with heap := h3 } := J.landed nb fl3.1 (up.trans up3) os ag
    obtain ⟨oe3, vs3, he3, hz3, hd3⟩ := fl3.there
    have out : a ∉ frs (X.env :: X.outer) := fun hm => by
      obtain ⟨_, o', e', far⟩ := fl3.2.2.1.mem hm
      rw [he3] at e'; cases e'
      exact far _ hd3
    have nL : a ≠ X.env.locals := fun z => out (List.mem_filterMap.mpr ⟨X.env, List.mem_cons_self, by rw [hf, z]⟩)
    have nF : a ∉ X.fs := fun hm => by
      obtain ⟨e, he, q⟩ := List.mem_filterMap.mp hm
      exact out (List.mem_filterMap.mpr ⟨e, List.mem_cons_of_mem _ he, q⟩)
    have S3 := J3.suite he3 hd3 na nL nF
    have test : ∀ {x : Str} {c : Value} {np : Pos} {Q E : Value → Shared → Prop}, L2.Names X x c → Q c { s' with heap := h3 } → wpAny (model X.prog X.w) (X.A.mark (some (.ref a))) (eval (.Name x np) X.env) Q E { s' with heap := h3 } := fun {x c np Q E} hc q => by
      obtain ⟨hg, hdbg, hm | ⟨hm, hv, hnn⟩⟩ := hc
      · exact ld_glob (X := X.suite a ((a, oe3) :: (X.pn ++ pins))) S3 hg hm q hdbg
      · exact ld_blt (X := X.suite a ((a, oe3) :: (X.pn ++ pins))) S3 hg hm hv q hnn hdbg
    have LT : PySem.W.Looks (model X.prog X.w) h3 (typeOf (.ref a)) cls := fun A Q E s k q => wpAny_typeOf_ref (k _ _ he3) (by rw [hz3.1]; exact q)
    have along : ∀ {hs' : List ExceptHandler} {l' : List (Value × Option Nat × Suite)}, Hds X hs' l' → wNm X.K Wout D l' cls d σ' H' →
        wpAny (model X.prog X.w) X.A (handleBy (.ref a) X.env hs') (SP X pins D) X.xe { s' with heap := h3 } := by
      intro hs' l' hk
      induction hk with
      | nil =>
        intro want
        refine wpAny_handleBy_nil ?_
        obtain ⟨_, _, _, _, _, T, _, _, he, _, hd, h1, _⟩ := id fl3
        unfold PySem.passOn
        refine wpAny_bind (wpAny_field he hd h1 ?_)
        rw [if_neg (show ¬ ((Value.ref T == Value.none) = true) from by simp)]
        have gone : wpAny (model X.prog X.w) X.A (setFlight (.ref a) X.env.frame) (fun _ s4 => wpAny (model X.prog X.w) X.A (throw (.ref a) : Sem Flow) (SP X pins D) X.xe s4) X.xe { s' with heap := h3 } := by
          rw [hf]
          exact HandSPX.setFlight_upZ fl3 fun h4 hh4 up4 => wpAny_throw (tk _ _ ⟨a, B, sI, pins, σ', H', cls, d, rfl, J, nb, (up.trans up3).trans up4, .inr (.inr (by rw [hs]; exact hh4)), na, os, ag, want⟩)
        first
          | exact wpAny_bind (wpAny_pure (wpAny_bind gone))
          | exact wpAny_bind gone
      | @one x c ts b₀ suite np p hs2 l2 hc hsu r ih =>
        intro want
        obtain ⟨b, hb1, yes, no⟩ := want
        refine wpAny_handleBy_cons (codeAny_handlers_test (test hc ((PySem.W.exm_one (M := model X.prog X.w) J3.kIn LT hb1).here ?_))) (by intro q; cases q)
        cases b with
        | false => exact ih (no rfl)
        | true =>
          refine codeAny_handlers_suite (HandSPX.lands_againZ fl3 fun h4 fl4 up4 => ?_)
          have J4 : Inv X pins σ' H' { s' with heap := h4 } := J.landed nb fl4.1 ((up.trans up3).trans up4) os ag
          obtain ⟨oe4, vs4, he4, hz4, hd4⟩ := fl4.there
          refine wpAny_mono ((hsu a oe4 cls d (X.pn ++ pins) hz4 ⟨_, hd4⟩).run [] _ _ H' _ (J4.suite he4 hd4 na nL nF) (yes rfl a na)) (fun f s6 end6 => ?_) (fun _ _ z => False.elim z)
          cases f with
          | next => obtain ⟨_, _, S6, q6⟩ := end6; exact ⟨_, _, S6.unsuite ok, q6⟩
          | brk => obtain ⟨_, _, S6, q6⟩ := end6; exact ⟨_, _, S6.unsuite ok, q6⟩
          | cont => obtain ⟨_, _, S6, q6⟩ := end6; exact ⟨_, _, S6.unsuite ok, q6⟩
          | ret u => obtain ⟨_, _, _, S6, r6, q6⟩ := end6; exact ⟨_, _, _, S6.unsuite ok, r6, q6⟩
      | @nm x n i c ts b₀ suite np p hs2 l2 hc hi hln hsu r ih =>
        intro want
        obtain ⟨b, hb1, yes, no⟩ := want
        refine wpAny_handleBy_cons (codeAny_handlers_test (test hc ((PySem.W.exm_one (M := model X.prog X.w) J3.kIn LT hb1).here ?_))) (by intro q; cases q)
        cases b with
        | false => exact ih (no rfl)
        | true =>
          refine codeAny_handlers_suite_as (HandSPX.lands_againZ fl3 fun h4 fl4 up4 => ?_)
          have J4 : Inv X pins σ' H' { s' with heap := h4 } := J.landed nb fl4.1 ((up.trans up3).trans up4) os ag
          obtain ⟨oe4, vs4, he4, hz4, hd4⟩ := fl4.there
          refine store_ok (X := X.suite a ((a, oe4) :: (X.pn ++ pins))) (v := .ref a) (J4.suite he4 hd4 na nL nF) hN hi (.inl hln) rfl (fun s5 S5 => ?_) (.inr hln)
          refine wpAny_mono ((hsu a oe4 cls d (X.pn ++ pins) hz4 ⟨_, hd4⟩).run [] s5 _ H' _ S5 (yes rfl a na)) (fun f s6 end6 => ?_) (fun _ _ z => False.elim z)
          have wiped : ∀ {σ6 : L2.St} {H6 : Hp} {Q : Shared → Prop}, Inv (X.suite a ((a, oe4) :: (X.pn ++ pins))) [] σ6 H6 s6 → (∀ s7, Inv X pins (σ6.set i none) H6 s7 → Q s7) →
              wpAny (model X.prog X.w) X.A (do bindName X.env n .none; unbindBehindTheSuite X.env n p) (fun _ s7 => Q s7) X.xe s6 := fun S6 go => gone_ok (S6.unsuite ok) hN hi hln go
          cases f with
          | next => obtain ⟨_, _, S6, q6⟩ := end6; exact wiped S6 fun s7 J7 => ⟨_, _, J7, q6⟩
          | brk => obtain ⟨_, _, S6, q6⟩ := end6; exact wiped S6 fun s7 J7 => ⟨_, _, J7, q6⟩
          | cont => obtain ⟨_, _, S6, q6⟩ := end6; exact wiped S6 fun s7 J7 => ⟨_, _, J7, q6⟩
          | ret u => obtain ⟨_, _, _, S6, r6, q6⟩ := end6; exact wiped S6 fun s7 J7 => ⟨_, _, _, J7, r6, q6⟩
    exact along hh want
  · cases f with
    | next => obtain ⟨_, _, J', q⟩ := fin; exact wpAny_execs_nil ⟨_, _, J'.ofTry ok, q⟩
    | brk => obtain ⟨_, _, J', q⟩ := fin; exact ⟨_, _, J'.ofTry ok, q⟩
    | cont => obtain ⟨_, _, J', q⟩ := fin; exact ⟨_, _, J'.ofTry ok, q⟩
    | ret u => obtain ⟨_, _, _, J', r, q⟩ := fin; exact ⟨_, _, _, J'.ofTry ok, r, q⟩
end
theorem kit_ownF {K : PySem.W.Frag} {B C : Addr} (h1 : PySem.W.subIn K (.ref C) (.type "BaseException") = some true) (h2 : PySem.W.typeIn K (.ref C) = some (.type "type")) (h3 : PySem.W.subIn K (.ref B) (.ref C) = some false) (h4 : PySem.W.subIn K (.ref C) (.ref C) = some true) : PySem.W.kitOne K (.ref B) (.ref C) = some false := by
  have h0 : (PySem.W.clsIn K C).isSome = true := by
    have h1 : PySem.W.mroIn K C (.type "BaseException") = some true := h1
    unfold PySem.W.mroIn at h1
    cases e : PySem.W.clsIn K C with
    | some _ => rfl
    | none => rw [e] at h1; cases h1
  have ne : ((Value.ref B : Value) == .ref C) = false := by
    refine Bool.eq_false_iff.mpr fun z => ?_
    have z := eq_of_beq z
    rw [z, h4] at h3; cases h3
  unfold PySem.W.kitOne
  rw [if_neg (by rw [ne]; exact Bool.false_ne_true)]
  show (if ((PySem.W.clsIn K C).isSome && PySem.W.typeIn K (.ref C) == some (.type "type")) = true then PySem.W.subIn K (.ref B) (.ref C) else none) = some false
  rw [h0, h2, h3]
  rfl
theorem call_isE2 {X : Cx} {a D : Addr} {cls : Value} {d : Option Addr} {oe : Obj} {pn : List (Addr × Obj)} (C : ExcC X.K D) (hz : Zc cls d oe) (hf : ∃ vs, oe.data = .fields vs) :
    CallR (X.suite a ((a, oe) :: pn)) (.builtin "isinstance") (fun xs H Q => (cls = .ref D ∧ d = none) ∧ rIsE X.K D a xs H Q) := fun pins s σ H xs us Q I hv ⟨⟨h1, h2⟩, h⟩ => by
  subst h1; subst h2
  exact call_isE C hz hf pins s σ H xs us Q I hv h
theorem klo {X : Cx} {K : PySem.W.Frag} (h : X.K = K := by rfl) : CallR X (.type "list") (fun xs H Q => ∃ p ys, xs = [.ref p] ∧ (SqL K H p ys ∨ SqT K H p ys) ∧ ∀ l, H l = none → Q (.ref l) (upd H l (.lst ys))) := by subst h; exact call_list_of

def topS (i : Nat) : Stmt := PySem.Challenge.pw_oathledger_k55_whole_strangers_commute.main.body.getD i (.Pass ⟨0, 0, 0, 0⟩)
abbrev s_Refused____init__ : Stmt := inClass (topS 3) 0
theorem sc_Refused____init__ : FnScope ["self", "reason"] ["self", "reason"] (defScope s_Refused____init__) := ⟨rfl, rfl, rfl, by decide +kernel, rfl, by decide +kernel, by decide +kernel⟩
abbrev s_BadCommand____init__ : Stmt := inClass (topS 4) 0
theorem sc_BadCommand____init__ : FnScope ["self", "reason", "statement"] ["self", "reason", "statement"] (defScope s_BadCommand____init__) := ⟨rfl, rfl, rfl, by decide +kernel, rfl, by decide +kernel, by decide +kernel⟩
abbrev s_Accounts____init__ : Stmt := inClass (topS 10) 0
theorem sc_Accounts____init__ : FnScope ["self"] ["self"] (defScope s_Accounts____init__) := ⟨rfl, rfl, rfl, by decide +kernel, rfl, by decide +kernel, by decide +kernel⟩
abbrev s_Accounts__create : Stmt := inClass (topS 10) 1
theorem sc_Accounts__create : FnScope ["self", "client", "name"] ["self", "client", "name"] (defScope s_Accounts__create) := ⟨rfl, rfl, rfl, by decide +kernel, rfl, by decide +kernel, by decide +kernel⟩
abbrev s_Accounts__close : Stmt := inClass (topS 10) 2
theorem sc_Accounts__close : FnScope ["self", "client", "name"] ["self", "client", "name"] (defScope s_Accounts__close) := ⟨rfl, rfl, rfl, by decide +kernel, rfl, by decide +kernel, by decide +kernel⟩
abbrev s_Accounts__issue : Stmt := inClass (topS 10) 3
theorem sc_Accounts__issue : FnScope ["self", "client", "name", "amount"] ["self", "client", "name", "amount"] (defScope s_Accounts__issue) := ⟨rfl, rfl, rfl, by decide +kernel, rfl, by decide +kernel, by decide +kernel⟩
abbrev s_Accounts__burn : Stmt := inClass (topS 10) 4
theorem sc_Accounts__burn : FnScope ["self", "client", "name", "amount"] ["self", "client", "name", "amount"] (defScope s_Accounts__burn) := ⟨rfl, rfl, rfl, by decide +kernel, rfl, by decide +kernel, by decide +kernel⟩
abbrev s_Accounts__pay : Stmt := inClass (topS 10) 5
theorem sc_Accounts__pay : FnScope ["self", "client", "source", "target", "amount"] ["self", "client", "source", "target", "amount"] (defScope s_Accounts__pay) := ⟨rfl, rfl, rfl, by decide +kernel, rfl, by decide +kernel, by decide +kernel⟩
abbrev s_Accounts__hold : Stmt := inClass (topS 10) 6
theorem sc_Accounts__hold : FnScope ["self", "client", "source", "target", "amount", "key"] ["self", "client", "source", "target", "amount", "key"] (defScope s_Accounts__hold) := ⟨rfl, rfl, rfl, by decide +kernel, rfl, by decide +kernel, by decide +kernel⟩
abbrev s_Accounts__settle : Stmt := inClass (topS 10) 7
theorem sc_Accounts__settle : FnScope ["self", "client", "key", "source", "target", "amount"] ["self", "client", "key"] (defScope s_Accounts__settle) := ⟨rfl, rfl, rfl, by decide +kernel, rfl, by decide +kernel, by decide +kernel⟩
abbrev s_Accounts__release : Stmt := inClass (topS 10) 8
theorem sc_Accounts__release : FnScope ["self", "client", "key", "source", "target", "amount"] ["self", "client", "key"] (defScope s_Accounts__release) := ⟨rfl, rfl, rfl, by decide +kernel, rfl, by decide +kernel, by decide +kernel⟩
abbrev s_Accounts__balance : Stmt := inClass (topS 10) 9
theorem sc_Accounts__balance : FnScope ["self", "name"] ["self", "name"] (defScope s_Accounts__balance) := ⟨rfl, rfl, rfl, by decide +kernel, rfl, by decide +kernel, by decide +kernel⟩
abbrev s_Accounts__owner : Stmt := inClass (topS 10) 10
theorem sc_Accounts__owner : FnScope ["self", "name"] ["self", "name"] (defScope s_Accounts__owner) := ⟨rfl, rfl, rfl, by decide +kernel, rfl, by decide +kernel, by decide +kernel⟩
abbrev s_Accounts__supply : Stmt := inClass (topS 10) 11
theorem sc_Accounts__supply : FnScope ["self"] ["self"] (defScope s_Accounts__supply) := ⟨rfl, rfl, rfl, by decide +kernel, rfl, by decide +kernel, by decide +kernel⟩
abbrev s_Accounts__rows : Stmt := inClass (topS 10) 12
theorem sc_Accounts__rows : FnScope ["self", "name"] ["self"] (defScope s_Accounts__rows) := ⟨rfl, rfl, rfl, by decide +kernel, rfl, by decide +kernel, by decide +kernel⟩
abbrev s_Accounts__held : Stmt := inClass (topS 10) 13
theorem sc_Accounts__held : FnScope ["self", "key"] ["self"] (defScope s_Accounts__held) := ⟨rfl, rfl, rfl, by decide +kernel, rfl, by decide +kernel, by decide +kernel⟩
abbrev s_Accounts__clone : Stmt := inClass (topS 10) 14
theorem sc_Accounts__clone : FnScope ["self", "accounts"] ["self"] (defScope s_Accounts__clone) := ⟨rfl, rfl, rfl, by decide +kernel, rfl, by decide +kernel, by decide +kernel⟩
abbrev s_Accounts___check : Stmt := inClass (topS 10) 15
theorem sc_Accounts___check : FnScope ["self", "name"] ["self", "name"] (defScope s_Accounts___check) := ⟨rfl, rfl, rfl, by decide +kernel, rfl, by decide +kernel, by decide +kernel⟩
abbrev s_Accounts___check_owner : Stmt := inClass (topS 10) 16
theorem sc_Accounts___check_owner : FnScope ["self", "client", "name"] ["self", "client", "name"] (defScope s_Accounts___check_owner) := ⟨rfl, rfl, rfl, by decide +kernel, rfl, by decide +kernel, by decide +kernel⟩
abbrev s_Accounts___check_funds : Stmt := inClass (topS 10) 17
theorem sc_Accounts___check_funds : FnScope ["self", "name", "amount"] ["self", "name", "amount"] (defScope s_Accounts___check_funds) := ⟨rfl, rfl, rfl, by decide +kernel, rfl, by decide +kernel, by decide +kernel⟩
abbrev s_Accounts___check_payment : Stmt := inClass (topS 10) 18
theorem sc_Accounts___check_payment : FnScope ["self", "client", "source", "target", "amount"] ["self", "client", "source", "target", "amount"] (defScope s_Accounts___check_payment) := ⟨rfl, rfl, rfl, by decide +kernel, rfl, by decide +kernel, by decide +kernel⟩
abbrev s_Accounts___hold_of : Stmt := inClass (topS 10) 19
theorem sc_Accounts___hold_of : FnScope ["self", "key"] ["self", "key"] (defScope s_Accounts___hold_of) := ⟨rfl, rfl, rfl, by decide +kernel, rfl, by decide +kernel, by decide +kernel⟩
abbrev s_Accounts___is_held : Stmt := inClass (topS 10) 20
theorem sc_Accounts___is_held : FnScope ["self", "name", "hold"] ["self", "name"] (defScope s_Accounts___is_held) := ⟨rfl, rfl, rfl, by decide +kernel, rfl, by decide +kernel, by decide +kernel⟩
abbrev s_is_printable : Stmt := topS 18
theorem sc_is_printable : FnScope ["value"] ["value"] (defScope s_is_printable) := ⟨rfl, rfl, rfl, by decide +kernel, rfl, by decide +kernel, by decide +kernel⟩
abbrev s_is_short : Stmt := topS 19
theorem sc_is_short : FnScope ["value", "most"] ["value", "most"] (defScope s_is_short) := ⟨rfl, rfl, rfl, by decide +kernel, rfl, by decide +kernel, by decide +kernel⟩
abbrev s_is_decimal : Stmt := topS 20
theorem sc_is_decimal : FnScope ["word"] ["word"] (defScope s_is_decimal) := ⟨rfl, rfl, rfl, by decide +kernel, rfl, by decide +kernel, by decide +kernel⟩
abbrev s_encode : Stmt := topS 21
theorem sc_encode : FnScope ["value"] ["value"] (defScope s_encode) := ⟨rfl, rfl, rfl, by decide +kernel, rfl, by decide +kernel, by decide +kernel⟩
abbrev s_text_of : Stmt := topS 22
theorem sc_text_of : FnScope ["value", "depth", "room", "text"] ["value", "depth", "room"] (defScope s_text_of) := ⟨rfl, rfl, rfl, by decide +kernel, rfl, by decide +kernel, by decide +kernel⟩
abbrev s_tuple_text : Stmt := topS 23
theorem sc_tuple_text : FnScope ["value", "depth", "room", "texts", "item", "text"] ["value", "depth", "room"] (defScope s_tuple_text) := ⟨rfl, rfl, rfl, by decide +kernel, rfl, by decide +kernel, by decide +kernel⟩
abbrev s_single_text : Stmt := topS 24
theorem sc_single_text : FnScope ["value"] ["value"] (defScope s_single_text) := ⟨rfl, rfl, rfl, by decide +kernel, rfl, by decide +kernel, by decide +kernel⟩
abbrev s_has_few_digits : Stmt := topS 25
theorem sc_has_few_digits : FnScope ["value"] ["value"] (defScope s_has_few_digits) := ⟨rfl, rfl, rfl, by decide +kernel, rfl, by decide +kernel, by decide +kernel⟩
abbrev s_parts_of : Stmt := topS 33
theorem sc_parts_of : FnScope ["text"] ["text"] (defScope s_parts_of) := ⟨rfl, rfl, rfl, by decide +kernel, rfl, by decide +kernel, by decide +kernel⟩
abbrev s_words_of : Stmt := topS 34
theorem sc_words_of : FnScope ["part", "index", "words"] ["part", "index"] (defScope s_words_of) := ⟨rfl, rfl, rfl, by decide +kernel, rfl, by decide +kernel, by decide +kernel⟩
abbrev s_is_name : Stmt := topS 35
theorem sc_is_name : FnScope ["word"] ["word"] (defScope s_is_name) := ⟨rfl, rfl, rfl, by decide +kernel, rfl, by decide +kernel, by decide +kernel⟩
abbrev s_is_key : Stmt := topS 36
theorem sc_is_key : FnScope ["word"] ["word"] (defScope s_is_key) := ⟨rfl, rfl, rfl, by decide +kernel, rfl, by decide +kernel, by decide +kernel⟩
abbrev s_is_value : Stmt := topS 37
theorem sc_is_value : FnScope ["word"] ["word"] (defScope s_is_value) := ⟨rfl, rfl, rfl, by decide +kernel, rfl, by decide +kernel, by decide +kernel⟩
abbrev s_is_amount : Stmt := topS 38
theorem sc_is_amount : FnScope ["word"] ["word"] (defScope s_is_amount) := ⟨rfl, rfl, rfl, by decide +kernel, rfl, by decide +kernel, by decide +kernel⟩
abbrev s_consists_of : Stmt := topS 39
theorem sc_consists_of : FnScope ["word", "characters", "most", "character"] ["word", "characters", "most"] (defScope s_consists_of) := ⟨rfl, rfl, rfl, by decide +kernel, rfl, by decide +kernel, by decide +kernel⟩
abbrev s_parse_command : Stmt := topS 42
theorem sc_parse_command : FnScope ["text", "index", "part"] ["text"] (defScope s_parse_command) := ⟨rfl, rfl, rfl, by decide +kernel, rfl, by decide +kernel, by decide +kernel⟩
abbrev s_parse_statement : Stmt := topS 43
theorem sc_parse_statement : FnScope ["part", "index", "words", "kinds", "arguments", "kind", "word"] ["part", "index"] (defScope s_parse_statement) := ⟨rfl, rfl, rfl, by decide +kernel, rfl, by decide +kernel, by decide +kernel⟩
abbrev s_parse_argument : Stmt := topS 44
theorem sc_parse_argument : FnScope ["kind", "word", "index"] ["kind", "word", "index"] (defScope s_parse_argument) := ⟨rfl, rfl, rfl, by decide +kernel, rfl, by decide +kernel, by decide +kernel⟩
abbrev s_is_of_kind : Stmt := topS 45
theorem sc_is_of_kind : FnScope ["kind", "word"] ["kind", "word"] (defScope s_is_of_kind) := ⟨rfl, rfl, rfl, by decide +kernel, rfl, by decide +kernel, by decide +kernel⟩
abbrev s_Sessions____init__ : Stmt := inClass (topS 47) 0
theorem sc_Sessions____init__ : FnScope ["self"] ["self"] (defScope s_Sessions____init__) := ⟨rfl, rfl, rfl, by decide +kernel, rfl, by decide +kernel, by decide +kernel⟩
abbrev s_Sessions__last : Stmt := inClass (topS 47) 1
theorem sc_Sessions__last : FnScope ["self", "client"] ["self", "client"] (defScope s_Sessions__last) := ⟨rfl, rfl, rfl, by decide +kernel, rfl, by decide +kernel, by decide +kernel⟩
abbrev s_Sessions__answer : Stmt := inClass (topS 47) 2
theorem sc_Sessions__answer : FnScope ["self", "client"] ["self", "client"] (defScope s_Sessions__answer) := ⟨rfl, rfl, rfl, by decide +kernel, rfl, by decide +kernel, by decide +kernel⟩
abbrev s_Sessions__remember : Stmt := inClass (topS 47) 3
theorem sc_Sessions__remember : FnScope ["self", "client", "number", "answer"] ["self", "client", "number", "answer"] (defScope s_Sessions__remember) := ⟨rfl, rfl, rfl, by decide +kernel, rfl, by decide +kernel, by decide +kernel⟩
abbrev s_Sessions__rows : Stmt := inClass (topS 47) 4
theorem sc_Sessions__rows : FnScope ["self", "client"] ["self"] (defScope s_Sessions__rows) := ⟨rfl, rfl, rfl, by decide +kernel, rfl, by decide +kernel, by decide +kernel⟩
abbrev s_Sessions__numbers : Stmt := inClass (topS 47) 5
theorem sc_Sessions__numbers : FnScope ["self"] ["self"] (defScope s_Sessions__numbers) := ⟨rfl, rfl, rfl, by decide +kernel, rfl, by decide +kernel, by decide +kernel⟩
abbrev s_Sessions__clone : Stmt := inClass (topS 47) 6
theorem sc_Sessions__clone : FnScope ["self", "sessions"] ["self"] (defScope s_Sessions__clone) := ⟨rfl, rfl, rfl, by decide +kernel, rfl, by decide +kernel, by decide +kernel⟩
abbrev s_Store____init__ : Stmt := inClass (topS 50) 0
theorem sc_Store____init__ : FnScope ["self"] ["self"] (defScope s_Store____init__) := ⟨rfl, rfl, rfl, by decide +kernel, rfl, by decide +kernel, by decide +kernel⟩
abbrev s_Store__put : Stmt := inClass (topS 50) 1
theorem sc_Store__put : FnScope ["self", "client", "key", "value"] ["self", "client", "key", "value"] (defScope s_Store__put) := ⟨rfl, rfl, rfl, by decide +kernel, rfl, by decide +kernel, by decide +kernel⟩
abbrev s_Store__read : Stmt := inClass (topS 50) 2
theorem sc_Store__read : FnScope ["self", "key"] ["self", "key"] (defScope s_Store__read) := ⟨rfl, rfl, rfl, by decide +kernel, rfl, by decide +kernel, by decide +kernel⟩
abbrev s_Store__drop : Stmt := inClass (topS 50) 3
theorem sc_Store__drop : FnScope ["self", "client", "key"] ["self", "client", "key"] (defScope s_Store__drop) := ⟨rfl, rfl, rfl, by decide +kernel, rfl, by decide +kernel, by decide +kernel⟩
abbrev s_Store__swap : Stmt := inClass (topS 50) 4
theorem sc_Store__swap : FnScope ["self", "key", "old", "new"] ["self", "key", "old", "new"] (defScope s_Store__swap) := ⟨rfl, rfl, rfl, by decide +kernel, rfl, by decide +kernel, by decide +kernel⟩
abbrev s_Store__matching : Stmt := inClass (topS 50) 5
theorem sc_Store__matching : FnScope ["self", "prefix", "key"] ["self", "prefix"] (defScope s_Store__matching) := ⟨rfl, rfl, rfl, by decide +kernel, rfl, by decide +kernel, by decide +kernel⟩
abbrev s_Store__rows : Stmt := inClass (topS 50) 6
theorem sc_Store__rows : FnScope ["self", "key"] ["self"] (defScope s_Store__rows) := ⟨rfl, rfl, rfl, by decide +kernel, rfl, by decide +kernel, by decide +kernel⟩
abbrev s_Store__clone : Stmt := inClass (topS 50) 7
theorem sc_Store__clone : FnScope ["self", "store"] ["self"] (defScope s_Store__clone) := ⟨rfl, rfl, rfl, by decide +kernel, rfl, by decide +kernel, by decide +kernel⟩
abbrev s_Store___check : Stmt := inClass (topS 50) 8
theorem sc_Store___check : FnScope ["self", "key"] ["self", "key"] (defScope s_Store___check) := ⟨rfl, rfl, rfl, by decide +kernel, rfl, by decide +kernel, by decide +kernel⟩
abbrev s_Store___check_owner : Stmt := inClass (topS 50) 9
theorem sc_Store___check_owner : FnScope ["self", "client", "key"] ["self", "client", "key"] (defScope s_Store___check_owner) := ⟨rfl, rfl, rfl, by decide +kernel, rfl, by decide +kernel, by decide +kernel⟩
abbrev s_State____init__ : Stmt := inClass (topS 53) 0
theorem sc_State____init__ : FnScope ["self"] ["self"] (defScope s_State____init__) := ⟨rfl, rfl, rfl, by decide +kernel, rfl, by decide +kernel, by decide +kernel⟩
abbrev s_State__clone : Stmt := inClass (topS 53) 1
theorem sc_State__clone : FnScope ["self", "state"] ["self"] (defScope s_State__clone) := ⟨rfl, rfl, rfl, by decide +kernel, rfl, by decide +kernel, by decide +kernel⟩
abbrev s_run : Stmt := topS 54
theorem sc_run : FnScope ["state", "client", "parsed", "accounts", "store", "answer", "index", "statement", "result", "refusal"] ["state", "client", "parsed"] (defScope s_run) := ⟨rfl, rfl, rfl, by decide +kernel, rfl, by decide +kernel, by decide +kernel⟩
abbrev s_perform : Stmt := topS 55
theorem sc_perform : FnScope ["accounts", "store", "client", "statement", "name", "key", "prefix", "amount", "value", "old", "new"] ["accounts", "store", "client", "statement"] (defScope s_perform) := ⟨rfl, rfl, rfl, by decide +kernel, rfl, by decide +kernel, by decide +kernel⟩
abbrev s_change_accounts : Stmt := topS 56
theorem sc_change_accounts : FnScope ["accounts", "client", "statement", "name", "amount", "source", "target", "key"] ["accounts", "client", "statement"] (defScope s_change_accounts) := ⟨rfl, rfl, rfl, by decide +kernel, rfl, by decide +kernel, by decide +kernel⟩
abbrev s_require : Stmt := topS 57
theorem sc_require : FnScope ["holds"] ["holds"] (defScope s_require) := ⟨rfl, rfl, rfl, by decide +kernel, rfl, by decide +kernel, by decide +kernel⟩
abbrev s_keys_result : Stmt := topS 58
theorem sc_keys_result : FnScope ["keys", "text"] ["keys"] (defScope s_keys_result) := ⟨rfl, rfl, rfl, by decide +kernel, rfl, by decide +kernel, by decide +kernel⟩
abbrev s_execute : Stmt := topS 59
theorem sc_execute : FnScope ["state", "command", "client", "number", "text", "last", "answer"] ["state", "command"] (defScope s_execute) := ⟨rfl, rfl, rfl, by decide +kernel, rfl, by decide +kernel, by decide +kernel⟩
abbrev s_run_text : Stmt := topS 60
theorem sc_run_text : FnScope ["state", "client", "text", "parsed", "fault"] ["state", "client", "text"] (defScope s_run_text) := ⟨rfl, rfl, rfl, by decide +kernel, rfl, by decide +kernel, by decide +kernel⟩
abbrev s_state_text : Stmt := topS 62
theorem sc_state_text : FnScope ["state", "accounts", "holds", "entries", "sessions", "text"] ["state"] (defScope s_state_text) := ⟨rfl, rfl, rfl, by decide +kernel, rfl, by decide +kernel, by decide +kernel⟩
abbrev s__law_cell : Stmt := topS 64
theorem sc__law_cell : FnScope ["script", "k"] ["script", "k"] (defScope s__law_cell) := ⟨rfl, rfl, rfl, by decide +kernel, rfl, by decide +kernel, by decide +kernel⟩
abbrev s__law_word : Stmt := topS 65
theorem sc__law_word : FnScope ["size", "chars", "seed", "step", "word", "rest", "k"] ["size", "chars", "seed", "step"] (defScope s__law_word) := ⟨rfl, rfl, rfl, by decide +kernel, rfl, by decide +kernel, by decide +kernel⟩
abbrev s__law_name : Stmt := topS 66
theorem sc__law_name : FnScope ["cell", "size"] ["cell"] (defScope s__law_name) := ⟨rfl, rfl, rfl, by decide +kernel, rfl, by decide +kernel, by decide +kernel⟩
abbrev s__law_key : Stmt := topS 67
theorem sc__law_key : FnScope ["cell", "size"] ["cell"] (defScope s__law_key) := ⟨rfl, rfl, rfl, by decide +kernel, rfl, by decide +kernel, by decide +kernel⟩
abbrev s__law_value : Stmt := topS 68
theorem sc__law_value : FnScope ["cell", "size", "chars"] ["cell"] (defScope s__law_value) := ⟨rfl, rfl, rfl, by decide +kernel, rfl, by decide +kernel, by decide +kernel⟩
abbrev s__law_amount : Stmt := topS 69
theorem sc__law_amount : FnScope ["cell"] ["cell"] (defScope s__law_amount) := ⟨rfl, rfl, rfl, by decide +kernel, rfl, by decide +kernel, by decide +kernel⟩
abbrev s__law_rich : Stmt := topS 70
theorem sc__law_rich : FnScope ["cell", "k", "mixed"] ["cell", "k"] (defScope s__law_rich) := ⟨rfl, rfl, rfl, by decide +kernel, rfl, by decide +kernel, by decide +kernel⟩
abbrev s__law_forms : Stmt := topS 71
theorem sc__law_forms : FnScope ["forms"] [] (defScope s__law_forms) := ⟨rfl, rfl, rfl, by decide +kernel, rfl, by decide +kernel, by decide +kernel⟩
abbrev s__law_statement : Stmt := topS 72
theorem sc__law_statement : FnScope ["verb_cell", "first", "second", "verb", "kinds", "parts", "cells", "k"] ["verb_cell", "first", "second"] (defScope s__law_statement) := ⟨rfl, rfl, rfl, by decide +kernel, rfl, by decide +kernel, by decide +kernel⟩
abbrev s__law_text : Stmt := topS 73
theorem sc__law_text : FnScope ["parsed", "rows", "statement", "part"] ["parsed"] (defScope s__law_text) := ⟨rfl, rfl, rfl, by decide +kernel, rfl, by decide +kernel, by decide +kernel⟩
abbrev s__law_own : Stmt := topS 74
theorem sc__law_own : FnScope ["statement", "letter", "verb", "one", "kinds", "parts", "k", "part"] ["statement", "letter"] (defScope s__law_own) := ⟨rfl, rfl, rfl, by decide +kernel, rfl, by decide +kernel, by decide +kernel⟩
abbrev s__law_command : Stmt := topS 75
theorem sc__law_command : FnScope ["cell", "k", "client", "number", "rich", "letter", "parsed", "rest", "j"] ["cell", "k", "client", "number"] (defScope s__law_command) := ⟨rfl, rfl, rfl, by decide +kernel, rfl, by decide +kernel, by decide +kernel⟩
abbrev s_law : Stmt := topS 76
theorem sc_law : FnScope ["script", "state", "count", "k", "first", "second", "other", "told", "later", "sooner"] ["script"] (defScope s_law) := ⟨rfl, rfl, rfl, by decide +kernel, rfl, by decide +kernel, by decide +kernel⟩
structure Txt (K : PySem.W.Frag) (mg : Str → Option Value) (w : World) (C_Accounts : Addr) (C_Sessions : Addr) (C_Store : Addr) (C_State : Addr) (C_BadText : Addr) (C_Refused : Addr) (C_BadCommand : Addr) (C_VERBS : Addr) : Prop where
  d_is_printable : DefOk K mg "is_printable" s_is_printable ["value"]
  d_is_short : DefOk K mg "is_short" s_is_short ["value", "most"]
  d_is_decimal : DefOk K mg "is_decimal" s_is_decimal ["word"]
  d_encode : DefOk K mg "encode" s_encode ["value"]
  d_text_of : DefOk K mg "text_of" s_text_of ["value", "depth", "room"]
  d_tuple_text : DefOk K mg "tuple_text" s_tuple_text ["value", "depth", "room"]
  d_single_text : DefOk K mg "single_text" s_single_text ["value"]
  d_has_few_digits : DefOk K mg "has_few_digits" s_has_few_digits ["value"]
  d_parts_of : DefOk K mg "parts_of" s_parts_of ["text"]
  d_words_of : DefOk K mg "words_of" s_words_of ["part", "index"]
  d_is_name : DefOk K mg "is_name" s_is_name ["word"]
  d_is_key : DefOk K mg "is_key" s_is_key ["word"]
  d_is_value : DefOk K mg "is_value" s_is_value ["word"]
  d_is_amount : DefOk K mg "is_amount" s_is_amount ["word"]
  d_consists_of : DefOk K mg "consists_of" s_consists_of ["word", "characters", "most"]
  d_parse_command : DefOk K mg "parse_command" s_parse_command ["text"]
  d_parse_statement : DefOk K mg "parse_statement" s_parse_statement ["part", "index"]
  d_parse_argument : DefOk K mg "parse_argument" s_parse_argument ["kind", "word", "index"]
  d_is_of_kind : DefOk K mg "is_of_kind" s_is_of_kind ["kind", "word"]
  d_run : DefOk K mg "run" s_run ["state", "client", "parsed"]
  d_perform : DefOk K mg "perform" s_perform ["accounts", "store", "client", "statement"]
  d_change_accounts : DefOk K mg "change_accounts" s_change_accounts ["accounts", "client", "statement"]
  d_require : DefOk K mg "require" s_require ["holds"]
  d_keys_result : DefOk K mg "keys_result" s_keys_result ["keys"]
  d_execute : DefOk K mg "execute" s_execute ["state", "command"]
  d_run_text : DefOk K mg "run_text" s_run_text ["state", "client", "text"]
  d_state_text : DefOk K mg "state_text" s_state_text ["state"]
  d__law_cell : DefOk K mg "_law_cell" s__law_cell ["script", "k"]
  d__law_word : DefOk K mg "_law_word" s__law_word ["size", "chars", "seed", "step"]
  d__law_name : DefOk K mg "_law_name" s__law_name ["cell"]
  d__law_key : DefOk K mg "_law_key" s__law_key ["cell"]
  d__law_value : DefOk K mg "_law_value" s__law_value ["cell"]
  d__law_amount : DefOk K mg "_law_amount" s__law_amount ["cell"]
  d__law_rich : DefOk K mg "_law_rich" s__law_rich ["cell", "k"]
  d__law_forms : DefOk K mg "_law_forms" s__law_forms []
  d__law_statement : DefOk K mg "_law_statement" s__law_statement ["verb_cell", "first", "second"]
  d__law_text : DefOk K mg "_law_text" s__law_text ["parsed"]
  d__law_own : DefOk K mg "_law_own" s__law_own ["statement", "letter"]
  d__law_command : DefOk K mg "_law_command" s__law_command ["cell", "k", "client", "number"]
  d_law : DefOk K mg "law" s_law ["script"]
  cl_Accounts : Cls K C_Accounts
  g_Accounts : mg "Accounts" = some (.ref C_Accounts)
  na_Accounts__owners : NoAttr K C_Accounts "_owners"
  na_Accounts__balances : NoAttr K C_Accounts "_balances"
  na_Accounts__holds : NoAttr K C_Accounts "_holds"
  na_Accounts__supply : NoAttr K C_Accounts "_supply"
  mk_Accounts : MakOk K C_Accounts "Accounts.__init__" s_Accounts____init__ ["self"]
  me_Accounts__create : MethOk K C_Accounts "create" "Accounts.create" s_Accounts__create ["self", "client", "name"]
  me_Accounts__close : MethOk K C_Accounts "close" "Accounts.close" s_Accounts__close ["self", "client", "name"]
  me_Accounts__issue : MethOk K C_Accounts "issue" "Accounts.issue" s_Accounts__issue ["self", "client", "name", "amount"]
  me_Accounts__burn : MethOk K C_Accounts "burn" "Accounts.burn" s_Accounts__burn ["self", "client", "name", "amount"]
  me_Accounts__pay : MethOk K C_Accounts "pay" "Accounts.pay" s_Accounts__pay ["self", "client", "source", "target", "amount"]
  me_Accounts__hold : MethOk K C_Accounts "hold" "Accounts.hold" s_Accounts__hold ["self", "client", "source", "target", "amount", "key"]
  me_Accounts__settle : MethOk K C_Accounts "settle" "Accounts.settle" s_Accounts__settle ["self", "client", "key"]
  me_Accounts__release : MethOk K C_Accounts "release" "Accounts.release" s_Accounts__release ["self", "client", "key"]
  me_Accounts__balance : MethOk K C_Accounts "balance" "Accounts.balance" s_Accounts__balance ["self", "name"]
  me_Accounts__owner : MethOk K C_Accounts "owner" "Accounts.owner" s_Accounts__owner ["self", "name"]
  me_Accounts__supply : MethOk K C_Accounts "supply" "Accounts.supply" s_Accounts__supply ["self"]
  me_Accounts__rows : MethOk K C_Accounts "rows" "Accounts.rows" s_Accounts__rows ["self"]
  me_Accounts__held : MethOk K C_Accounts "held" "Accounts.held" s_Accounts__held ["self"]
  me_Accounts__clone : MethOk K C_Accounts "clone" "Accounts.clone" s_Accounts__clone ["self"]
  me_Accounts___check : MethOk K C_Accounts "_check" "Accounts._check" s_Accounts___check ["self", "name"]
  me_Accounts___check_owner : MethOk K C_Accounts "_check_owner" "Accounts._check_owner" s_Accounts___check_owner ["self", "client", "name"]
  me_Accounts___check_funds : MethOk K C_Accounts "_check_funds" "Accounts._check_funds" s_Accounts___check_funds ["self", "name", "amount"]
  me_Accounts___check_payment : MethOk K C_Accounts "_check_payment" "Accounts._check_payment" s_Accounts___check_payment ["self", "client", "source", "target", "amount"]
  me_Accounts___hold_of : MethOk K C_Accounts "_hold_of" "Accounts._hold_of" s_Accounts___hold_of ["self", "key"]
  me_Accounts___is_held : MethOk K C_Accounts "_is_held" "Accounts._is_held" s_Accounts___is_held ["self", "name"]
  cl_Sessions : Cls K C_Sessions
  g_Sessions : mg "Sessions" = some (.ref C_Sessions)
  na_Sessions__numbers : NoAttr K C_Sessions "_numbers"
  na_Sessions__answers : NoAttr K C_Sessions "_answers"
  mk_Sessions : MakOk K C_Sessions "Sessions.__init__" s_Sessions____init__ ["self"]
  me_Sessions__last : MethOk K C_Sessions "last" "Sessions.last" s_Sessions__last ["self", "client"]
  me_Sessions__answer : MethOk K C_Sessions "answer" "Sessions.answer" s_Sessions__answer ["self", "client"]
  me_Sessions__remember : MethOk K C_Sessions "remember" "Sessions.remember" s_Sessions__remember ["self", "client", "number", "answer"]
  me_Sessions__rows : MethOk K C_Sessions "rows" "Sessions.rows" s_Sessions__rows ["self"]
  me_Sessions__numbers : MethOk K C_Sessions "numbers" "Sessions.numbers" s_Sessions__numbers ["self"]
  me_Sessions__clone : MethOk K C_Sessions "clone" "Sessions.clone" s_Sessions__clone ["self"]
  cl_Store : Cls K C_Store
  g_Store : mg "Store" = some (.ref C_Store)
  na_Store__owners : NoAttr K C_Store "_owners"
  na_Store__values : NoAttr K C_Store "_values"
  mk_Store : MakOk K C_Store "Store.__init__" s_Store____init__ ["self"]
  me_Store__put : MethOk K C_Store "put" "Store.put" s_Store__put ["self", "client", "key", "value"]
  me_Store__read : MethOk K C_Store "read" "Store.read" s_Store__read ["self", "key"]
  me_Store__drop : MethOk K C_Store "drop" "Store.drop" s_Store__drop ["self", "client", "key"]
  me_Store__swap : MethOk K C_Store "swap" "Store.swap" s_Store__swap ["self", "key", "old", "new"]
  me_Store__matching : MethOk K C_Store "matching" "Store.matching" s_Store__matching ["self", "prefix"]
  me_Store__rows : MethOk K C_Store "rows" "Store.rows" s_Store__rows ["self"]
  me_Store__clone : MethOk K C_Store "clone" "Store.clone" s_Store__clone ["self"]
  me_Store___check : MethOk K C_Store "_check" "Store._check" s_Store___check ["self", "key"]
  me_Store___check_owner : MethOk K C_Store "_check_owner" "Store._check_owner" s_Store___check_owner ["self", "client", "key"]
  cl_State : Cls K C_State
  g_State : mg "State" = some (.ref C_State)
  na_State_accounts : NoAttr K C_State "accounts"
  na_State_store : NoAttr K C_State "store"
  na_State_sessions : NoAttr K C_State "sessions"
  mk_State : MakOk K C_State "State.__init__" s_State____init__ ["self"]
  me_State__clone : MethOk K C_State "clone" "State.clone" s_State__clone ["self"]
  x_BadText : ExOk K mg "BadText" C_BadText
  x_Refused : ExI K mg "Refused" C_Refused
  xn_Refused_reason : PySem.W.findIn K (.ref C_Refused) "reason" = some none
  ei_Refused : ExInit K C_Refused "Refused.__init__" s_Refused____init__ ["self", "reason"]
  x_BadCommand : ExI K mg "BadCommand" C_BadCommand
  xn_BadCommand_reason : PySem.W.findIn K (.ref C_BadCommand) "reason" = some none
  xn_BadCommand_statement : PySem.W.findIn K (.ref C_BadCommand) "statement" = some none
  ei_BadCommand : ExInit K C_BadCommand "BadCommand.__init__" s_BadCommand____init__ ["self", "reason", "statement"]
  g_VERBS : mg "VERBS" = some (.ref C_VERBS)
  kd_VERBS : ∃ es n, KDict K w C_VERBS es n
  ki_VERBS_0 : ∃ a, KDct K w C_VERBS "open" (.ref a) ∧ KTup K a [.str "name"]
  ki_VERBS_1 : ∃ a, KDct K w C_VERBS "close" (.ref a) ∧ KTup K a [.str "name"]
  ki_VERBS_2 : ∃ a, KDct K w C_VERBS "issue" (.ref a) ∧ KTup K a [.str "name", .str "amount"]
  ki_VERBS_3 : ∃ a, KDct K w C_VERBS "burn" (.ref a) ∧ KTup K a [.str "name", .str "amount"]
  ki_VERBS_4 : ∃ a, KDct K w C_VERBS "pay" (.ref a) ∧ KTup K a [.str "name", .str "name", .str "amount"]
  ki_VERBS_5 : ∃ a, KDct K w C_VERBS "balance" (.ref a) ∧ KTup K a [.str "name"]
  ki_VERBS_6 : ∃ a, KDct K w C_VERBS "atleast" (.ref a) ∧ KTup K a [.str "name", .str "amount"]
  ki_VERBS_7 : ∃ a, KDct K w C_VERBS "hold" (.ref a) ∧ KTup K a [.str "name", .str "name", .str "amount", .str "key"]
  ki_VERBS_8 : ∃ a, KDct K w C_VERBS "settle" (.ref a) ∧ KTup K a [.str "key"]
  ki_VERBS_9 : ∃ a, KDct K w C_VERBS "release" (.ref a) ∧ KTup K a [.str "key"]
  ki_VERBS_10 : ∃ a, KDct K w C_VERBS "put" (.ref a) ∧ KTup K a [.str "key", .str "value"]
  ki_VERBS_11 : ∃ a, KDct K w C_VERBS "get" (.ref a) ∧ KTup K a [.str "key"]
  ki_VERBS_12 : ∃ a, KDct K w C_VERBS "drop" (.ref a) ∧ KTup K a [.str "key"]
  ki_VERBS_13 : ∃ a, KDct K w C_VERBS "swap" (.ref a) ∧ KTup K a [.str "key", .str "value", .str "value"]
  ki_VERBS_14 : ∃ a, KDct K w C_VERBS "same" (.ref a) ∧ KTup K a [.str "key", .str "value"]
  ki_VERBS_15 : ∃ a, KDct K w C_VERBS "keys" (.ref a) ∧ KTup K a [.str "key"]
  kn_VERBS : ∀ z : Str, (["open", "close", "issue", "burn", "pay", "balance", "atleast", "hold", "settle", "release", "put", "get", "drop", "swap", "same", "keys"] : List Str).contains z = false → PySem.W.nsIn K C_VERBS z = some none
  u_Refused_Refused : PySem.W.subIn K (.ref C_Refused) (.ref C_Refused) = some true
  u_BadText_BadText : PySem.W.subIn K (.ref C_BadText) (.ref C_BadText) = some true
  u_BadCommand_BadCommand : PySem.W.subIn K (.ref C_BadCommand) (.ref C_BadCommand) = some true
  c_ACCOUNT_LIMIT : ∃ u, mg "ACCOUNT_LIMIT" = some u ∧ RelV (.int 100) u
  c_ENTRY_LIMIT : ∃ u, mg "ENTRY_LIMIT" = some u ∧ RelV (.int 200) u
  c_HOLD_LIMIT : ∃ u, mg "HOLD_LIMIT" = some u ∧ RelV (.int 100) u
  c_KEY_CHARACTERS : ∃ u, mg "KEY_CHARACTERS" = some u ∧ RelV (.str "abcdefghijklmnopqrstuvwxyz.0123456789") u
  c_LETTERS : ∃ u, mg "LETTERS" = some u ∧ RelV (.str "abcdefghijklmnopqrstuvwxyz") u
  c_MINT : ∃ u, mg "MINT" = some u ∧ RelV (.int (-1)) u
  c_MOST_AMOUNT : ∃ u, mg "MOST_AMOUNT" = some u ∧ RelV (.int 12) u
  c_MOST_ANSWER : ∃ u, mg "MOST_ANSWER" = some u ∧ RelV (.int 200) u
  c_MOST_DEPTH : ∃ u, mg "MOST_DEPTH" = some u ∧ RelV (.int 12) u
  c_MOST_DIGITS : ∃ u, mg "MOST_DIGITS" = some u ∧ RelV (.int 60) u
  c_MOST_KEY : ∃ u, mg "MOST_KEY" = some u ∧ RelV (.int 20) u
  c_MOST_LENGTH : ∃ u, mg "MOST_LENGTH" = some u ∧ RelV (.int 100000) u
  c_MOST_NAME : ∃ u, mg "MOST_NAME" = some u ∧ RelV (.int 12) u
  c_MOST_STATE : ∃ u, mg "MOST_STATE" = some u ∧ RelV (.int 60000) u
  c_MOST_TEXT : ∃ u, mg "MOST_TEXT" = some u ∧ RelV (.int 240) u
  c_MOST_VALUE : ∃ u, mg "MOST_VALUE" = some u ∧ RelV (.int 40) u
  c_RESULT_LIMIT : ∃ u, mg "RESULT_LIMIT" = some u ∧ RelV (.int 60) u
  c_SUPPLY_LIMIT : ∃ u, mg "SUPPLY_LIMIT" = some u ∧ RelV (.int 1000000000000000) u
  z_abs : mg "abs" = none
  z_all : mg "all" = none
  z_any : mg "any" = none
  z_dict : mg "dict" = none
  z_enumerate : mg "enumerate" = none
  z_int : mg "int" = none
  z_isinstance : mg "isinstance" = none
  z_len : mg "len" = none
  z_list : mg "list" = none
  z_min : mg "min" = none
  z_range : mg "range" = none
  z_sorted : mg "sorted" = none
  z_str : mg "str" = none
  z_tuple : mg "tuple" = none
  z_zip : mg "zip" = none
set_option pp.maxSteps 150
theorem units65 {k : Nat} {A : Around} (r : Room k A) : A.units + 65 < cLine := by have := r.un; omega
theorem decV' (i j : Int) : decide (V.int i = V.int j) = decide (i = j) := decide_eq_decide.mpr ⟨fun z => V.int.inj z, fun z => by rw [z]⟩
theorem decS (i j : Str) : decide (V.str i = V.str j) = decide (i = j) := decide_eq_decide.mpr ⟨fun z => V.str.inj z, fun z => by rw [z]⟩
theorem ksla {X : Cx} {K : PySem.W.Frag} (h : X.K = K := by rfl) : SlR X (rSlA K) := by subst h; exact sl_tupA
theorem kcatA {X : Cx} {K : PySem.W.Frag} (h : X.K = K := by rfl) : OpR X (binaryOp .Add) (rCatA K) := by subst h; exact op_catA
/-! ### the draws of a script -/
def Dr (H : Hp) (D A : Addr) : Prop := D ≠ A ∧ ∃ (ds : List Int) (n : Nat), H D = some (.lst (ds.map V.int)) ∧ H A = some (.lst [.int n]) ∧ (∀ d ∈ ds, 0 ≤ d ∧ d < 1000) ∧ ds.length ≤ 2520
/-- all that was tracked but A is as it was -/
def Mod (A : Addr) (H H' : Hp) : Prop := ∀ b o, b ≠ A → H b = some o → H' b = some o
theorem Mod.refl {A : Addr} {H : Hp} : Mod A H H := fun _ _ _ h => h
theorem Mod.trans {A : Addr} {H H1 H2 : Hp} (a : Mod A H H1) (b : Mod A H1 H2) : Mod A H H2 := fun c o n h => b c o n (a c o n h)
theorem Same.mod {A : Addr} {H H' : Hp} (s : Same H H') : Mod A H H' := fun b o _ h => s b o h
theorem Mod.new {A p : Addr} {o : HO} {H H' : Hp} (s : Mod A H H') (h : H' p = none) : Mod A H (upd H' p o) := fun b u n e => by
  rw [upd_ne (ne_of_none (s b u n e) h)]
  exact s b u n e
theorem Dr.new {D A p : Addr} {o : HO} {H : Hp} (d : Dr H D A) (h : H p = none) : Dr (upd H p o) D A := by
  obtain ⟨ne, ds, n, h1, h2, h3⟩ := d
  exact ⟨ne, ds, n, by rw [upd_ne (ne_of_none h1 h)]; exact h1, by rw [upd_ne (ne_of_none h2 h)]; exact h2, h3⟩
theorem Dr.same {D A : Addr} {H H' : Hp} (d : Dr H D A) (s : Same H H') : Dr H' D A := by
  obtain ⟨ne, ds, n, h1, h2, h3⟩ := d
  exact ⟨ne, ds, n, s _ _ h1, s _ _ h2, h3⟩
/-- an object that is neither D nor A is changed -/
theorem Dr.put {D A p : Addr} {o : HO} {H : Hp} (d : Dr H D A) (h1 : p ≠ D) (h2 : p ≠ A) : Dr (upd H p o) D A := by
  obtain ⟨ne, ds, n, e1, e2, h3⟩ := d
  exact ⟨ne, ds, n, by rw [upd_ne h1.symm]; exact e1, by rw [upd_ne h2.symm]; exact e2, h3⟩
theorem Dr.freshA {D A p : Addr} {H : Hp} (d : Dr H D A) (h : H p = none) : p ≠ A := by
  obtain ⟨_, _, _, _, e, _⟩ := d
  exact (ne_of_none e h).symm
theorem Dr.freshD {D A p : Addr} {H : Hp} (d : Dr H D A) (h : H p = none) : p ≠ D := by
  obtain ⟨_, _, _, e, _⟩ := d
  exact (ne_of_none e h).symm
theorem Mod.free {A p : Addr} {H H' : Hp} (s : Mod A H H') (d : ∃ o, H' A = some o) (h : H' p = none) : H p = none := by
  cases e : H p with
  | none => rfl
  | some o =>
    by_cases hp : p = A
    · subst hp
      obtain ⟨o', e'⟩ := d
      rw [e'] at h; cases h
    · rw [s p o hp e] at h; cases h
theorem Dr.A_in {D A : Addr} {H : Hp} (d : Dr H D A) : ∃ o, H A = some o := by
  obtain ⟨_, _, _, _, e, _⟩ := d
  exact ⟨_, e⟩
theorem rng_app {ds : List Int} {x : Int} (h : ∀ d ∈ ds, 0 ≤ d ∧ d < 1000) (h0 : 0 ≤ x) (h1 : x < 1000) : ∀ d ∈ ds ++ [x], 0 ≤ d ∧ d < 1000 := fun d hd => by
  rcases List.mem_append.mp hd with hd | hd
  · exact h d hd
  · rw [List.mem_singleton.mp hd]; exact ⟨h0, h1⟩

/-! ### drawn numbers and strings -/
def prC (c : Nat) : Bool := decide (32 ≤ c) && decide (c ≤ 126) && decide (c ≠ 37)
def isPr (z : Str) : Bool := z.cps.toList.all prC
theorem app_tl (a b : Str) : (a ++ b).cps.toList = a.cps.toList ++ b.cps.toList := by
  show (a.cps ++ b.cps).toList = _
  rw [Array.toList_append]
theorem len_tl (z : Str) : z.cps.toList.length = z.length := Array.length_toList
theorem isPr_app (a b : Str) : isPr (a ++ b) = (isPr a && isPr b) := by
  unfold isPr
  rw [app_tl, List.all_append]

/-! ### values as data: what stands at them does not change -/
def TupAt (K : PySem.W.Frag) (H : Hp) (a : Addr) (xs : List V) : Prop := H a = some (.tup xs) ∨ KTup K a xs
section
variable {K : PySem.W.Frag}
theorem TupAt.sq {H : Hp} {a : Addr} {xs : List V} (h : TupAt K H a xs) : SqT K H a xs := h.elim SqT.of .inr
theorem TupAt.ty {H : Hp} {a : Addr} {xs : List V} (h : TupAt K H a xs) : TyX K H (.ref a) (.type "tuple") := h.elim (fun h => .base (.tup h)) (fun ⟨_, _, _, h1, h2, _⟩ => .kTuple h1 h2)
theorem TupAt.same {H H' : Hp} {a : Addr} {xs : List V} (h : TupAt K H a xs) (s : Same H H') : TupAt K H' a xs := h.imp (s _ _) id
/-- none of those at A (none: no matter) -/
def NeA (A : Option Addr) (a : Addr) : Prop := match A with | some b => a ≠ b | none => True
mutual
/-- v is the data d; the lists in it are none of those at A -/
inductive Dt (K : PySem.W.Frag) (H : Hp) (A : Option Addr) : V → PyData → Prop
  | non : Dt K H A .non .none
  | bl (b : Bool) : Dt K H A (.bl b) (.bool b)
  | int (i : Int) : Dt K H A (.int i) (.int i)
  | str (z : Str) (h : z.length ≤ 1000000) : Dt K H A (.str z) (.str z)
  | lst {a : Addr} {xs : List V} {ds : List PyData} : NeA A a → H a = some (.lst xs) → DtAll K H A xs ds → Dt K H A (.ref a) (.list ds)
  | tup {a : Addr} {xs : List V} {ds : List PyData} : TupAt K H a xs → DtAll K H A xs ds → Dt K H A (.ref a) (.tuple ds)
inductive DtAll (K : PySem.W.Frag) (H : Hp) (A : Option Addr) : List V → List PyData → Prop
  | nil : DtAll K H A [] []
  | cons {v : V} {vs : List V} {d : PyData} {ds : List PyData} : Dt K H A v d → DtAll K H A vs ds → DtAll K H A (v :: vs) (d :: ds)
end
theorem DtAll.length {H : Hp} {A : Option Addr} : ∀ {xs : List V} {ds : List PyData}, DtAll K H A xs ds → xs.length = ds.length
  | _, _, .nil => rfl
  | _, _, .cons _ r => by rw [List.length_cons, List.length_cons, r.length]
theorem DtAll.get {H : Hp} {A : Option Addr} : ∀ {xs : List V} {ds : List PyData} {i : Nat} {x : V}, DtAll K H A xs ds → xs[i]? = some x → ∃ d, ds[i]? = some d ∧ Dt K H A x d
  | _, _, _, _, .nil, e => by simp at e
  | _, _, 0, x, .cons h _, e => by simp at e; subst e; exact ⟨_, rfl, h⟩
  | _, _, i + 1, x, .cons _ r, e => by
    obtain ⟨d, h1, h2⟩ := r.get (i := i) (x := x) (by simpa using e)
    exact ⟨d, by simpa using h1, h2⟩
theorem DtAll.getD {H : Hp} {A : Option Addr} {xs : List V} {ds : List PyData} {i : Nat} {d : PyData} (h : DtAll K H A xs ds) (e : ds[i]? = some d) : ∃ x, xs[i]? = some x ∧ Dt K H A x d := by
  have hi : i < ds.length := (List.getElem?_eq_some_iff.mp e).1
  have hi' : i < xs.length := by rw [h.length]; exact hi
  obtain ⟨d', h1, h2⟩ := h.get (List.getElem?_eq_getElem hi')
  rw [e] at h1
  cases h1
  exact ⟨_, List.getElem?_eq_getElem hi', h2⟩
mutual
theorem Dt.mod {H H' : Hp} {A D : Addr} (s : Mod A H H') (dr : Dr H D A) : ∀ (d : PyData) (v : V), Dt K H (some A) v d → Dt K H' (some A) v d
  | .none, _, h => by cases h; exact .non
  | .bool b, _, h => by cases h; exact .bl b
  | .int i, _, h => by cases h; exact .int i
  | .str z, _, h => by cases h with | str _ hz => exact .str z hz
  | .list ds, _, h => by cases h with | lst hn ha hd => exact .lst hn (s _ _ hn ha) (DtAll.mod s dr ds _ hd)
  | .tuple ds, _, h => by
    cases h with
    | tup ha hd =>
      obtain ⟨_, _, _, _, e, _⟩ := id dr
      exact .tup (ha.imp (fun ha => s _ _ (ne_of ha e (by intro z; cases z)) ha) id) (DtAll.mod s dr ds _ hd)
  | .dict _, _, h => by cases h
theorem DtAll.mod {H H' : Hp} {A D : Addr} (s : Mod A H H') (dr : Dr H D A) : ∀ (ds : List PyData) (xs : List V), DtAll K H (some A) xs ds → DtAll K H' (some A) xs ds
  | [], _, h => by cases h; exact .nil
  | d :: ds, _, h => by cases h with | cons h1 h2 => exact .cons (Dt.mod s dr d _ h1) (DtAll.mod s dr ds _ h2)
end
mutual
theorem Dt.same {H H' : Hp} {A : Option Addr} (s : Same H H') : ∀ (d : PyData) (v : V), Dt K H A v d → Dt K H' A v d
  | .none, _, h => by cases h; exact .non
  | .bool b, _, h => by cases h; exact .bl b
  | .int i, _, h => by cases h; exact .int i
  | .str z, _, h => by cases h with | str _ hz => exact .str z hz
  | .list ds, _, h => by cases h with | lst hn ha hd => exact .lst hn (s _ _ ha) (DtAll.same s ds _ hd)
  | .tuple ds, _, h => by cases h with | tup ha hd => exact .tup (ha.same s) (DtAll.same s ds _ hd)
  | .dict _, _, h => by cases h
theorem DtAll.same {H H' : Hp} {A : Option Addr} (s : Same H H') : ∀ (ds : List PyData) (xs : List V), DtAll K H A xs ds → DtAll K H' A xs ds
  | [], _, h => by cases h; exact .nil
  | d :: ds, _, h => by cases h with | cons h1 h2 => exact .cons (Dt.same s d _ h1) (DtAll.same s ds _ h2)
end
mutual
/-- data for a comparison -/
theorem Dt.dp {H : Hp} {A : Option Addr} : ∀ (d : PyData) (v : V), Dt K H A v d → Dp K H v d
  | .none, _, h => by cases h; exact .non
  | .bool b, _, h => by cases h; exact .bl b
  | .int i, _, h => by cases h; exact .int i
  | .str z, _, h => by cases h; exact .str z
  | .list ds, _, h => by cases h with | lst hn ha hd => exact .lst (SqL.of ha) (DtAll.dp ds _ hd)
  | .tuple ds, _, h => by cases h with | tup ha hd => exact .tup ha.sq (DtAll.dp ds _ hd)
  | .dict _, _, h => by cases h
theorem DtAll.dp {H : Hp} {A : Option Addr} : ∀ (ds : List PyData) (xs : List V), DtAll K H A xs ds → DpAll K H xs ds
  | [], _, h => by cases h; exact .nil
  | d :: ds, _, h => by cases h with | cons h1 h2 => exact .cons (Dt.dp d _ h1) (DtAll.dp ds _ h2)
end
theorem Dt.on {H H' : Hp} {A : Option Addr} {v : V} {d : PyData} (h : Dt K H A v d) (s : Same H H') : Dt K H' A v d := Dt.same s d v h
theorem DtAll.on {H H' : Hp} {A : Option Addr} {xs : List V} {ds : List PyData} (h : DtAll K H A xs ds) (s : Same H H') : DtAll K H' A xs ds := DtAll.same s ds xs h
theorem Dt.by {H H' : Hp} {A D : Addr} {v : V} {d : PyData} (h : Dt K H (some A) v d) (s : Mod A H H') (dr : Dr H D A) : Dt K H' (some A) v d := Dt.mod s dr d v h
theorem DtAll.by {H H' : Hp} {A D : Addr} {xs : List V} {ds : List PyData} (h : DtAll K H (some A) xs ds) (s : Mod A H H') (dr : Dr H D A) : DtAll K H' (some A) xs ds := DtAll.mod s dr ds xs h
theorem Dt.two {H : Hp} {A : Option Addr} {v : V} {d : PyData} (h : Dt K H A v d) : (∃ a xs ds, v = .ref a ∧ d = .tuple ds ∧ TupAt K H a xs ∧ DtAll K H A xs ds) ∨ (∃ T, TyX K H v (.type T) ∧ kitB T "tuple" = some false ∧ ∀ ds, d ≠ .tuple ds) := by
  cases h with
  | tup ha hx => exact .inl ⟨_, _, _, rfl, rfl, ha, hx⟩
  | str z hz => exact .inr ⟨_, .base (.str z), by decide +kernel, fun _ z => nomatch z⟩
  | int i => exact .inr ⟨_, .base (.int i), by decide +kernel, fun _ z => nomatch z⟩
  | non => exact .inr ⟨_, .base .non, by decide +kernel, fun _ z => nomatch z⟩
  | bl b => exact .inr ⟨_, .base (.bl b), by decide +kernel, fun _ z => nomatch z⟩
  | lst _ ha _ => exact .inr ⟨_, .base (.lst ha), by decide +kernel, fun _ z => nomatch z⟩
/-- the kind of a value -/
def dTy : PyData → String
  | .none => "NoneType" | .bool _ => "bool" | .int _ => "int" | .str _ => "str" | .list _ => "list" | .tuple _ => "tuple" | .dict _ => "dict"
theorem Dt.ty {H : Hp} {A : Option Addr} {v : V} {d : PyData} (h : Dt K H A v d) : TyX K H v (.type (dTy d)) := by
  cases h with
  | non => exact .base .non
  | bl b => exact .base (.bl b)
  | int i => exact .base (.int i)
  | str z _ => exact .base (.str z)
  | lst _ ha _ => exact .base (.lst ha)
  | tup ha _ => exact ha.ty
/-! the predicates of the program, upon data -/
def dInt (lo hi : Int) : PyData → Bool
  | .int i => decide (lo ≤ i ∧ i ≤ hi)
  | _ => false
def dShort (m : Int) : PyData → Bool
  | .str z => isPr z && decide ((z.length : Int) ≤ m)
  | _ => false
def dCmd : PyData → Bool
  | .tuple [c, n, t] => dInt (-100) (-1) c && dInt 1 1000000000000 n && dShort 240 t
  | _ => false
def dClient : PyData → Int
  | .tuple (.int c :: _) => c
  | _ => 0
def dAfter : Option Int → PyData → Bool
  | some k, d => decide (k < dClient d)
  | none, _ => true
def befV : Option Int → V
  | some k => .int k
  | none => .non
def dCmdsFrom : Option Int → List PyData → Bool
  | _, [] => true
  | b, d :: r => dCmd d && dAfter b d && dCmdsFrom (some (dClient d)) r
theorem dCmdsFrom_cons (b : Option Int) (d : PyData) (r : List PyData) : dCmdsFrom b (d :: r) = (dCmd d && dAfter b d && dCmdsFrom (some (dClient d)) r) := by cases b <;> rfl
theorem dCmdsFrom_nil (b : Option Int) : dCmdsFrom b [] = true := by cases b <;> rfl
def dCmds : PyData → Bool
  | .tuple ds => dCmdsFrom none ds
  | _ => false
def dHeight (parent : Int) (h : PyData) : Bool := if parent = 0 then dInt 1 1 h else dInt 2 (parent + 1) h
def dBlock4 (e p h cs : PyData) : Bool := match e, p with
  | .int e, .int p => dInt 1 1000000000000 (.int e) && dInt 0 (e - 1) (.int p) && dHeight p h && dCmds cs
  | _, _ => false
def dBlock : PyData → Bool
  | .tuple [e, p, h, cs] => dBlock4 e p h cs
  | _ => false
def dEmpty : PyData → Bool
  | .tuple [] => true
  | _ => false
def dGen : PyData → Bool
  | .tuple [e, p, h, cs] => dInt 0 0 e && dInt 0 0 p && dInt 0 0 h && dEmpty cs
  | _ => false
theorem DtAll.four {H : Hp} {A : Option Addr} {xs : List V} {ds : List PyData} (h : DtAll K H A xs ds) (hl : xs.length = 4) :
    ∃ x1 x2 x3 x4 d1 d2 d3 d4, xs = [x1, x2, x3, x4] ∧ ds = [d1, d2, d3, d4] ∧ Dt K H A x1 d1 ∧ Dt K H A x2 d2 ∧ Dt K H A x3 d3 ∧ Dt K H A x4 d4 := by
  match xs, ds, h with
  | [_, _, _, _], _, .cons h1 (.cons h2 (.cons h3 (.cons h4 .nil))) => exact ⟨_, _, _, _, _, _, _, _, rfl, rfl, h1, h2, h3, h4⟩
theorem dBlock4_e1 {e p h cs : PyData} (z : dInt 1 1000000000000 e = false) : dBlock4 e p h cs = false := by
  unfold dBlock4
  split
  · rw [z]; rfl
  · rfl
theorem dBlock4_e2 {e : Int} {p h cs : PyData} (z : dInt 0 (e - 1) p = false) : dBlock4 (.int e) p h cs = false := by
  unfold dBlock4
  split
  · rename_i h1
    cases h1
    rw [z, Bool.and_false]; rfl
  · rfl
/-- a predicate of one value, kept by growing heaps -/
def spPred (K : PySem.W.Frag) (A : Option Addr) (f : PyData → Bool) : Sp := fun vs H Q _ => ∃ (v : V) (d : PyData), vs = [v] ∧ Dt K H A v d ∧ ∀ H', Same H H' → Q (.bl (f d)) H'
def spIntD (K : PySem.W.Frag) (A : Option Addr) : Sp := fun vs H Q _ => ∃ (v : V) (d : PyData) (lo hi : Int), vs = [v, .int lo, .int hi] ∧ Dt K H A v d ∧ Q (.bl (dInt lo hi d)) H
def spShortD (K : PySem.W.Frag) (A : Option Addr) : Sp := fun vs H Q _ => ∃ (v : V) (d : PyData) (m : Int), vs = [v, .int m] ∧ Dt K H A v d ∧ ∀ H', Same H H' → Q (.bl (dShort m d)) H'
theorem dInt_inv {lo hi : Int} {d : PyData} (h : dInt lo hi d = true) : ∃ i, d = .int i ∧ lo ≤ i ∧ i ≤ hi := by
  cases d with
  | int i =>
    have h : decide (lo ≤ i ∧ i ≤ hi) = true := h
    exact ⟨i, rfl, (of_decide_eq_true h).1, (of_decide_eq_true h).2⟩
  | none => cases h
  | bool b => cases h
  | str z => cases h
  | list ds => cases h
  | tuple ds => cases h
  | dict k => cases h
theorem dShort_inv {m : Int} {d : PyData} (h : dShort m d = true) : ∃ z : Str, d = .str z ∧ isPr z = true ∧ (z.length : Int) ≤ m := by
  cases d with
  | str z =>
    have h : (isPr z && decide ((z.length : Int) ≤ m)) = true := h
    obtain ⟨h1, h2⟩ := Bool.and_eq_true_iff.mp h
    exact ⟨z, rfl, h1, of_decide_eq_true h2⟩
  | none => cases h
  | bool b => cases h
  | int i => cases h
  | list ds => cases h
  | tuple ds => cases h
  | dict k => cases h
theorem dCmd_inv {d : PyData} (h : dCmd d = true) : ∃ (c n : Int) (t : Str), d = .tuple [.int c, .int n, .str t] ∧ -100 ≤ c ∧ c ≤ -1 ∧ 1 ≤ n ∧ n ≤ 1000000000000 ∧ isPr t = true ∧ (t.length : Int) ≤ 240 := by
  unfold dCmd at h
  split at h
  · rename_i c n t
    rw [Bool.and_eq_true, Bool.and_eq_true] at h
    obtain ⟨⟨h1, h2⟩, h3⟩ := h
    obtain ⟨c, rfl, c0, c1⟩ := dInt_inv h1
    obtain ⟨n, rfl, n0, n1⟩ := dInt_inv h2
    obtain ⟨t, rfl, t0, t1⟩ := dShort_inv h3
    exact ⟨c, n, t, rfl, c0, c1, n0, n1, t0, t1⟩
  · cases h
/-- what a tuple of three ints, ints, texts stands for -/
theorem Dt.three {H : Hp} {A : Option Addr} {v : V} {d1 d2 d3 : PyData} (h : Dt K H A v (.tuple [d1, d2, d3])) : ∃ a x1 x2 x3, v = .ref a ∧ TupAt K H a [x1, x2, x3] ∧ Dt K H A x1 d1 ∧ Dt K H A x2 d2 ∧ Dt K H A x3 d3 := by
  cases h with
  | tup ha hd =>
    cases hd with
    | cons h1 hd =>
      cases hd with
      | cons h2 hd =>
        cases hd with
        | cons h3 hd =>
          cases hd
          exact ⟨_, _, _, _, rfl, ha, h1, h2, h3⟩
mutual
theorem Dt.any {H : Hp} {A : Option Addr} : ∀ (d : PyData) (v : V), Dt K H A v d → Dt K H none v d
  | .none, _, h => by cases h; exact .non
  | .bool b, _, h => by cases h; exact .bl b
  | .int i, _, h => by cases h; exact .int i
  | .str z, _, h => by cases h with | str _ hz => exact .str z hz
  | .list ds, _, h => by cases h with | lst hn ha hd => exact .lst trivial ha (DtAll.any ds _ hd)
  | .tuple ds, _, h => by cases h with | tup ha hd => exact .tup ha (DtAll.any ds _ hd)
  | .dict _, _, h => by cases h
theorem DtAll.any {H : Hp} {A : Option Addr} : ∀ (ds : List PyData) (xs : List V), DtAll K H A xs ds → DtAll K H none xs ds
  | [], _, h => by cases h; exact .nil
  | d :: ds, _, h => by cases h with | cons h1 h2 => exact .cons (Dt.any d _ h1) (DtAll.any ds _ h2)
end
theorem Dt.an {H : Hp} {A : Option Addr} {v : V} {d : PyData} (h : Dt K H A v d) : Dt K H none v d := Dt.any d v h
/-! data without lists -/
mutual
def noL : PyData → Bool
  | .list _ => false
  | .tuple ds => noLs ds
  | _ => true
def noLs : List PyData → Bool
  | [] => true
  | d :: r => noL d && noLs r
end
/-- tracked tuples stay -/
def Tp (H H' : Hp) : Prop := ∀ a xs, H a = some (.tup xs) → H' a = some (.tup xs)
mutual
theorem Dt.keep {H H' : Hp} {A B : Option Addr} (t : Tp H H') : ∀ (d : PyData) (v : V), noL d = true → Dt K H A v d → Dt K H' B v d
  | .none, _, _, h => by cases h; exact .non
  | .bool b, _, _, h => by cases h; exact .bl b
  | .int i, _, _, h => by cases h; exact .int i
  | .str z, _, _, h => by cases h with | str _ hz => exact .str z hz
  | .list ds, _, n, _ => by cases n
  | .tuple ds, _, n, h => by cases h with | tup ha hd => exact .tup (ha.imp (t _ _) id) (DtAll.keep t ds _ n hd)
  | .dict _, _, _, h => by cases h
theorem DtAll.keep {H H' : Hp} {A B : Option Addr} (t : Tp H H') : ∀ (ds : List PyData) (xs : List V), noLs ds = true → DtAll K H A xs ds → DtAll K H' B xs ds
  | [], _, _, h => by cases h; exact .nil
  | d :: ds, _, n, h => by
    have n : (noL d && noLs ds) = true := n
    rw [Bool.and_eq_true] at n
    cases h with | cons h1 h2 => exact .cons (Dt.keep t d _ n.1 h1) (DtAll.keep t ds _ n.2 h2)
end
theorem DtAll.snoc {H : Hp} {A : Option Addr} : ∀ {xs : List V} {ds : List PyData} {x : V} {d : PyData}, DtAll K H A xs ds → Dt K H A x d → DtAll K H A (xs ++ [x]) (ds ++ [d])
  | _, _, _, _, .nil, h => .cons h .nil
  | _, _, _, _, .cons h r, h2 => .cons h (r.snoc h2)
theorem TupAt.tp {H H' : Hp} {a : Addr} {xs : List V} (h : TupAt K H a xs) (t : Tp H H') : TupAt K H' a xs := h.imp (t _ _) id
theorem Same.tp {H H' : Hp} (s : Same H H') : Tp H H' := fun _ _ h => s _ _ h
theorem Mod.tp {H H' : Hp} {A D : Addr} (s : Mod A H H') (dr : Dr H D A) : Tp H H' := fun a xs h => by
  obtain ⟨_, _, _, _, e, _⟩ := id dr
  exact s _ _ (ne_of h e (by intro z; cases z)) h
theorem tp_put {H : Hp} {l : Addr} {xs ys : List V} (h : H l = some (.lst xs)) : Tp H (upd H l (.lst ys)) := fun a zs e => by
  rw [upd_ne (ne_of e h (by intro z; cases z))]; exact e
theorem dCmd_noL {d : PyData} (h : dCmd d = true) : noL d = true := by
  obtain ⟨c, n, t, rfl, _⟩ := dCmd_inv h
  rfl
theorem dCmdsFrom_noL : ∀ {ds : List PyData} {b : Option Int}, dCmdsFrom b ds = true → noLs ds = true
  | [], _, _ => rfl
  | d :: r, b, h => by
    rw [dCmdsFrom_cons, Bool.and_eq_true, Bool.and_eq_true] at h
    show (noL d && noLs r) = true
    rw [dCmd_noL h.1.1, dCmdsFrom_noL h.2]; rfl
theorem dCmdsFrom_all : ∀ {ds : List PyData} {b : Option Int}, dCmdsFrom b ds = true → ∀ d ∈ ds, dCmd d = true
  | [], _, _, _, m => nomatch m
  | d :: r, b, h, e, m => by
    rw [dCmdsFrom_cons, Bool.and_eq_true, Bool.and_eq_true] at h
    rcases List.mem_cons.mp m with rfl | m
    · exact h.1.1
    · exact dCmdsFrom_all h.2 e m
def lastC : Option Int → List PyData → Option Int
  | b, [] => b
  | _, d :: r => lastC (some (dClient d)) r
theorem lastC_snoc : ∀ (ds : List PyData) (b : Option Int) (d : PyData), lastC b (ds ++ [d]) = some (dClient d)
  | [], _, _ => rfl
  | _ :: r, _, d => lastC_snoc r _ d
theorem dCmdsFrom_snoc : ∀ (ds : List PyData) (b : Option Int) (d : PyData), dCmdsFrom b (ds ++ [d]) = (dCmdsFrom b ds && (dCmd d && dAfter (lastC b ds) d))
  | [], b, d => by
    show dCmdsFrom b [d] = _
    rw [dCmdsFrom_cons, dCmdsFrom_nil, dCmdsFrom_nil, Bool.and_true, Bool.true_and]; rfl
  | e :: r, b, d => by
    show dCmdsFrom b (e :: (r ++ [d])) = _
    rw [dCmdsFrom_cons, dCmdsFrom_snoc r, dCmdsFrom_cons, Bool.and_assoc, Bool.and_assoc, Bool.and_assoc]; rfl
end
theorem noLs_all : ∀ {ds : List PyData}, (∀ d ∈ ds, noL d = true) → noLs ds = true
  | [], _ => rfl
  | d :: r, h => by
    show (noL d && noLs r) = true
    rw [h d List.mem_cons_self, noLs_all (fun e he => h e (List.mem_cons_of_mem _ he))]; rfl

theorem same_none {H H' : Hp} {p : Addr} (s : Same H H') (h : H' p = none) : H p = none := by
  cases e : H p with
  | none => rfl
  | some o => rw [s p o e] at h; cases h

/-! ### slices and sums of tuples, as data -/
def cutD (ds : List PyData) (lo hi : Option Int) : List PyData := (ds.drop (HT.sIx ds.length 0 lo)).take (HT.sIx ds.length ds.length hi - HT.sIx ds.length 0 lo)
theorem DtAll.drop {K : PySem.W.Frag} {H : Hp} {A : Option Addr} : ∀ {xs : List V} {ds : List PyData} (n : Nat), DtAll K H A xs ds → DtAll K H A (xs.drop n) (ds.drop n)
  | _, _, 0, h => h
  | _, _, _ + 1, .nil => .nil
  | _, _, n + 1, .cons _ r => r.drop n
theorem DtAll.take {K : PySem.W.Frag} {H : Hp} {A : Option Addr} : ∀ {xs : List V} {ds : List PyData} (n : Nat), DtAll K H A xs ds → DtAll K H A (xs.take n) (ds.take n)
  | _, _, 0, _ => by rw [List.take_zero, List.take_zero]; exact .nil
  | _, _, _ + 1, .nil => .nil
  | _, _, n + 1, .cons h r => .cons h (r.take n)
theorem DtAll.app {K : PySem.W.Frag} {H : Hp} {A : Option Addr} : ∀ {xs ys : List V} {ds es : List PyData}, DtAll K H A xs ds → DtAll K H A ys es → DtAll K H A (xs ++ ys) (ds ++ es)
  | _, _, _, _, .nil, h => h
  | _, _, _, _, .cons h r, h2 => .cons h (r.app h2)
theorem sl_dt {K : PySem.W.Frag} {A : Option Addr} {H : Hp} {b : Addr} {xs : List V} {ds : List PyData} {lo hi : Option Int} {Q : VK} (ha : TupAt K H b xs) (hx : DtAll K H A xs ds) (q : ∀ H' v, Same H H' → Dt K H' A v (.tuple (cutD ds lo hi)) → Q v H') : rSlA K (.ref b) lo hi H Q := by
  have hl := hx.length
  refine ⟨b, xs, rfl, ha.sq, fun hw => q _ _ (Same.refl H) ?_, fun _ p hp => q _ _ (same_upd hp) (.tup (.inl upd_same) ?_)⟩
  · have e : cutD ds lo hi = ds := by
      unfold cutD
      rw [← hl, hw.1, hw.2, List.drop_zero, Nat.sub_zero, hl, List.take_of_length_le (Nat.le_refl _)]
    rw [e]
    exact .tup ha hx
  · unfold cutV cutD
    rw [← hl]
    exact ((hx.drop _).take _).on (same_upd hp)
theorem cat_dt {K : PySem.W.Frag} {A : Option Addr} {H : Hp} {v u : V} {ds es : List PyData} {Q : VK} (hv : Dt K H A v (.tuple ds)) (hu : Dt K H A u (.tuple es)) (hl : ds.length + es.length ≤ 100000) (q : ∀ H' v', Same H H' → Dt K H' A v' (.tuple (ds ++ es)) → Q v' H') : rCatA K v u H Q := by
  cases hv with
  | tup ha hx =>
    cases hu with
    | tup hb hy =>
      rename_i a xs b ys
      have l1 := hx.length
      have l2 := hy.length
      refine ⟨a, b, xs, ys, rfl, rfl, ha.sq, hb.sq, sz1000 (by omega), fun e => q _ _ (Same.refl H) ?_, fun _ e => q _ _ (Same.refl H) ?_, fun _ _ p hp => q _ _ (same_upd hp) (.tup (.inl upd_same) ((hx.app hy).on (same_upd hp)))⟩
      · rw [e] at l1
        rw [List.length_eq_zero_iff.mp l1.symm]
        exact .tup hb hy
      · rw [e] at l2
        rw [List.length_eq_zero_iff.mp l2.symm, List.append_nil]
        exact .tup ha hx
theorem cutD_take (ds : List PyData) (j : Nat) : cutD ds none (some (j : Int)) = ds.take j := by
  unfold cutD
  rw [HT.sIx_nat, HT.sIx_none, List.drop_zero, Nat.sub_zero]
  rcases Nat.le_total j ds.length with h | h
  · rw [Nat.min_eq_left h]
  · rw [Nat.min_eq_right h, List.take_of_length_le (Nat.le_refl _), List.take_of_length_le h]
theorem cutD_drop (ds : List PyData) (j : Nat) : cutD ds (some (j : Int)) none = ds.drop j := by
  unfold cutD
  rw [HT.sIx_nat, HT.sIx_none]
  rcases Nat.le_total j ds.length with h | h
  · rw [Nat.min_eq_left h, List.take_of_length_le (by rw [List.length_drop]; exact Nat.le_refl _)]
  · rw [Nat.min_eq_right h, Nat.sub_self, List.take_zero, List.drop_of_length_le h]

theorem atI_lt {α : Type} {xs : List α} {i : Int} (h0 : 0 ≤ i) (h1 : i < xs.length) : ∃ v, v ∈ xs ∧ atI xs i = some v := by
  obtain ⟨j, rfl⟩ := Int.eq_ofNat_of_zero_le h0
  have hj : j < xs.length := Int.ofNat_lt.mp h1
  exact ⟨xs[j], List.getElem_mem hj, atI_nat (List.getElem?_eq_getElem hj)⟩

/-! ### dicts as lists of pairs -/
section
variable {κ α : Type} [DecidableEq κ]
def gA (ks : List (κ × α)) (c : κ) : Option α := (ks.find? fun k => decide (k.1 = c)).map (·.2)
def pA (ks : List (κ × α)) (c : κ) (x : α) : List (κ × α) := if (ks.any fun k => decide (k.1 = c)) = true then ks.map (fun k => if k.1 = c then (k.1, x) else k) else ks ++ [(c, x)]
/-- the pairs as they stand in a dict -/
def kvs (em : κ → Key) (f : α → V) (ks : List (κ × α)) : List (Key × V) := ks.map fun k => (em k.1, f k.2)
def kOk (ks : List (κ × α)) : Prop := (ks.map (·.1)).Nodup
theorem gA_kvs {em : κ → Key} (inj : ∀ a b, em a = em b → a = b) (f : α → V) : ∀ (ks : List (κ × α)) (c : κ), valV (kvs em f ks) (em c) = (gA ks c).map f
  | [], _ => rfl
  | k :: r, c => by
    have ih := gA_kvs inj f r c
    unfold kvs valV gA at ih ⊢
    rw [List.map_cons, List.find?_cons, List.find?_cons]
    by_cases h : k.1 = c
    · have h1 : decide (em k.1 = em c) = true := decide_eq_true (by rw [h])
      rw [h1, decide_eq_true h]; rfl
    · have h1 : decide (em k.1 = em c) = false := decide_eq_false (fun z => h (inj _ _ z))
      rw [h1, decide_eq_false h]; exact ih
theorem pA_kvs {em : κ → Key} (inj : ∀ a b, em a = em b → a = b) (f : α → V) (ks : List (κ × α)) (c : κ) (x : α) : putK (kvs em f ks) (em c) (f x) = kvs em f (pA ks c x) := by
  have e : ∀ k : κ × α, decide (em k.1 = em c) = decide (k.1 = c) := fun k => decide_eq_decide.mpr ⟨fun z => inj _ _ z, fun z => by rw [z]⟩
  unfold putK pA kvs
  rw [List.any_map, show ((fun kv : Key × V => decide (kv.1 = em c)) ∘ fun k : κ × α => (em k.1, f k.2)) = fun k => decide (k.1 = c) from funext e]
  split
  · rw [List.map_map, List.map_map]
    refine List.map_congr_left fun k _ => ?_
    show (if em k.1 = em c then (em k.1, f x) else (em k.1, f k.2)) = (fun k : κ × α => (em k.1, f k.2)) (if k.1 = c then (k.1, x) else k)
    by_cases h : k.1 = c
    · rw [if_pos h, if_pos (by rw [h])]
    · rw [if_neg h, if_neg (fun z => h (inj _ _ z))]
  · rw [List.map_append]; rfl
theorem pA_len (ks : List (κ × α)) (c : κ) (x : α) : (pA ks c x).length ≤ ks.length + 1 := by
  unfold pA
  split
  · rw [List.length_map]; omega
  · rw [List.length_append]; exact Nat.le_refl _
theorem kvs_len (em : κ → Key) (f : α → V) (ks : List (κ × α)) : (kvs em f ks).length = ks.length := List.length_map _
theorem any_mem {ks : List (κ × α)} {c : κ} : (ks.any fun k => decide (k.1 = c)) = true ↔ c ∈ ks.map (·.1) := by
  rw [List.any_eq_true, List.mem_map]
  constructor
  · rintro ⟨k, hk, e⟩; exact ⟨k, hk, of_decide_eq_true e⟩
  · rintro ⟨k, hk, e⟩; exact ⟨k, hk, decide_eq_true e⟩
theorem pA_keys (ks : List (κ × α)) (c : κ) (x : α) : (pA ks c x).map (·.1) = if c ∈ ks.map (·.1) then ks.map (·.1) else ks.map (·.1) ++ [c] := by
  unfold pA
  by_cases h : c ∈ ks.map (·.1)
  · rw [if_pos (any_mem.mpr h), if_pos h, List.map_map]
    refine List.map_congr_left fun k _ => ?_
    show (if k.1 = c then (k.1, x) else k).1 = k.1
    split <;> rfl
  · rw [if_neg (fun z => h (any_mem.mp z)), if_neg h, List.map_append]; rfl
theorem pA_ok {ks : List (κ × α)} (c : κ) (x : α) (h : kOk ks) : kOk (pA ks c x) := by
  unfold kOk at *
  rw [pA_keys]
  split
  · exact h
  · rename_i hn
    rw [List.nodup_append]
    refine ⟨h, by simp, fun a ha b hb => ?_⟩
    have hb : b = c := by simpa using hb
    rw [hb]
    intro e
    exact hn (e ▸ ha)
theorem gA_none {ks : List (κ × α)} {c : κ} : gA ks c = none ↔ c ∉ ks.map (·.1) := by
  unfold gA
  rw [Option.map_eq_none_iff, List.find?_eq_none]
  constructor
  · intro h m
    obtain ⟨k, hk, e⟩ := List.mem_map.mp m
    exact h k hk (decide_eq_true e)
  · intro h k hk e
    exact h (List.mem_map.mpr ⟨k, hk, of_decide_eq_true e⟩)
theorem gA_mem : ∀ {ks : List (κ × α)} {k : κ × α}, kOk ks → k ∈ ks → gA ks k.1 = some k.2
  | q :: r, k, h, m => by
    unfold kOk at h
    rw [List.map_cons, List.nodup_cons] at h
    unfold gA
    rw [List.find?_cons]
    rcases List.mem_cons.mp m with rfl | m
    · rw [decide_eq_true rfl]; rfl
    · by_cases e : q.1 = k.1
      · exact absurd (e ▸ List.mem_map_of_mem (f := (·.1)) m) h.1
      · rw [decide_eq_false e]
        exact gA_mem (ks := r) h.2 m
theorem gA_some {ks : List (κ × α)} {c : κ} {x : α} (h : gA ks c = some x) : (c, x) ∈ ks := by
  unfold gA at h
  rw [Option.map_eq_some_iff] at h
  obtain ⟨k, h1, rfl⟩ := h
  have h2 := List.find?_some h1
  have h3 := List.mem_of_find?_eq_some h1
  have : k.1 = c := of_decide_eq_true h2
  rw [← this]; exact h3
theorem pA_mem {ks : List (κ × α)} {c : κ} {x : α} {k : κ × α} (h : k ∈ pA ks c x) : k = (c, x) ∨ (k ∈ ks ∧ k.1 ≠ c) := by
  unfold pA at h
  split at h
  · obtain ⟨q, hq, e⟩ := List.mem_map.mp h
    by_cases hc : q.1 = c
    · rw [if_pos hc] at e; exact .inl (by rw [← e, hc])
    · rw [if_neg hc] at e; subst e; exact .inr ⟨hq, hc⟩
  · rename_i hn
    rcases List.mem_append.mp h with h | h
    · exact .inr ⟨h, fun e => hn (any_mem.mpr (List.mem_map.mpr ⟨k, h, e⟩))⟩
    · exact .inl (List.mem_singleton.mp h)
theorem gA_put {ks : List (κ × α)} (h : kOk ks) (c d : κ) (x : α) : gA (pA ks c x) d = if d = c then some x else gA ks d := by
  have h2 := pA_ok c x h
  by_cases e : d = c
  · subst e
    rw [if_pos rfl]
    have hm : d ∈ (pA ks d x).map (·.1) := by
      rw [pA_keys]; split
      · assumption
      · exact List.mem_append_right _ (List.mem_singleton.mpr rfl)
    obtain ⟨k, hk, ek⟩ := List.mem_map.mp hm
    have := gA_mem h2 hk
    rw [ek] at this
    rw [this]
    rcases pA_mem hk with e | ⟨_, e⟩
    · rw [e]
    · exact absurd ek e
  · rw [if_neg e]
    cases g : gA ks d with
    | none =>
      rw [gA_none] at g ⊢
      rw [pA_keys]
      split
      · exact g
      · intro m
        rcases List.mem_append.mp m with m | m
        · exact g m
        · exact e (List.mem_singleton.mp m)
    | some y =>
      have hm := gA_some g
      have : (d, y) ∈ pA ks c x := by
        unfold pA
        split
        · exact List.mem_map.mpr ⟨(d, y), hm, if_neg e⟩
        · exact List.mem_append_left _ hm
      exact gA_mem h2 this
theorem kvs_keys {em : κ → Key} {f : α → V} {ks : List (κ × α)} : (kvs em f ks).map (·.1) = (ks.map (·.1)).map em := by
  unfold kvs
  rw [List.map_map, List.map_map]; rfl
end
theorem inlI : ∀ a b : Int, (Sum.inl a : Key) = Sum.inl b → a = b := fun _ _ z => Sum.inl.inj z
theorem inrI : ∀ a b : Str, (Sum.inr a : Key) = Sum.inr b → a = b := fun _ _ z => Sum.inr.inj z

/-! ### data for comparisons: shape and depth -/
def Ly (k : Nat) (d : PyData) : Prop := d.canLay0 = true ∧ d.depth ≤ k
theorem ly_all {k : Nat} : ∀ {ds : List PyData}, (∀ d ∈ ds, Ly k d) → PyData.canLayAll0 ds = true ∧ PyData.depthAll ds ≤ k
  | [], _ => ⟨by simp [PyData.canLayAll0], by simp [PyData.depthAll]⟩
  | d :: r, h => by
    obtain ⟨i1, i2⟩ := ly_all fun z hz => h z (List.mem_cons_of_mem _ hz)
    obtain ⟨l1, l2⟩ := h d List.mem_cons_self
    constructor
    · rw [PyData.canLayAll0, i1, l1]; rfl
    · rw [PyData.depthAll]; omega
theorem ly_tup {k : Nat} {ds : List PyData} (h : ∀ d ∈ ds, Ly k d) : Ly (k + 1) (.tuple ds) := by
  obtain ⟨a, b⟩ := ly_all h
  exact ⟨by rw [PyData.canLay0]; exact a, by rw [PyData.depth]; omega⟩
theorem ly_lst {k : Nat} {ds : List PyData} (h : ∀ d ∈ ds, Ly k d) : Ly (k + 1) (.list ds) := by
  obtain ⟨a, b⟩ := ly_all h
  exact ⟨by rw [PyData.canLay0]; exact a, by rw [PyData.depth]; omega⟩
theorem ly_int {k : Nat} (i : Int) : Ly k (.int i) := ⟨by simp [PyData.canLay0], by simp [PyData.depth]⟩
theorem ly_non {k : Nat} : Ly k .none := ⟨by simp [PyData.canLay0], by simp [PyData.depth]⟩
theorem ly_bl {k : Nat} (b : Bool) : Ly k (.bool b) := ⟨by simp [PyData.canLay0], by simp [PyData.depth]⟩
theorem ly_str {k : Nat} {z : Str} (h : PyData.strOk z = true) : Ly k (.str z) := ⟨by simp [PyData.canLay0, h], by simp [PyData.depth]⟩
theorem Ly.mono {k j : Nat} {d : PyData} (h : Ly k d) (le : k ≤ j) : Ly j d := ⟨h.1, Nat.le_trans h.2 le⟩
theorem ly_nil {k : Nat} : ∀ d ∈ ([] : List PyData), Ly k d := fun _ m => nomatch m
theorem ly_cons {k : Nat} {d : PyData} {r : List PyData} (h : Ly k d) (hr : ∀ d ∈ r, Ly k d) : ∀ e ∈ d :: r, Ly k e := fun e m => by
  rcases List.mem_cons.mp m with rfl | m
  · exact h
  · exact hr e m
theorem ly_app {k : Nat} {r s : List PyData} (hr : ∀ d ∈ r, Ly k d) (hs : ∀ d ∈ s, Ly k d) : ∀ e ∈ r ++ s, Ly k e := fun e m => by
  rcases List.mem_append.mp m with m | m
  · exact hr e m
  · exact hs e m
theorem shpL {d : PyData} (h : Ly 20 d) : SeqAt.shaped d = true ∧ PyData.eqv d d = true := by
  refine ⟨?_, SeqAt.eqv_refl _ h.1⟩
  unfold SeqAt.shaped
  rw [h.1, decide_eq_true (by have := h.2; omega)]; rfl

section
open Calls
theorem kbm {X : Cx} {K : PySem.W.Frag} {T : String} {name : Str} {id : String} {r : V → List V → Hp → VK → Prop} {to : TE} {t : TA} {o e : Expr} {es : List Expr} {apos cpos : Pos} (pa : PlainAttrs T) (slot : Slot T name id) (hty : typeOf (.builtin id) = pure (.type "method_descriptor")) (hm : MtR X id r) (ho : PE X o to) (ha : PA X (e :: es) t)
    (hbase : attributeBase o name X.env (eval o X.env) = eval o X.env := by rfl)
    (hfew : ((backTo cpos (starEach (e :: es) X.env)).all (fun x => !x.1) && (backToKw cpos (keywordEach [] X.env)).all (fun x => x.1.isSome)
      && decide ((e :: es).length + ([] : List Keyword).length + (if ([] : List Keyword).isEmpty then 0 else 1) < 30)) = true := by rfl)
    (hline : (apos.endLine == cpos.line) = true := by rfl) (hs : starEach (e :: es) X.env = (false, eval e X.env) :: starEach es X.env := by rfl) (hplain : (backTo cpos (starEach es X.env)).any (·.1) = false := by rfl) (hK : X.K = K := by rfl) :
    PE X (.Call (.Attribute o name apos) (e :: es) [] cpos) (tBM K T r to t) := by
  subst hK
  exact pe_bm pa slot hty hm ho ha hbase hfew hline hs hplain
end

/-! ### list(d.values()).count(x): rules -/
section
variable {X : Cx}
theorem mt_dvals : MtR X "dict.values" (fun x xs H Q => ∃ (a : Addr) (kvs : List (Key × V)), x = .ref a ∧ xs = [] ∧ H a = some (.dK kvs) ∧ ∀ p, H p = none → Q (.ref p) (upd H p (viewO "dict_values" p a))) := by
  intro pins s σ H x xs v us Q I rx rxs h
  obtain ⟨a, kvs, rfl, rfl, ha, q⟩ := h
  cases rx
  cases rxs
  obtain ⟨_, hsys, vs, rel, dof⟩ := dk_of I.hok ha
  obtain ⟨ep, dat⟩ := dof.dictAt
  have dat' := dat
  obtain ⟨ob, es, ho, ex, hdat, hko, hpr, hnd⟩ := dat'
  refine call_meetsIn F.slot_dict_values ⟨ob, ho, ex.1⟩ F.entry_dict_values (F.args_dict_values_1 _) (meets_dict_values (mixKind X.prog X.w) a hsys) ⟨⟨vs, dof⟩, ?_⟩
  exact ⟨.ref s.heap.objs.size, _, I.laid (t' := s.toks) (fun b o q => Heap.get?_push_of_some _ q) (Nat.le_refl _) (viewO_ok (Heap.get?_push_size _ rfl)), rfl, q _ (I.hok.fresh (Nat.le_refl _))⟩
theorem call_listVals (hcalm : X.calm = true) : CallR X (.type "list") (fun xs H Q => ∃ (p a : Addr) (kvs : List (Key × V)), xs = [.ref p] ∧ H p = some (viewO "dict_values" p a) ∧ H a = some (.dK kvs) ∧ ∀ l, H l = none → Q (.ref l) (upd H l (.lst (kvs.map (·.2))))) := by
  intro pins s σ H xs us Q I r q
  obtain ⟨p, a, kvs, ex, hp, hd, q⟩ := q
  subst ex
  obtain ⟨u, eu, rx⟩ := vals1 r
  subst eu
  cases rx
  obtain ⟨z, lo, vs, rel, dd⟩ := dk_of I.hok hd
  obtain ⟨ep, hat⟩ := dd.dictAt
  have hv : s.heap.get? p = some (DSub.viewOb "dict_values" a) := (show ObjOk X.prog X.w H s.heap p (viewO "dict_values" p a) from I.hok p _ hp).1
  refine PySem.W.kdl_call (PySem.W.kdl_values (knd := mixKind X.prog X.w) (kvs := vs) (ep := ep)) (I.ok.hd hcalm) ⟨⟨_, hv, rfl, rfl⟩, hat⟩ (by rw [← rel.length]; exact z) fun h' tk acc c' hk hD hacc => ?_
  have hvv : Vals (kvs.map (·.2)) acc.toList := vals_of_at (by have e1 := hacc.1; have e2 := rel.length; rw [List.length_map, Array.length_toList]; exact e2.trans e1.symm) fun j x u hx hu => by
    obtain ⟨k, hk⟩ := hacc.2 j u (by rw [← Array.getElem?_toList]; exact hu)
    obtain ⟨y, h1, h2⟩ := KV.at' rel hk
    rw [List.getElem?_map, h1] at hx
    cases hx
    exact h2
  exact ⟨.ref s.heap.objs.size, upd H s.heap.objs.size (.lst (kvs.map (·.2))), I.laid (t' := tk) hk (Nat.le_refl _)
    (show ObjOk X.prog X.w _ _ _ (.lst (kvs.map (·.2))) from ⟨by rw [List.length_map]; exact z, acc.toList, c', hvv, by rw [Array.toArray_toList]; exact hD⟩), rfl, q _ (I.hok.fresh (Nat.le_refl _))⟩
def rCountD (K : PySem.W.Frag) : V → List V → Hp → VK → Prop := fun x xs H Q => ∃ (a : Addr) (y : V) (d : PyData) (ds : List PyData), x = V.ref a ∧ xs = [y] ∧ Dp K H (V.ref a) (.list ds) ∧ Dp K H y d ∧
  SeqAt.shaped (.list ds) = true ∧ SeqAt.shaped d = true ∧ Q (.int ((ds.countP fun z => PyData.eqv z d : Nat) : Int)) H
theorem mt_lcountD (hu : X.A.units + 65 < cLine) : MtR X "list.count" (rCountD X.K) := by
  intro pins s σ H x xs v us Q I rx rxs h
  obtain ⟨a, y, d, ds, rfl, rfl, hl, hy, sl, sd, q⟩ := h
  cases rx
  cases rxs with
  | cons ry rt =>
    rename_i uy ut
    cases rt
    obtain ⟨bs, r1⟩ := Dp.reads I d y uy hy ry
    have hxs : PyData.canLayAll0 ds = true := SeqAt.canLay_of_shaped sl
    have hroom : X.A.units + 1 + min (PyData.depthAll ds) d.depth < cLine := room_in_shaped sd hu
    cases hl with
    | lst hs ha =>
      obtain ⟨its, rv, ⟨⟨cls, dd, data, sls⟩, n, ho, hc, hdn, hdt⟩, hlen⟩ := I.list hs
      simp only at hc hdt
      subst hc hdt
      obtain ⟨as, h4⟩ := Dp.readsAll I ds _ its ha rv
      have hmap : its.map (SeqAt.readOf s.heap) = ds := SeqAt.readsAll_map ds its as hxs h4
      refine call_meets PySem.F.slot_list_count ⟨_, ho, rfl⟩ PySem.F.entry_list_count (PySem.F.args_list_count_2 _ _)
        (SeqAt.list_countAt a its.toArray n dd sls uy (fun u => PyData.eqv (SeqAt.readOf s.heap u) d)) ⟨ho, SeqAt.items_eqAt (vs := its.toArray) (show ReadsAll s.heap its.toArray.toList ds as from h4) r1 hxs (SeqAt.canLay_of_shaped sd) hroom, ?_⟩
      have ec : its.toArray.toList.countP (fun u => PyData.eqv (SeqAt.readOf s.heap u) d) = ds.countP fun z => PyData.eqv z d := by
        rw [← hmap, List.countP_map]; rfl
      refine ⟨.int ((ds.countP fun z => PyData.eqv z d : Nat) : Int), H, I.tok _, ⟨s.toks, ?_⟩, q⟩
      show Value.int ((its.toArray.toList.countP (fun u => PyData.eqv (SeqAt.readOf s.heap u) d) : Nat) : Int) s.toks = Value.int _ s.toks
      rw [ec]
end

/-! ### all but some addresses stand -/
def But (S : List Addr) (H H' : Hp) : Prop := ∀ b o, b ∉ S → H b = some o → H' b = some o
theorem Same.but {S : List Addr} {H H' : Hp} (s : Same H H') : But S H H' := fun b o _ h => s b o h
theorem But.trans {S : List Addr} {H H1 H2 : Hp} (a : But S H H1) (b : But S H1 H2) : But S H H2 := fun c o n h => b c o n (a c o n h)
theorem but_upd {S : List Addr} {a : Addr} {o : HO} {H : Hp} (h : a ∈ S) : But S H (upd H a o) := fun b u n e => by
  rw [upd_ne (fun z => n (by rw [z]; exact h))]; exact e
theorem tp_upd {H : Hp} {a : Addr} {o u : HO} (e : H a = some u) (n : ∀ xs, u ≠ .tup xs) : Tp H (upd H a o) := fun b xs f => by
  rw [upd_ne (fun z => by rw [z, e] at f; exact n xs (Option.some.inj f))]; exact f

/-- all but p and l are as they were -/
def But2 (p l : Addr) (H H' : Hp) : Prop := ∀ b o, b ≠ p → b ≠ l → H b = some o → H' b = some o
theorem But2.refl {p l : Addr} {H : Hp} : But2 p l H H := fun _ _ _ _ h => h
theorem But2.trans {p l : Addr} {H H1 H2 : Hp} (a : But2 p l H H1) (b : But2 p l H1 H2) : But2 p l H H2 := fun c o n m h => b c o n m (a c o n m h)
theorem Same.but2 {p l : Addr} {H H' : Hp} (s : Same H H') : But2 p l H H' := fun b o _ _ h => s b o h

/-! ### sorted(d), d a dict with text keys, of any length -/
def sortS (ks : List Str) : List Str := ks.mergeSort (PySem.W.dataLe false PyData.str)
theorem sortS_perm (ks : List Str) : (sortS ks).Perm ks := List.mergeSort_perm ks _
theorem sortS_len (ks : List Str) : (sortS ks).length = ks.length := (sortS_perm ks).length_eq
section
open PySem.W PyProof.Rows
theorem each_of_strs {us : List Value} {ks : List Str} (h : StrsAre us ks) : EachIs (fun v x => ∃ t, v = .str x t) us ks := by
  induction h with
  | nil => exact .nil
  | cons y t _ ih => exact .cons ⟨_, rfl⟩ ih
end
section
open PySem.W PyProof.Rows
variable {X : Cx}
theorem vals_strs : ∀ {us : List Value} {ks : List Str}, EachIs (fun v x => ∃ t, v = .str x t) us ks → Vals (ks.map V.str) us
  | _, _, .nil => .nil
  | _, _, .cons ⟨t, h1⟩ r => .cons ⟨t, h1⟩ (vals_strs r)
theorem call_sortedDS (hcalm : X.calm = true) (hu : X.A.units + 65 < cLine) : CallR X (.builtin "sorted") (fun xs H Q => ∃ (a : Addr) (kvs : List (Key × V)) (ks : List Str), xs = [.ref a] ∧ Rd H a (.dK kvs) ∧ kvs.map (·.1) = ks.map Sum.inr ∧ ks.length ≤ 100000 ∧
    ∀ p, H p = none → Q (.ref p) (upd H p (.lst ((sortS ks).map V.str)))) := by
  intro pins s σ H xs us Q I r q
  obtain ⟨a, kvs, ks, ex, hd, hks, h64, q⟩ := q
  subst ex
  obtain ⟨u, eu, rx⟩ := vals1 r
  subst eu
  cases rx
  obtain ⟨z, lo, vs, rel, dd⟩ := dk_rd I.hok hd
  obtain ⟨ep, hat⟩ := dd.dictAt
  have hkeys : vs.map (·.1) = ks.map Sum.inr := rel.keys.symm.trans hks
  have hl : vs.length = ks.length := by
    have e := congrArg List.length hkeys
    rw [List.length_map, List.length_map] at e
    exact e
  have h16 : vs.length ≤ sizeLine := by rw [hl]; exact sz1000 h64
  refine Calls.call_function_entry PyProof.Rows.kind_sorted PyProof.Rows.plain_sorted PyProof.Rows.entry_sorted (PyProof.Rows.args_sorted1 _) ?_
  unfold Builtin.«sorted»
  refine wpAny_bind (m := checkCount "sorted" 1 1 _) (wpAny_pure ?_)
  refine wpAny_bind (PySem.W.kdu_collect (A := X.A.in1) (PySem.W.kdl_dict (knd := mixKind X.prog X.w) (kvs := vs) (ep := ep) lo) (I.ok.hd hcalm) hat h16 fun h' tk acc hk hacc => ?_)
  have hal : acc.toList.length = ks.length := by rw [Array.length_toList, hacc.1, hl]
  have hS : StrsAre acc.toList ks := strs_at hal fun j v e => by
    obtain ⟨k, x, e1, e2⟩ := hacc.2 j v (by rw [← Array.getElem?_toList]; exact e)
    have e3 : (vs.map (·.1))[j]? = some k := by rw [List.getElem?_map, e1]; all_goals rfl
    rw [hkeys, List.getElem?_map] at e3
    cases e4 : ks[j]? with
    | none => rw [e4] at e3; cases e3
    | some y =>
      rw [e4] at e3
      have e5 : Sum.inr y = k := Option.some.inj e3
      subst e5
      obtain ⟨t, ev⟩ := Value.isStrOf_shape (x := y) (v := v) e2
      exact ⟨y, t, rfl, ev⟩
  have I1 : Inv X pins σ H { s with heap := h', toks := tk } := I.kept hk
  refine wpAny_bind (wpAny_newList ?_ (by rw [hal]; exact sz1000 h64))
  have hoL : (h'.push (seqObj "list" acc.toList.toArray 0)).get? h'.objs.size = some (seqObj "list" acc.toList.toArray 0) := Heap.get?_push_size _ rfl
  show wpAny _ _ _ _ _ { s with heap := h'.push (seqObj "list" acc.toList.toArray 0), toks := tk }
  have eS := each_of_strs hS
  refine wpAny_bind (wpAny_holding (list_sort_data (A := X.A.in1) (s := { s with heap := h'.push (seqObj "list" acc.toList.toArray 0), toks := tk }) (R := fun v x => ∃ t, v = .str x t) (enc := PyData.str) hoL eS (eS.mono fun v b h => by obtain ⟨t, e⟩ := h; exact ⟨[], by rw [e]; exact .str _ _, by simp⟩) (AllAlike.of fun b b' => by simp [alike]) (Sortable.others fun b => ⟨(by intro z; cases z), (by intro xs z; cases z)⟩) (sz1000 h64) (fun b _ => by show X.A.units + 1 + 1 + _ < _; simp only [PyData.depth]; omega) fun out ho eo => ?_))
  obtain ⟨e', he'⟩ := PyProof.Rows.sortedHeap_at (vs := acc.toList) (out := out.toArray) hoL
  have hlen : ((sortS ks).map V.str).length ≤ sizeLine := by
    rw [List.length_map, sortS_len]
    exact sz1000 h64
  refine wpAny_pure ⟨_, rfl, .ref h'.objs.size, upd H h'.objs.size (.lst ((sortS ks).map V.str)), I1.laid (t' := tk) (fun b u e => ?_) (Nat.le_refl _)
    (show ObjOk X.prog X.w _ _ _ (.lst ((sortS ks).map V.str)) from ⟨hlen, out, e', vals_strs eo, he'⟩), rfl, q _ (I1.hok.fresh (Nat.le_refl _))⟩
  have hb : b < h'.objs.size := Heap.lt_size e
  rw [PyProof.Rows.sortedHeap_old (Nat.ne_of_lt hb) (by rw [size_push']; exact Nat.lt_succ_of_lt hb)]
  exact Heap.get?_push_of_some _ e
end

/-! ### what is taken out of a list of pairs; the keys, sorted -/
def rmA {κ α : Type} [DecidableEq κ] (ks : List (κ × α)) (c : κ) : List (κ × α) := ks.filter fun k => decide (k.1 ≠ c)
theorem dropK_rmA {κ α : Type} [DecidableEq κ] {em : κ → Key} (inj : ∀ a b, em a = em b → a = b) (f : α → V) (ks : List (κ × α)) (c : κ) : dropK (kvs em f ks) (em c) = kvs em f (rmA ks c) := by
  unfold dropK kvs rmA
  rw [List.filter_map]
  congr 1
  refine List.filter_congr fun k _ => ?_
  show decide (em k.1 ≠ em c) = decide (k.1 ≠ c)
  exact decide_eq_decide.mpr ⟨fun n z => n (by rw [z]), fun n z => n (inj _ _ z)⟩
theorem rmA_len {κ α : Type} [DecidableEq κ] (ks : List (κ × α)) (c : κ) : (rmA ks c).length ≤ ks.length := List.length_filter_le _ _
theorem rmA_ok {κ α : Type} [DecidableEq κ] {ks : List (κ × α)} (c : κ) (h : kOk ks) : kOk (rmA ks c) := List.Nodup.sublist (List.Sublist.map _ List.filter_sublist) h
theorem gA_rmA {κ α : Type} [DecidableEq κ] : ∀ (ks : List (κ × α)) (c d : κ), gA (rmA ks c) d = if d = c then none else gA ks d
  | [], c, d => by unfold rmA gA; rw [List.filter_nil, List.find?_nil]; split <;> rfl
  | e :: r, c, d => by
    have ih := gA_rmA r c d
    unfold rmA at ih ⊢
    rw [List.filter_cons]
    by_cases h : e.1 = c
    · rw [if_neg (by simp [h]), ih]
      by_cases hd : d = c
      · rw [if_pos hd, if_pos hd]
      · rw [if_neg hd, if_neg hd]
        unfold gA
        rw [List.find?_cons, decide_eq_false (fun z => hd (z.symm.trans h))]
    · rw [if_pos (by simp [h])]
      unfold gA at ih ⊢
      rw [List.find?_cons, List.find?_cons]
      by_cases hd : e.1 = d
      · rw [decide_eq_true hd, if_neg (fun z => h (hd.trans z))]
      · rw [decide_eq_false hd]; exact ih
def sortK {α : Type} (ks : List (Str × α)) : List Str := sortS (ks.map (·.1))
theorem sortK_mem {α : Type} {ks : List (Str × α)} {k : Str} : k ∈ sortK ks ↔ k ∈ ks.map (·.1) := (sortS_perm _).mem_iff
theorem sortK_len {α : Type} (ks : List (Str × α)) : (sortK ks).length = ks.length := by unfold sortK; rw [sortS_len, List.length_map]
theorem sortK_get {α : Type} {ks : List (Str × α)} (hok : kOk ks) {k : Str} (m : k ∈ sortK ks) : ∃ x, gA ks k = some x ∧ (k, x) ∈ ks := by
  obtain ⟨y, my, rfl⟩ := List.mem_map.mp (sortK_mem.mp m)
  exact ⟨y.2, gA_mem hok my, my⟩

/-! ### Refused(reason) -/
def spInit1 (C : Addr) (f : Str) : Sp := fun vs H Q _ => ∃ (a : Addr) (r : V), vs = [.ref a, r] ∧ H a = some (exo a C none) ∧
  ∀ d, H d = none → d ≠ a → Q .non (upd (upd H d (exd d [(f, r)])) a (exo a C (some d)))
theorem mk_one {C : Addr} {f : Str} {H1 : Hp} {Q : XK} {r : V} (q : ∀ H' d, Same H1 H' → H1 d = none → H' d = some (.xd [(f, r)]) → Q (.ref C) (some d) H') :
    ([r] : List V).length ≤ 1000 ∧ ∀ a, H1 a = none → spInit1 C f (.ref a :: ([r] ++ [])) (upd H1 a (exo a C none)) (fun v H2 => v = .non ∧ ∃ (d : Addr) (fs : List (Str × V)), H2 a = some (exo a C (some d)) ∧ H2 d = some (exd d fs) ∧ H1 d = none ∧ Q (.ref C) (some d) (upd (del H2 a) d (.xd fs))) (fun _ _ _ => False) := by
  refine ⟨by show 1 ≤ 1000; decide, fun a ha => ⟨a, r, rfl, upd_same, fun d hd hne => ⟨rfl, d, [(f, r)], upd_same, ?_, ?_, q _ d ?_ ?_ upd_same⟩⟩⟩
  · rw [upd_ne hne]; exact upd_same
  · rw [upd_ne hne] at hd; exact hd
  · intro b o e
    have hb : b ≠ d := fun z => by rw [z] at e; rw [upd_ne hne] at hd; rw [hd] at e; cases e
    have hba : b ≠ a := fun z => by rw [z, ha] at e; cases e
    rw [upd_ne hb, del_ne hba, upd_ne hba, upd_ne hb, upd_ne hba]
    exact e
  · rw [upd_ne hne] at hd; exact hd
/-- Refused(r) is raised -/
def Rz (B : Addr) (H : Hp) (E : XK) (r : Str) : Prop := ∀ H' d, Same H H' → H' d = some (.xd [("reason", .str r)]) → E (.ref B) (some d) H'
theorem Rz.on {B : Addr} {H H1 : Hp} {E : XK} {r : Str} (h : Rz B H E r) (s : Same H H1) : Rz B H1 E r := fun H' d s' e => h H' d (s.trans s') e
section
variable {P : Program} {w : World} {K : PySem.W.Frag} {mg : Str → Option Value} {base : Heap}
theorem i_Refused {C_Accounts : Addr} {C_Sessions : Addr} {C_Store : Addr} {C_State : Addr} {C_BadText : Addr} {C_Refused : Addr} {C_BadCommand : Addr} {C_VERBS : Addr} (T : Txt K mg w C_Accounts C_Sessions C_Store C_State C_BadText C_Refused C_BadCommand C_VERBS) : ExMk P w K mg base 1 "Refused" C_Refused (spInit1 C_Refused "reason") := by
  refine exmk T.x_Refused T.ei_Refused sc_Refused____init__ (fun vs H Q E h => ?_) (fun f cdv A' outer s H vs Q E hr h => ?_)
  · obtain ⟨a, r, rfl, _⟩ := h; rfl
  obtain ⟨a, r, rfl, ha, q⟩ := h
  refine ⟨_, (pss_one (ps_ost (pv 0) (pv 1))), ?_⟩
  walk_at "rds"
  refine ⟨a, C_Refused, rfl, T.x_Refused.ox, T.xn_Refused_reason, .inl ⟨ha, fun d hd hne => ?_⟩⟩
  exact q d hd hne
end

/-! ### accounts -/
abbrev AB := List (Str × (Int × Int))
abbrev HS := List (Str × (Str × Str × Int))
abbrev HE := List (Str × (Addr × (Str × Str × Int)))
def aowD (ac : AB) : List (Key × V) := kvs Sum.inr (fun x => V.int x.1) ac
def baD (ac : AB) : List (Key × V) := kvs Sum.inr (fun x => V.int x.2) ac
def hoD (he : HE) : List (Key × V) := kvs Sum.inr (fun x => V.ref x.1) he
def hsOf (he : HE) : HS := he.map fun e => (e.1, e.2.2)
def holdV (x : Str × Str × Int) : List V := [.str x.1, .str x.2.1, .int x.2.2]
theorem hsOf_keys (he : HE) : (hsOf he).map (fun k => k.1) = he.map (fun k => k.1) := by unfold hsOf; rw [List.map_map]; rfl
theorem hsOf_len (he : HE) : (hsOf he).length = he.length := List.length_map _
theorem gA_hsOf : ∀ (es : HE) (c : Str), gA (hsOf es) c = (gA es c).map (·.2)
  | [], _ => rfl
  | e :: r, c => by
    have ih := gA_hsOf r c
    unfold gA hsOf at ih ⊢
    rw [List.map_cons, List.find?_cons, List.find?_cons]
    by_cases h : e.1 = c
    · rw [decide_eq_true h]
      rfl
    · rw [decide_eq_false h]; exact ih
theorem pA_hsOf (es : HE) (c : Str) (x : Addr × (Str × Str × Int)) : hsOf (pA es c x) = pA (hsOf es) c x.2 := by
  unfold pA hsOf
  rw [List.any_map]
  have : ((fun k : Str × (Str × Str × Int) => decide (k.1 = c)) ∘ fun e : Str × (Addr × (Str × Str × Int)) => (e.1, e.2.2)) = fun k => decide (k.1 = c) := rfl
  rw [this]
  split
  · rw [List.map_map, List.map_map]
    refine List.map_congr_left fun k _ => ?_
    show (fun e : Str × (Addr × (Str × Str × Int)) => (e.1, e.2.2)) (if k.1 = c then (k.1, x) else k) = if k.1 = c then (k.1, x.2) else (k.1, k.2.2)
    split <;> rfl
  · rw [List.map_append]; rfl
theorem rmA_hsOf (es : HE) (c : Str) : hsOf (rmA es c) = rmA (hsOf es) c := by
  unfold rmA hsOf
  rw [List.filter_map]; rfl
theorem aow_val (ac : AB) (c : Str) : valV (aowD ac) (Sum.inr c : Key) = (gA ac c).map fun x => V.int x.1 := gA_kvs inrI _ ac c
theorem ba_val (ac : AB) (c : Str) : valV (baD ac) (Sum.inr c : Key) = (gA ac c).map fun x => V.int x.2 := gA_kvs inrI _ ac c
theorem ho_val (he : HE) (c : Str) : valV (hoD he) (Sum.inr c : Key) = (gA he c).map fun x => V.ref x.1 := gA_kvs inrI _ he c
def acF (n b h : Addr) (s : Int) : List (Str × V) := putF "_supply" (.int s) (putF "_holds" (.ref h) (putF "_balances" (.ref b) (putF "_owners" (.ref n) [])))
structure AcAt (C : Addr) (H : Hp) (p n b h : Addr) (ac : AB) (he : HE) (su : Int) : Prop where
  ins : ∃ dx, H p = some (.ins C dx (acF n b h su))
  ow : H n = some (.dK (aowD ac))
  ba : H b = some (.dK (baD ac))
  ho : H h = some (.dK (hoD he))
  tp : ∀ e ∈ he, H e.2.1 = some (.tup (holdV e.2.2))
  n1 : n ≠ b
  n2 : n ≠ h
  n3 : b ≠ h
theorem AcAt.on {C : Addr} {H H' : Hp} {p n b h : Addr} {ac : AB} {he : HE} {su : Int} (a : AcAt C H p n b h ac he su) (s : Same H H') : AcAt C H' p n b h ac he su := by
  obtain ⟨dx, g⟩ := a.ins
  exact ⟨⟨dx, s _ _ g⟩, s _ _ a.ow, s _ _ a.ba, s _ _ a.ho, fun e m => s _ _ (a.tp e m), a.n1, a.n2, a.n3⟩
section
variable {C : Addr} {H : Hp} {p n b h : Addr} {ac : AB} {he : HE} {su : Int}
theorem AcAt.pn (a : AcAt C H p n b h ac he su) : p ≠ n ∧ p ≠ b ∧ p ≠ h := by
  obtain ⟨dx, g⟩ := a.ins
  exact ⟨ne_of g a.ow (by intro z; cases z), ne_of g a.ba (by intro z; cases z), ne_of g a.ho (by intro z; cases z)⟩
/-- another supply -/
theorem AcAt.sup (a : AcAt C H p n b h ac he su) (s' : Int) {dx : Addr} (g : H p = some (.ins C dx (acF n b h su))) : AcAt C (upd H p (.ins C dx (acF n b h s'))) p n b h ac he s' := by
  obtain ⟨h1, h2, h3⟩ := a.pn
  exact ⟨⟨dx, upd_same⟩, by rw [upd_ne h1.symm]; exact a.ow, by rw [upd_ne h2.symm]; exact a.ba, by rw [upd_ne h3.symm]; exact a.ho, fun e m => by rw [upd_ne (ne_of (a.tp e m) g (by intro z; cases z))]; exact a.tp e m, a.n1, a.n2, a.n3⟩
theorem aow_same {k : Str} {x : Int × Int} (ok : kOk ac) (g : gA ac k = some x) (v : Int) : aowD (pA ac k (x.1, v)) = aowD ac := by
  have m : k ∈ ac.map (·.1) := List.mem_map.mpr ⟨_, gA_some g, rfl⟩
  unfold pA aowD kvs
  rw [if_pos (any_mem.mpr m), List.map_map]
  refine List.map_congr_left fun y my => ?_
  show (Sum.inr (if y.1 = k then (y.1, (x.1, v)) else y).1, V.int (if y.1 = k then (y.1, (x.1, v)) else y).2.1) = ((Sum.inr y.1 : Key), V.int y.2.1)
  by_cases e : y.1 = k
  · have := gA_mem ok my
    rw [e, g] at this
    rw [if_pos e, ← Option.some.inj this]
  · rw [if_neg e]
theorem ba_put (k : Str) (o v : Int) : putK (baD ac) (Sum.inr k) (V.int v) = baD (pA ac k (o, v)) := by unfold baD; rw [← pA_kvs inrI]
theorem aow_put (k : Str) (o v : Int) : putK (aowD ac) (Sum.inr k) (V.int o) = aowD (pA ac k (o, v)) := by unfold aowD; rw [← pA_kvs inrI]
theorem ho_put (k : Str) (t : Addr) (x : Str × Str × Int) : putK (hoD he) (Sum.inr k) (V.ref t) = hoD (pA he k (t, x)) := by unfold hoD; rw [← pA_kvs inrI]
/-- another balance -/
theorem AcAt.bal (a : AcAt C H p n b h ac he su) {k : Str} {x : Int × Int} (ok : kOk ac) (g : gA ac k = some x) (v : Int) : AcAt C (upd H b (.dK (baD (pA ac k (x.1, v))))) p n b h (pA ac k (x.1, v)) he su := by
  obtain ⟨h1, h2, h3⟩ := a.pn
  obtain ⟨dx, g0⟩ := a.ins
  exact ⟨⟨dx, by rw [upd_ne h2]; exact g0⟩, by rw [upd_ne a.n1, aow_same ok g v]; exact a.ow, upd_same, by rw [upd_ne a.n3.symm]; exact a.ho, fun e m => by rw [upd_ne (ne_of (a.tp e m) a.ba (by intro z; cases z))]; exact a.tp e m, a.n1, a.n2, a.n3⟩
/-- a new account -/
theorem AcAt.new (a : AcAt C H p n b h ac he su) (k : Str) (o v : Int) : AcAt C (upd (upd H n (.dK (aowD (pA ac k (o, v))))) b (.dK (baD (pA ac k (o, v))))) p n b h (pA ac k (o, v)) he su := by
  obtain ⟨h1, h2, h3⟩ := a.pn
  obtain ⟨dx, g0⟩ := a.ins
  exact ⟨⟨dx, by rw [upd_ne h2, upd_ne h1]; exact g0⟩, by rw [upd_ne a.n1]; exact upd_same, upd_same, by rw [upd_ne a.n3.symm, upd_ne a.n2.symm]; exact a.ho, fun e m => by rw [upd_ne (ne_of (a.tp e m) a.ba (by intro z; cases z)), upd_ne (ne_of (a.tp e m) a.ow (by intro z; cases z))]; exact a.tp e m, a.n1, a.n2, a.n3⟩
theorem AcAt.del (a : AcAt C H p n b h ac he su) (k : Str) : AcAt C (upd (upd H n (.dK (aowD (rmA ac k)))) b (.dK (baD (rmA ac k)))) p n b h (rmA ac k) he su := by
  obtain ⟨h1, h2, h3⟩ := a.pn
  obtain ⟨dx, g0⟩ := a.ins
  exact ⟨⟨dx, by rw [upd_ne h2, upd_ne h1]; exact g0⟩, by rw [upd_ne a.n1]; exact upd_same, upd_same, by rw [upd_ne a.n3.symm, upd_ne a.n2.symm]; exact a.ho, fun e m => by rw [upd_ne (ne_of (a.tp e m) a.ba (by intro z; cases z)), upd_ne (ne_of (a.tp e m) a.ow (by intro z; cases z))]; exact a.tp e m, a.n1, a.n2, a.n3⟩
/-- the holds -/
theorem AcAt.hold (a : AcAt C H p n b h ac he su) {k : Str} {t : Addr} {x : Str × Str × Int} (ht : H t = some (.tup (holdV x))) : AcAt C (upd H h (.dK (hoD (pA he k (t, x))))) p n b h ac (pA he k (t, x)) su := by
  obtain ⟨h1, h2, h3⟩ := a.pn
  obtain ⟨dx, g0⟩ := a.ins
  have key : ∀ c xs, H c = some (.tup xs) → upd H h (.dK (hoD (pA he k (t, x)))) c = some (.tup xs) := fun c xs e => by rw [upd_ne (ne_of e a.ho (by intro z; cases z))]; exact e
  exact ⟨⟨dx, by rw [upd_ne h3]; exact g0⟩, by rw [upd_ne a.n2]; exact a.ow, by rw [upd_ne a.n3]; exact a.ba, upd_same, fun e m => by
    rcases pA_mem m with rfl | ⟨m, _⟩
    · exact key _ _ ht
    · exact key _ _ (a.tp e m), a.n1, a.n2, a.n3⟩
theorem AcAt.free (a : AcAt C H p n b h ac he su) (k : Str) : AcAt C (upd H h (.dK (hoD (rmA he k)))) p n b h ac (rmA he k) su := by
  obtain ⟨h1, h2, h3⟩ := a.pn
  obtain ⟨dx, g0⟩ := a.ins
  exact ⟨⟨dx, by rw [upd_ne h3]; exact g0⟩, by rw [upd_ne a.n2]; exact a.ow, by rw [upd_ne a.n3]; exact a.ba, upd_same, fun e m => by
    have m := (List.mem_filter.mp m).1
    rw [upd_ne (ne_of (a.tp e m) a.ho (by intro z; cases z))]; exact a.tp e m, a.n1, a.n2, a.n3⟩
end
/-! what the operations do -/
structure AS where
  ac : AB
  ho : HS
  su : Int
def chk (s : AS) (n : Str) : Option Str := match gA s.ac n with
  | none => some "missing"
  | some _ => none
def chkO (s : AS) (c : Int) (n : Str) : Option Str := match gA s.ac n with
  | none => some "missing"
  | some x => if x.1 ≠ c then some "owner" else none
def chkF (s : AS) (n : Str) (a : Int) : Option Str := match gA s.ac n with
  | none => none
  | some x => if x.2 < a then some "funds" else none
def chkP (s : AS) (c : Int) (src tgt : Str) (a : Int) : Option Str := match chk s tgt with
  | some z => some z
  | none => match chkO s c src with
    | some z => some z
    | none => chkF s src a
def addB (ac : AB) (n : Str) (d : Int) : AB := match gA ac n with
  | none => ac
  | some x => pA ac n (x.1, x.2 + d)
def heldB (ho : HS) (n : Str) : Bool := ho.any fun e => decide (e.2.1 = n) || decide (e.2.2.1 = n)
def opCreate (s : AS) (c : Int) (n : Str) : Sum Str AS := match gA s.ac n with
  | some _ => .inl "taken"
  | none => if 100 ≤ s.ac.length then .inl "full" else .inr { s with ac := pA s.ac n (c, 0) }
def opClose (s : AS) (c : Int) (n : Str) : Sum Str AS := match chkO s c n with
  | some z => .inl z
  | none => match gA s.ac n with
    | none => .inl "missing"
    | some x => if x.2 ≠ 0 ∨ heldB s.ho n = true then .inl "busy" else .inr { s with ac := rmA s.ac n }
def opIssue (s : AS) (c : Int) (n : Str) (a : Int) : Sum Str AS := if c ≠ -1 then .inl "mint" else match chk s n with
  | some z => .inl z
  | none => if 1000000000000000 < s.su + a then .inl "limit" else .inr { s with ac := addB s.ac n a, su := s.su + a }
def opBurn (s : AS) (c : Int) (n : Str) (a : Int) : Sum Str AS := match chkO s c n with
  | some z => .inl z
  | none => match chkF s n a with
    | some z => .inl z
    | none => .inr { s with ac := addB s.ac n (-a), su := s.su - a }
def opPay (s : AS) (c : Int) (src tgt : Str) (a : Int) : Sum Str AS := match chkP s c src tgt a with
  | some z => .inl z
  | none => .inr { s with ac := addB (addB s.ac src (-a)) tgt a }
def opHold (s : AS) (c : Int) (src tgt : Str) (a : Int) (k : Str) : Sum Str AS := match chkP s c src tgt a with
  | some z => .inl z
  | none => match gA s.ho k with
    | some _ => .inl "taken"
    | none => if 100 ≤ s.ho.length then .inl "full" else .inr { s with ac := addB s.ac src (-a), ho := pA s.ho k (src, tgt, a) }
def opSettle (s : AS) (c : Int) (k : Str) : Sum Str AS := match gA s.ho k with
  | none => .inl "missing"
  | some x => match chkO s c x.1 with
    | some z => .inl z
    | none => .inr { s with ac := addB s.ac x.2.1 x.2.2, ho := rmA s.ho k }
def opRelease (s : AS) (c : Int) (k : Str) : Sum Str AS := match gA s.ho k with
  | none => .inl "missing"
  | some x => match chkO s c x.2.1 with
    | some z => .inl z
    | none => .inr { s with ac := addB s.ac x.1 x.2.2, ho := rmA s.ho k }
/-- the accounts stand so; each hold's two accounts are there -/
structure AW (C : Addr) (H : Hp) (p n b h : Addr) (he : HE) (s : AS) : Prop where
  at_ : AcAt C H p n b h s.ac he s.su
  hs : hsOf he = s.ho
  ok : kOk s.ac
  len : s.ac.length ≤ 1000
  hlen : s.ho.length ≤ 1000
  src : ∀ e ∈ s.ho, gA s.ac e.2.1 ≠ none ∧ gA s.ac e.2.2.1 ≠ none
def OutA (B C : Addr) (H : Hp) (p n b h : Addr) (Q : VK) (E : XK) (r : Sum Str AS) : Prop := match r with
  | .inl z => Rz B H E z
  | .inr s => ∀ H' he, But [p, n, b, h] H H' → AcAt C H' p n b h s.ac he s.su → hsOf he = s.ho → Q .non H'
def OutC (B : Addr) (H : Hp) (Q : VK) (E : XK) (r : Option Str) : Prop := match r with
  | some z => Rz B H E z
  | none => Q .non H
def spAcInit (C : Addr) : Sp := fun vs H Q _ => ∃ (p dx : Addr), vs = [.ref p] ∧ H p = some (.ins C dx []) ∧
  ∀ (H' : Hp) (n b h : Addr), (∀ c o, H c = some o → c ≠ p → H' c = some o) → H n = none → H b = none → H h = none → AcAt C H' p n b h [] [] 0 → Q .non H'
def spAcChk (B C : Addr) : Sp := fun vs H Q E => ∃ (p n b h : Addr) (he : HE) (s : AS) (k : Str), vs = [.ref p, .str k] ∧ AW C H p n b h he s ∧ OutC B H Q E (chk s k)
def spAcOwn (B C : Addr) : Sp := fun vs H Q E => ∃ (p n b h : Addr) (he : HE) (s : AS) (c : Int) (k : Str), vs = [.ref p, .int c, .str k] ∧ AW C H p n b h he s ∧ OutC B H Q E (chkO s c k)
def spAcFunds (B C : Addr) : Sp := fun vs H Q E => ∃ (p n b h : Addr) (he : HE) (s : AS) (k : Str) (a : Int), vs = [.ref p, .str k, .int a] ∧ AW C H p n b h he s ∧ gA s.ac k ≠ none ∧ OutC B H Q E (chkF s k a)
def spAcPaym (B C : Addr) : Sp := fun vs H Q E => ∃ (p n b h : Addr) (he : HE) (s : AS) (c : Int) (x y : Str) (a : Int), vs = [.ref p, .int c, .str x, .str y, .int a] ∧ AW C H p n b h he s ∧ OutC B H Q E (chkP s c x y a)
def spAcHoldOf (B C : Addr) : Sp := fun vs H Q E => ∃ (p n b h : Addr) (he : HE) (s : AS) (k : Str), vs = [.ref p, .str k] ∧ AW C H p n b h he s ∧ (gA he k = none → Rz B H E "missing") ∧ (∀ x, gA he k = some x → Q (.ref x.1) H)
def spAcHeld (C : Addr) : Sp := fun vs H Q _ => ∃ (p n b h : Addr) (he : HE) (s : AS) (k : Str), vs = [.ref p, .str k] ∧ AW C H p n b h he s ∧ ∀ H', Same H H' → Q (.bl (heldB s.ho k)) H'
def spAcCreate (B C : Addr) : Sp := fun vs H Q E => ∃ (p n b h : Addr) (he : HE) (s : AS) (c : Int) (k : Str), vs = [.ref p, .int c, .str k] ∧ AW C H p n b h he s ∧ OutA B C H p n b h Q E (opCreate s c k)
def spAcClose (B C : Addr) : Sp := fun vs H Q E => ∃ (p n b h : Addr) (he : HE) (s : AS) (c : Int) (k : Str), vs = [.ref p, .int c, .str k] ∧ AW C H p n b h he s ∧ OutA B C H p n b h Q E (opClose s c k)
def spAcIssue (B C : Addr) : Sp := fun vs H Q E => ∃ (p n b h : Addr) (he : HE) (s : AS) (c : Int) (k : Str) (a : Int), vs = [.ref p, .int c, .str k, .int a] ∧ AW C H p n b h he s ∧ OutA B C H p n b h Q E (opIssue s c k a)
def spAcBurn (B C : Addr) : Sp := fun vs H Q E => ∃ (p n b h : Addr) (he : HE) (s : AS) (c : Int) (k : Str) (a : Int), vs = [.ref p, .int c, .str k, .int a] ∧ AW C H p n b h he s ∧ OutA B C H p n b h Q E (opBurn s c k a)
def spAcPay (B C : Addr) : Sp := fun vs H Q E => ∃ (p n b h : Addr) (he : HE) (s : AS) (c : Int) (x y : Str) (a : Int), vs = [.ref p, .int c, .str x, .str y, .int a] ∧ AW C H p n b h he s ∧ OutA B C H p n b h Q E (opPay s c x y a)
def spAcHold (B C : Addr) : Sp := fun vs H Q E => ∃ (p n b h : Addr) (he : HE) (s : AS) (c : Int) (x y : Str) (a : Int) (k : Str), vs = [.ref p, .int c, .str x, .str y, .int a, .str k] ∧ AW C H p n b h he s ∧ OutA B C H p n b h Q E (opHold s c x y a k)
def spAcSettle (B C : Addr) : Sp := fun vs H Q E => ∃ (p n b h : Addr) (he : HE) (s : AS) (c : Int) (k : Str), vs = [.ref p, .int c, .str k] ∧ AW C H p n b h he s ∧ OutA B C H p n b h Q E (opSettle s c k)
def spAcRelease (B C : Addr) : Sp := fun vs H Q E => ∃ (p n b h : Addr) (he : HE) (s : AS) (c : Int) (k : Str), vs = [.ref p, .int c, .str k] ∧ AW C H p n b h he s ∧ OutA B C H p n b h Q E (opRelease s c k)

section
variable {P : Program} {w : World} {K : PySem.W.Frag} {mg : Str → Option Value} {base : Heap}
theorem k_Accounts {C_Accounts : Addr} {C_Sessions : Addr} {C_Store : Addr} {C_State : Addr} {C_BadText : Addr} {C_Refused : Addr} {C_BadCommand : Addr} {C_VERBS : Addr} (T : Txt K mg w C_Accounts C_Sessions C_Store C_State C_BadText C_Refused C_BadCommand C_VERBS) : Mak P w K mg base 1 "Accounts" C_Accounts (spAcInit C_Accounts) [] := by
  refine mak T.g_Accounts T.mk_Accounts sc_Accounts____init__ (fun vs H Q E h => ?_) (fun f cdv A outer s H vs Q E hr h => ?_)
  · obtain ⟨p, dx, rfl, _⟩ := h; rfl
  obtain ⟨p, dx, rfl, hp, q⟩ := h
  have fresh : ∀ {H3 : Hp} {x : Addr}, (∀ c o, H c = some o → c ≠ p → H3 c = some o) → (∃ o, H3 p = some o) → H3 x = none → H x = none ∧ x ≠ p := fun {H3 x} k e z => by
    have n : x ≠ p := fun y => by obtain ⟨o, e⟩ := e; rw [y, e] at z; cases z
    refine ⟨?_, n⟩
    cases hx : H x with
    | none => rfl
    | some o => rw [k x o hx n] at z; cases z
  refine ⟨_, (pss_cons (ps_fld (pv 0) pe_dnewK rfl)
      (pss_cons (ps_fld (pv 0) pe_dnewK rfl)
      (pss_cons (ps_fld (pv 0) pe_dnewK rfl)
      (pss_one (ps_fld (pv 0) pe_int rfl))))), ?_⟩
  intro n hn
  have nnp : n ≠ p := (ne_of_none hp hn).symm
  walk_at "rds"
  refine ⟨p, _, dx, _, rfl, (same_upd hn) _ _ hp, T.cl_Accounts, T.na_Accounts__owners, by decide, ?_⟩
  have k1 : ∀ c o, H c = some o → c ≠ p → upd (upd H n (.dK [])) p (.ins C_Accounts dx (putF "_owners" (.ref n) [])) c = some o := fun c o e m => by rw [upd_ne m, upd_ne (ne_of_none e hn)]; exact e
  have p1 : upd (upd H n (.dK [])) p (.ins C_Accounts dx (putF "_owners" (.ref n) [])) p = some (.ins C_Accounts dx (putF "_owners" (.ref n) [])) := upd_same
  have n1 : upd (upd H n (.dK [])) p (.ins C_Accounts dx (putF "_owners" (.ref n) [])) n = some (.dK []) := by rw [upd_ne nnp]; exact upd_same
  generalize upd (upd H n (.dK [])) p (.ins C_Accounts dx (putF "_owners" (.ref n) [])) = H1 at k1 p1 n1
  intro b hb
  obtain ⟨hb0, bp⟩ := fresh k1 ⟨_, p1⟩ hb
  have nb : n ≠ b := ne_of_none n1 hb
  walk_at "rds"
  refine ⟨p, _, dx, _, rfl, (same_upd hb) _ _ p1, T.cl_Accounts, T.na_Accounts__balances, (by show 1 < 1000; decide), ?_⟩
  have k2 : ∀ c o, H c = some o → c ≠ p → upd (upd H1 b (.dK [])) p (.ins C_Accounts dx (putF "_balances" (.ref b) (putF "_owners" (.ref n) []))) c = some o := fun c o e m => by rw [upd_ne m]; exact (same_upd hb) _ _ (k1 c o e m)
  have p2 : upd (upd H1 b (.dK [])) p (.ins C_Accounts dx (putF "_balances" (.ref b) (putF "_owners" (.ref n) []))) p = some (.ins C_Accounts dx (putF "_balances" (.ref b) (putF "_owners" (.ref n) []))) := upd_same
  have n2 : upd (upd H1 b (.dK [])) p (.ins C_Accounts dx (putF "_balances" (.ref b) (putF "_owners" (.ref n) []))) n = some (.dK []) := by rw [upd_ne nnp]; exact (same_upd hb) _ _ n1
  have b2 : upd (upd H1 b (.dK [])) p (.ins C_Accounts dx (putF "_balances" (.ref b) (putF "_owners" (.ref n) []))) b = some (.dK []) := by rw [upd_ne bp]; exact upd_same
  generalize upd (upd H1 b (.dK [])) p (.ins C_Accounts dx (putF "_balances" (.ref b) (putF "_owners" (.ref n) []))) = H2 at k2 p2 n2 b2
  walk_at "rds"
  intro h hh
  obtain ⟨hh0, hp'⟩ := fresh k2 ⟨_, p2⟩ hh
  have nh : n ≠ h := ne_of_none n2 hh
  have bh : b ≠ h := ne_of_none b2 hh
  walk_at "rds"
  refine ⟨p, _, dx, _, rfl, (same_upd hh) _ _ p2, T.cl_Accounts, T.na_Accounts__holds, (by show 2 < 1000; decide), ?_⟩
  walk_at "rds"
  refine ⟨p, _, dx, _, rfl, upd_same, T.cl_Accounts, T.na_Accounts__supply, (by show 3 < 1000; decide), ?_⟩
  refine q _ n b h (fun c o e m => ?_) hn hb0 hh0 ⟨⟨dx, upd_same⟩, ?_, ?_, ?_, (fun _ m => nomatch m), nb, nh, bh⟩
  · rw [upd_ne m, upd_ne m]; exact (same_upd hh) _ _ (k2 c o e m)
  · rw [upd_ne nnp, upd_ne nnp]; exact (same_upd hh) _ _ n2
  · rw [upd_ne bp, upd_ne bp]; exact (same_upd hh) _ _ b2
  · rw [upd_ne hp', upd_ne hp']; exact upd_same
theorem m_Accounts___check {C_Accounts : Addr} {C_Sessions : Addr} {C_Store : Addr} {C_State : Addr} {C_BadText : Addr} {C_Refused : Addr} {C_BadCommand : Addr} {C_VERBS : Addr} (T : Txt K mg w C_Accounts C_Sessions C_Store C_State C_BadText C_Refused C_BadCommand C_VERBS) : MetX P w K mg base 3 C_Accounts "_check" (spAcChk C_Refused C_Accounts) := by
  have i_Refused := i_Refused (P := P) (w := w) (base := base) T
  refine metX T.cl_Accounts T.me_Accounts___check sc_Accounts___check (fun vs H Q E h => ?_) (fun f cdv A outer s H vs Q E hr h => ?_)
  · obtain ⟨p, n, b, h, he, s, k, rfl, _⟩ := h; rfl
  obtain ⟨p, n, b, h, he, s, k, rfl, aw, out⟩ := h
  obtain ⟨dx, g⟩ := aw.at_.ins
  refine ⟨_, (pss_one (ps_if (pt_cmp (pc_dnotin (by exact hu_of hr) (pv 1) (pe_fld (pv 0) rfl))) (pss_one (ps_raise rfl (takes_of rfl rfl rfl rfl) (pmk_ei i_Refused hr (by decide) (by rfl) (pa_cons pe_str pa_nil)))) pss_nil)), ?_⟩
  walk_at "rds"
  refine ⟨p, _, dx, _, _, rfl, g, T.cl_Accounts, T.na_Accounts__owners, rfl, ?_⟩
  refine ⟨n, _, rfl, DGet.k (k := Sum.inr k) aw.at_.ow, ?_⟩
  rw [aow_val]
  unfold chk at out
  cases gk : gA s.ac k with
  | none =>
    rw [gk] at out
    walk_at "rds"
    exact mk_one fun H' d s1 _ hd => out H' d s1 hd
  | some x =>
    rw [gk] at out
    walk_at "rds"
    exact out
theorem m_Accounts___check_owner {C_Accounts : Addr} {C_Sessions : Addr} {C_Store : Addr} {C_State : Addr} {C_BadText : Addr} {C_Refused : Addr} {C_BadCommand : Addr} {C_VERBS : Addr} (T : Txt K mg w C_Accounts C_Sessions C_Store C_State C_BadText C_Refused C_BadCommand C_VERBS) : MetX P w K mg base 4 C_Accounts "_check_owner" (spAcOwn C_Refused C_Accounts) := by
  have i_Refused := i_Refused (P := P) (w := w) (base := base) T
  have m_Accounts___check := m_Accounts___check (P := P) (w := w) (base := base) T
  refine metX T.cl_Accounts T.me_Accounts___check_owner sc_Accounts___check_owner (fun vs H Q E h => ?_) (fun f cdv A outer s H vs Q E hr h => ?_)
  · obtain ⟨p, n, b, h, he, s, c, k, rfl, _⟩ := h; rfl
  obtain ⟨p, n, b, h, he, s, c, k, rfl, aw, out⟩ := h
  obtain ⟨dx, g⟩ := aw.at_.ins
  refine ⟨_, (pss_cons (ps_expr (pe_mtX m_Accounts___check hr (by decide) (fun σ => passAt (takes_of rfl rfl rfl rfl) σ) (pv 0) (pa_cons (pv 2) pa_nil)))
      (pss_one (ps_if (pt_cmpR op_ne (pe_dget (by exact hu_of hr) (pe_fld (pv 0) rfl) (pv 2) (fun _ _ => rfl)) (pv 1) (nomark _)) (pss_one (ps_raise rfl (takes_of rfl rfl rfl rfl) (pmk_ei i_Refused hr (by decide) (by rfl) (pa_cons pe_str pa_nil)))) pss_nil))), ?_⟩
  walk_at "rds"
  refine ⟨p, dx, _, rfl, g, rfl, ?_⟩
  walk_at "rds"
  refine ⟨p, n, b, h, he, s, k, rfl, aw, ?_⟩
  unfold chkO at out
  cases gk : gA s.ac k with
  | none =>
    rw [gk] at out
    have e : chk s k = some ("missing" : Str) := by unfold chk; rw [gk]
    rw [e]
    exact out
  | some x =>
    rw [gk] at out
    have out : OutC C_Refused H Q E (if x.1 ≠ c then some "owner" else none) := out
    have e : chk s k = none := by unfold chk; rw [gk]
    rw [e]
    walk_at "rds"
    refine ⟨p, _, dx, _, _, rfl, g, T.cl_Accounts, T.na_Accounts__owners, rfl, ?_⟩
    walk_at "rds"
    refine ⟨n, _, rfl, .inl ⟨_, Sum.inr k, .inl aw.at_.ow, rfl, by rw [aow_val, gk]; rfl⟩, ?_⟩
    walk_at "rds"
    rw [decV']
    by_cases h : x.1 = c
    · rw [if_neg (fun n => n h)] at out
      refine ifF (by rw [decide_eq_true h]; rfl) ?_
      exact out
    · rw [if_pos h] at out
      refine ifT (by rw [decide_eq_false h]; rfl) ?_
      walk_at "rds"
      exact mk_one fun H' d s1 _ hd => out H' d s1 hd
theorem m_Accounts___check_funds {C_Accounts : Addr} {C_Sessions : Addr} {C_Store : Addr} {C_State : Addr} {C_BadText : Addr} {C_Refused : Addr} {C_BadCommand : Addr} {C_VERBS : Addr} (T : Txt K mg w C_Accounts C_Sessions C_Store C_State C_BadText C_Refused C_BadCommand C_VERBS) : MetX P w K mg base 3 C_Accounts "_check_funds" (spAcFunds C_Refused C_Accounts) := by
  have i_Refused := i_Refused (P := P) (w := w) (base := base) T
  refine metX T.cl_Accounts T.me_Accounts___check_funds sc_Accounts___check_funds (fun vs H Q E h => ?_) (fun f cdv A outer s H vs Q E hr h => ?_)
  · obtain ⟨p, n, b, h, he, s, k, a, rfl, _⟩ := h; rfl
  obtain ⟨p, n, b, h, he, s, k, a, rfl, aw, g0, out⟩ := h
  obtain ⟨dx, g⟩ := aw.at_.ins
  refine ⟨_, (pss_one (ps_if (pt_cmpR op_lt (pe_dget (by exact hu_of hr) (pe_fld (pv 0) rfl) (pv 1) (fun _ _ => rfl)) (pv 2) (nomark _)) (pss_one (ps_raise rfl (takes_of rfl rfl rfl rfl) (pmk_ei i_Refused hr (by decide) (by rfl) (pa_cons pe_str pa_nil)))) pss_nil)), ?_⟩
  unfold chkF at out
  cases gk : gA s.ac k with
  | none => exact absurd gk g0
  | some x =>
    rw [gk] at out
    have out : OutC C_Refused H Q E (if x.2 < a then some "funds" else none) := out
    walk_at "rds"
    refine ⟨p, _, dx, _, _, rfl, g, T.cl_Accounts, T.na_Accounts__balances, rfl, ?_⟩
    walk_at "rds"
    refine ⟨b, _, rfl, .inl ⟨_, Sum.inr k, .inl aw.at_.ba, rfl, by rw [ba_val, gk]; rfl⟩, ?_⟩
    walk_at "rds"
    by_cases h : x.2 < a
    · rw [if_pos h] at out
      refine ifT (decide_eq_true h) ?_
      walk_at "rds"
      exact mk_one fun H' d s1 _ hd => out H' d s1 hd
    · rw [if_neg h] at out
      refine ifF (decide_eq_false h) ?_
      exact out
theorem m_Accounts___check_payment {C_Accounts : Addr} {C_Sessions : Addr} {C_Store : Addr} {C_State : Addr} {C_BadText : Addr} {C_Refused : Addr} {C_BadCommand : Addr} {C_VERBS : Addr} (T : Txt K mg w C_Accounts C_Sessions C_Store C_State C_BadText C_Refused C_BadCommand C_VERBS) : MetX P w K mg base 5 C_Accounts "_check_payment" (spAcPaym C_Refused C_Accounts) := by
  have m_Accounts___check := m_Accounts___check (P := P) (w := w) (base := base) T
  have m_Accounts___check_owner := m_Accounts___check_owner (P := P) (w := w) (base := base) T
  have m_Accounts___check_funds := m_Accounts___check_funds (P := P) (w := w) (base := base) T
  refine metX T.cl_Accounts T.me_Accounts___check_payment sc_Accounts___check_payment (fun vs H Q E h => ?_) (fun f cdv A outer s H vs Q E hr h => ?_)
  · obtain ⟨p, n, b, h, he, s, c, x, y, a, rfl, _⟩ := h; rfl
  obtain ⟨p, n, b, h, he, s, c, x, y, a, rfl, aw, out⟩ := h
  obtain ⟨dx, g⟩ := aw.at_.ins
  refine ⟨_, (pss_cons (ps_expr (pe_mtX m_Accounts___check hr (by decide) (fun σ => passAt (takes_of rfl rfl rfl rfl) σ) (pv 0) (pa_cons (pv 3) pa_nil)))
      (pss_cons (ps_expr (pe_mtX m_Accounts___check_owner hr (by decide) (fun σ => passAt (takes_of rfl rfl rfl rfl) σ) (pv 0) (pa_cons (pv 1) (pa_cons (pv 2) pa_nil))))
      (pss_one (ps_expr (pe_mtX m_Accounts___check_funds hr (by decide) (fun σ => passAt (takes_of rfl rfl rfl rfl) σ) (pv 0) (pa_cons (pv 2) (pa_cons (pv 4) pa_nil))))))), ?_⟩
  unfold chkP at out
  walk_at "rds"
  refine ⟨p, dx, _, rfl, g, rfl, ?_⟩
  walk_at "rds"
  refine ⟨p, n, b, h, he, s, y, rfl, aw, ?_⟩
  cases e1 : chk s y with
  | some z => rw [e1] at out; exact out
  | none =>
    rw [e1] at out
    dsimp only at out
    walk_at "rds"
    refine ⟨p, dx, _, rfl, g, rfl, ?_⟩
    walk_at "rds"
    refine ⟨p, n, b, h, he, s, c, x, rfl, aw, ?_⟩
    cases e2 : chkO s c x with
    | some z => rw [e2] at out; exact out
    | none =>
      rw [e2] at out
      dsimp only at out
      have g0 : gA s.ac x ≠ none := fun z => by unfold chkO at e2; rw [z] at e2; cases e2
      walk_at "rds"
      refine ⟨p, dx, _, rfl, g, rfl, ?_⟩
      walk_at "rds"
      refine ⟨p, n, b, h, he, s, x, a, rfl, aw, g0, ?_⟩
      cases e3 : chkF s x a with
      | some z => rw [e3] at out; exact out
      | none => rw [e3] at out; exact out
theorem m_Accounts___hold_of {C_Accounts : Addr} {C_Sessions : Addr} {C_Store : Addr} {C_State : Addr} {C_BadText : Addr} {C_Refused : Addr} {C_BadCommand : Addr} {C_VERBS : Addr} (T : Txt K mg w C_Accounts C_Sessions C_Store C_State C_BadText C_Refused C_BadCommand C_VERBS) : MetX P w K mg base 3 C_Accounts "_hold_of" (spAcHoldOf C_Refused C_Accounts) := by
  have i_Refused := i_Refused (P := P) (w := w) (base := base) T
  refine metX T.cl_Accounts T.me_Accounts___hold_of sc_Accounts___hold_of (fun vs H Q E h => ?_) (fun f cdv A outer s H vs Q E hr h => ?_)
  · obtain ⟨p, n, b, h, he, s, k, rfl, _⟩ := h; rfl
  obtain ⟨p, n, b, h, he, s, k, rfl, aw, hE, q⟩ := h
  obtain ⟨dx, g⟩ := aw.at_.ins
  refine ⟨_, (pss_cons (ps_if (pt_cmp (pc_dnotin (by exact hu_of hr) (pv 1) (pe_fld (pv 0) rfl))) (pss_one (ps_raise rfl (takes_of rfl rfl rfl rfl) (pmk_ei i_Refused hr (by decide) (by rfl) (pa_cons pe_str pa_nil)))) pss_nil)
      (pss_one (ps_ret (pe_dget (by exact hu_of hr) (pe_fld (pv 0) rfl) (pv 1) (fun _ _ => rfl))))), ?_⟩
  walk_at "rds"
  refine ⟨p, _, dx, _, _, rfl, g, T.cl_Accounts, T.na_Accounts__holds, rfl, ?_⟩
  refine ⟨h, _, rfl, DGet.k (k := Sum.inr k) aw.at_.ho, ?_⟩
  rw [ho_val]
  cases gk : gA he k with
  | none =>
    walk_at "rds"
    exact mk_one fun H' d s1 _ hd => hE gk H' d s1 hd
  | some x =>
    walk_at "rds"
    refine ⟨p, _, dx, _, _, rfl, g, T.cl_Accounts, T.na_Accounts__holds, rfl, ?_⟩
    walk_at "rds"
    refine ⟨h, _, rfl, .inl ⟨_, Sum.inr k, .inl aw.at_.ho, rfl, by rw [ho_val, gk]; rfl⟩, ?_⟩
    exact q x gk
end

theorem addB_some {ac : AB} {n : Str} {d : Int} {x : Int × Int} (g : gA ac n = some x) : addB ac n d = pA ac n (x.1, x.2 + d) := by unfold addB; rw [g]
theorem addB_ok {ac : AB} (n : Str) (d : Int) (ok : kOk ac) : kOk (addB ac n d) := by
  unfold addB
  split
  · exact ok
  · exact pA_ok _ _ ok
theorem addB_get {ac : AB} {n m : Str} {d : Int} (ok : kOk ac) (g : gA ac m ≠ none) : gA (addB ac n d) m ≠ none := by
  cases h : gA ac n with
  | none => unfold addB; rw [h]; exact g
  | some x =>
    rw [addB_some h, gA_put ok]
    split
    · intro z; cases z
    · exact g
theorem addB_len {ac : AB} {n : Str} {d : Int} (h : gA ac n ≠ none) : (addB ac n d).length = ac.length := by
  cases g : gA ac n with
  | none => exact absurd g h
  | some x =>
    rw [addB_some g]
    have m : n ∈ ac.map (·.1) := List.mem_map.mpr ⟨_, gA_some g, rfl⟩
    unfold pA
    rw [if_pos (any_mem.mpr m), List.length_map]
theorem some_of {α : Type} {o : Option α} (h : o ≠ none) : ∃ x, o = some x := by
  cases o with
  | none => exact absurd rfl h
  | some x => exact ⟨x, rfl⟩
theorem chkO_none {s : AS} {c : Int} {n : Str} (h : chkO s c n = none) : ∃ x, gA s.ac n = some x ∧ x.1 = c := by
  unfold chkO at h
  cases g : gA s.ac n with
  | none => rw [g] at h; cases h
  | some x =>
    rw [g] at h
    have h : (if x.1 ≠ c then some ("owner" : Str) else none) = none := h
    by_cases e : x.1 = c
    · exact ⟨x, rfl, e⟩
    · rw [if_pos e] at h; cases h
theorem chk_none {s : AS} {n : Str} (h : chk s n = none) : ∃ x, gA s.ac n = some x := by
  unfold chk at h
  cases g : gA s.ac n with
  | none => rw [g] at h; cases h
  | some x => exact ⟨x, rfl⟩
theorem chkP_none {s : AS} {c : Int} {x y : Str} {a : Int} (h : chkP s c x y a = none) : (∃ u, gA s.ac x = some u) ∧ ∃ v, gA s.ac y = some v := by
  unfold chkP at h
  cases e1 : chk s y with
  | some z => rw [e1] at h; cases h
  | none =>
    rw [e1] at h
    dsimp only at h
    cases e2 : chkO s c x with
    | some z => rw [e2] at h; cases h
    | none =>
      obtain ⟨u, gu, _⟩ := chkO_none e2
      exact ⟨⟨u, gu⟩, chk_none e1⟩
section
variable {P : Program} {w : World} {K : PySem.W.Frag} {mg : Str → Option Value} {base : Heap}
theorem inV_two (k s t : Str) : inV (V.str k) [V.str s, V.str t] = (decide (s = k) || decide (t = k)) := by
  unfold inV
  rw [List.any_cons, List.any_cons, List.any_nil, Bool.or_false]
  rfl
theorem m_Accounts___is_held {C_Accounts : Addr} {C_Sessions : Addr} {C_Store : Addr} {C_State : Addr} {C_BadText : Addr} {C_Refused : Addr} {C_BadCommand : Addr} {C_VERBS : Addr} (T : Txt K mg w C_Accounts C_Sessions C_Store C_State C_BadText C_Refused C_BadCommand C_VERBS) : Met P w K mg base 1 C_Accounts "_is_held" (spAcHeld C_Accounts) [] := by
  refine met T.cl_Accounts T.me_Accounts___is_held sc_Accounts___is_held (fun vs H Q E h => ?_) (fun f cdv A outer s H vs Q E hr h => ?_)
  · obtain ⟨p, n, b, h, he, s, k, rfl, _⟩ := h; rfl
  obtain ⟨p, n, b, h, he, s, k, rfl, aw, q⟩ := h
  obtain ⟨dx, g⟩ := aw.at_.ins
  refine ⟨_, (pss_one (ps_ret (pe_callB (cr_any rfl) (by rfl) T.z_any (by decide +kernel) (pa_cons (pe_lc (own := [("hold", 2)]) (g := gName 2) (by rfl) sc_Accounts___is_held.nd (pi_list (pe_callTy (call_listVals rfl) (by rfl) T.z_list (by decide +kernel) (pa_cons (pe_bm0 PySem.F.plainAttrs_dict PySem.F.slot_dict_values PySem.F.type_dict_values mt_dvals (pe_fld (pv 0) rfl)) pa_nil))) (blkOk_by (own := [("hold", 2)]) (N := ["self", "name", "hold"]) (sc := defScope s_Accounts___is_held) (by decide +kernel)) (fun _ _ _ _ _ => pg_name (i := 2) sc_Accounts___is_held.nd rfl (Or.inl rfl)) (fun _ _ _ _ _ => pts_nil) (fun _ _ _ _ _ => (pe_cmpR (kin (K := K)) (pv 1) (pe_slice (ksla (K := K)) (pv 2) po_none (po_some pe_int)) (by rfl)))) pa_nil)))), ?_⟩
  walk_at "rds"
  refine ⟨p, _, dx, _, _, rfl, g, T.cl_Accounts, T.na_Accounts__holds, rfl, ?_⟩
  refine ⟨.inr (.inr (.inl ⟨rfl, .inl ⟨_, aw.at_.ho⟩⟩)), ?_⟩
  refine ⟨h, _, rfl, rfl, aw.at_.ho, fun pv hpv => ?_⟩
  walk_at "rds"
  refine ⟨pv, h, _, rfl, upd_same, (same_upd hpv) _ _ aw.at_.ho, fun l hl => ?_⟩
  have s1 := (same_upd (o := viewO "dict_values" pv h) hpv).trans (same_upd (o := .lst ((hoD he).map (·.2))) hl)
  have el : upd (upd H pv (viewO "dict_values" pv h)) l (.lst ((hoD he).map (·.2))) l = some (.lst (he.map fun e => V.ref e.2.1)) := by
    rw [upd_same]; unfold hoD kvs; rw [List.map_map]; rfl
  generalize upd (upd H pv (viewO "dict_values" pv h)) l (.lst ((hoD he).map (·.2))) = H1 at s1 el
  have a1 := aw.at_.on s1
  have lh : he.length ≤ 1000 := by have := aw.hlen; rw [← aw.hs, hsOf_len] at this; exact this
  walk_at "rds"
  refine ⟨⟨_, sq el⟩, fun M hM => ?_⟩
  refine lc_it (walk_list (K := K) (a := l) (xs := he.map fun e => V.ref e.2.1)) (Pv := fun j H' => Same H1 H' ∧ H' M = some (.lst (((he.take j).map fun e => decide (e.2.2.1 = k) || decide (e.2.2.2.1 = k)).map V.bl))) ⟨same_upd hM, upd_same⟩ (fun _ _ _ h => sq (h.1 _ _ el)) (fun j x H6 H7 hj hp hy => ?_) (fun H6 hp => ?_)
  · obtain ⟨s6, eM⟩ := hp
    obtain ⟨rfl, gx⟩ := hy
    rw [List.length_map] at hj
    have gb : he[j]? = some he[j] := List.getElem?_eq_getElem hj
    rw [List.getElem?_map, gb] at gx
    obtain rfl : V.ref he[j].2.1 = x := Option.some.inj gx
    have ht := s6 _ _ (a1.tp _ (List.getElem_mem hj))
    have tk : ((he.take (j + 1)).map fun e => decide (e.2.2.1 = k) || decide (e.2.2.2.1 = k)) = ((he.take j).map fun e => decide (e.2.2.1 = k) || decide (e.2.2.2.1 = k)) ++ [decide (he[j].2.2.1 = k) || decide (he[j].2.2.2.1 = k)] := by
      rw [List.take_add_one, gb, List.map_append]; rfl
    have ll : ((he.take j).map fun e => decide (e.2.2.1 = k) || decide (e.2.2.2.1 = k)).length ≤ 1000 := by rw [List.length_map, List.length_take]; omega
    generalize (he.take j).map (fun e => decide (e.2.2.1 = k) || decide (e.2.2.2.1 = k)) = acc at eM tk ll
    generalize he[j] = e at ht tk
    refine ⟨rfl, tyes ?_⟩
    walk_at "rds"
    refine ⟨e.2.1, _, rfl, SqT.of ht, fun hw => absurd hw.2 (show ¬ HT.sIx 3 3 (some 2) = 3 by decide), fun _ t2 ht2 => ?_⟩
    have e2 : upd H7 t2 (.tup (cutV (holdV e.2.2) none (some 2))) t2 = some (.tup [.str e.2.2.1, .str e.2.2.2.1]) := upd_same
    have s7 := s6.trans (same_upd (o := .tup (cutV (holdV e.2.2) none (some 2))) ht2)
    have eM2 := (same_upd (o := .tup (cutV (holdV e.2.2) none (some 2))) ht2) _ _ eM
    generalize upd H7 t2 (.tup (cutV (holdV e.2.2) none (some 2))) = H8 at e2 s7 eM2
    walk_at "rds"
    refine ⟨t2, _, rfl, .inr (SqT.of e2), rfl, rfl, ?_⟩
    rw [if_neg (by decide), inV_two]
    exact ⟨_, eM2, sz1000' (by rw [List.length_map]; omega), same_mut s7 hM, by rw [upd_same, tk, List.map_append]; rfl⟩
  obtain ⟨s6, eM⟩ := hp
  rw [List.length_map, List.take_of_length_le (Nat.le_refl _)] at eM
  walk_at "rds"
  refine ⟨M, _, rfl, sq eM, ?_⟩
  have e1 : (he.map fun e => decide (e.2.2.1 = k) || decide (e.2.2.2.1 = k)).any id = heldB s.ho k := by
    unfold heldB
    rw [← aw.hs]
    unfold hsOf
    rw [List.any_map, List.any_map]
    rfl
  rw [e1]
  exact q _ (s1.trans s6)
theorem m_Accounts__create {C_Accounts : Addr} {C_Sessions : Addr} {C_Store : Addr} {C_State : Addr} {C_BadText : Addr} {C_Refused : Addr} {C_BadCommand : Addr} {C_VERBS : Addr} (T : Txt K mg w C_Accounts C_Sessions C_Store C_State C_BadText C_Refused C_BadCommand C_VERBS) : MetX P w K mg base 3 C_Accounts "create" (spAcCreate C_Refused C_Accounts) := by
  have i_Refused := i_Refused (P := P) (w := w) (base := base) T
  refine metX T.cl_Accounts T.me_Accounts__create sc_Accounts__create (fun vs H Q E h => ?_) (fun f cdv A outer s H vs Q E hr h => ?_)
  · obtain ⟨p, n, b, h, he, s, c, k, rfl, _⟩ := h; rfl
  obtain ⟨p, n, b, h, he, s, c, k, rfl, aw, out⟩ := h
  obtain ⟨dx, g⟩ := aw.at_.ins
  obtain ⟨hpn, hpb, hph⟩ := aw.at_.pn
  have la := aw.len
  unfold opCreate at out
  refine ⟨_, (pss_cons (ps_if (pt_cmp (pc_din (by exact hu_of hr) (pv 2) (pe_fld (pv 0) rfl))) (pss_one (ps_raise rfl (takes_of rfl rfl rfl rfl) (pmk_ei i_Refused hr (by decide) (by rfl) (pa_cons pe_str pa_nil)))) pss_nil)
      (pss_cons (ps_if (pt_cmpR op_ge (pe_callB call_lenD (by rfl) T.z_len (by decide +kernel) (pa_cons (pe_fld (pv 0) rfl) pa_nil)) (pe_gc (by rfl) T.c_ACCOUNT_LIMIT) (nomark _)) (pss_one (ps_raise rfl (takes_of rfl rfl rfl rfl) (pmk_ei i_Refused hr (by decide) (by rfl) (pa_cons pe_str pa_nil)))) pss_nil)
      (pss_cons (ps_dput (hu_of hr) (pe_fld (pv 0) rfl) (pv 2) (pv 1) rfl)
      (pss_one (ps_dput (hu_of hr) (pe_fld (pv 0) rfl) (pv 2) pe_int rfl))))), ?_⟩
  walk_at "rds"
  refine ⟨p, _, dx, _, _, rfl, g, T.cl_Accounts, T.na_Accounts__owners, rfl, ?_⟩
  refine ⟨n, _, rfl, DGet.k (k := Sum.inr k) aw.at_.ow, ?_⟩
  rw [aow_val]
  cases gk : gA s.ac k with
  | some x =>
    rw [gk] at out
    walk_at "rds"
    exact mk_one fun H' d s1 _ hd => out H' d s1 hd
  | none =>
    rw [gk] at out
    have out : OutA C_Refused C_Accounts H p n b h Q E (if 100 ≤ s.ac.length then .inl "full" else .inr { s with ac := pA s.ac k (c, 0) }) := out
    walk_at "rds"
    refine ⟨p, _, dx, _, _, rfl, g, T.cl_Accounts, T.na_Accounts__owners, rfl, ?_⟩
    walk_at "rds"
    refine ⟨n, _, rfl, aw.at_.ow, ?_⟩
    rw [show (aowD s.ac).length = s.ac.length from kvs_len _ _ _]
    walk_at "rds"
    by_cases hl : 100 ≤ s.ac.length
    · rw [if_pos hl] at out
      refine ifT (decide_eq_true (by omega)) ?_
      walk_at "rds"
      exact mk_one fun H' d s1 _ hd => out H' d s1 hd
    · rw [if_neg hl] at out
      refine ifF (decide_eq_false (by omega)) ?_
      walk_at "rds"
      refine ⟨p, _, dx, _, _, rfl, g, T.cl_Accounts, T.na_Accounts__owners, rfl, ?_⟩
      walk_at "rds"
      refine ⟨n, _, rfl, DPut.k (k := Sum.inr k) aw.at_.ow (by unfold aowD; rw [kvs_len]; exact sz1000' (by omega)), ?_⟩
      rw [aow_put k c 0]
      walk_at "rds"
      refine ⟨p, _, dx, _, _, rfl, (by rw [upd_ne hpn]; exact g), T.cl_Accounts, T.na_Accounts__balances, rfl, ?_⟩
      walk_at "rds"
      refine ⟨b, _, rfl, DPut.k (k := Sum.inr k) (by rw [upd_ne aw.at_.n1.symm]; exact aw.at_.ba) (by unfold baD; rw [kvs_len]; exact sz1000' (by omega)), ?_⟩
      rw [ba_put k c 0]
      exact out _ he (.trans (but_upd (by simp)) (but_upd (by simp))) (aw.at_.new k c 0) aw.hs
theorem m_Accounts__close {C_Accounts : Addr} {C_Sessions : Addr} {C_Store : Addr} {C_State : Addr} {C_BadText : Addr} {C_Refused : Addr} {C_BadCommand : Addr} {C_VERBS : Addr} (T : Txt K mg w C_Accounts C_Sessions C_Store C_State C_BadText C_Refused C_BadCommand C_VERBS) : MetX P w K mg base 5 C_Accounts "close" (spAcClose C_Refused C_Accounts) := by
  have i_Refused := i_Refused (P := P) (w := w) (base := base) T
  have m_Accounts___check_owner := m_Accounts___check_owner (P := P) (w := w) (base := base) T
  have m_Accounts___is_held := m_Accounts___is_held (P := P) (w := w) (K := K) (base := base) T
  refine metX T.cl_Accounts T.me_Accounts__close sc_Accounts__close (fun vs H Q E h => ?_) (fun f cdv A outer s H vs Q E hr h => ?_)
  · obtain ⟨p, n, b, h, he, s, c, k, rfl, _⟩ := h; rfl
  obtain ⟨p, n, b, h, he, s, c, k, rfl, aw, out⟩ := h
  obtain ⟨dx, g⟩ := aw.at_.ins
  unfold opClose at out
  refine ⟨_, (pss_cons (ps_expr (pe_mtX m_Accounts___check_owner hr (by decide) (fun σ => passAt (takes_of rfl rfl rfl rfl) σ) (pv 0) (pa_cons (pv 1) (pa_cons (pv 2) pa_nil))))
      (pss_cons (ps_if (PW.pt (pw_or (pt_cmpR op_ne (pe_dget (by exact hu_of hr) (pe_fld (pv 0) rfl) (pv 2) (fun _ _ => rfl)) pe_int (nomark _)) (pw_or1 (pt_val (pe_mt m_Accounts___is_held hr (by decide) (pv 0) (pa_cons (pv 2) pa_nil)))))) (pss_one (ps_raise rfl (takes_of rfl rfl rfl rfl) (pmk_ei i_Refused hr (by decide) (by rfl) (pa_cons pe_str pa_nil)))) pss_nil)
      (pss_cons (ps_ddel (pe_fld (pv 0) rfl) (pv 2))
      (pss_one (ps_ddel (pe_fld (pv 0) rfl) (pv 2)))))), ?_⟩
  walk_at "rds"
  refine ⟨p, dx, _, rfl, g, rfl, ?_⟩
  walk_at "rds"
  refine ⟨p, n, b, h, he, s, c, k, rfl, aw, ?_⟩
  cases e2 : chkO s c k with
  | some z => rw [e2] at out; exact out
  | none =>
    rw [e2] at out
    dsimp only at out
    obtain ⟨x, gk, _⟩ := chkO_none e2
    rw [gk] at out
    dsimp only at out
    have del : ∀ H1, Same H H1 → AcAt C_Accounts H1 p n b h s.ac he s.su → (¬ (x.2 ≠ 0 ∨ heldB s.ho k = true)) → ∃ t, t = t ∧ Q .non (upd (upd H1 n (.dK (aowD (rmA s.ac k)))) b (.dK (baD (rmA s.ac k)))) := fun H1 s1 a1 no => by
      rw [if_neg no] at out
      exact ⟨(), rfl, out _ he (.trans (Same.but s1) (.trans (but_upd (by simp)) (but_upd (by simp)))) (a1.del k) aw.hs⟩
    walk_at "rds"
    refine ⟨p, _, dx, _, _, rfl, g, T.cl_Accounts, T.na_Accounts__balances, rfl, ?_⟩
    walk_at "rds"
    refine ⟨b, _, rfl, .inl ⟨_, Sum.inr k, .inl aw.at_.ba, rfl, by rw [ba_val, gk]; rfl⟩, ?_⟩
    walk_at "rds"
    rw [decV']
    by_cases h0 : x.2 = 0
    · refine ifF (by rw [decide_eq_true h0]; rfl) ?_
      walk_at "rds"
      refine ⟨p, dx, _, rfl, g, rfl, ?_⟩
      walk_at "rds"
      refine ⟨p, n, b, h, he, s, k, rfl, aw, fun H1 s1 => ?_⟩
      refine ⟨_, rfl, ?_⟩
      cases hb : heldB s.ho k with
      | true =>
        rw [if_pos (.inr hb)] at out
        refine ifT rfl ?_
        walk_at "rds"
        exact mk_one fun H' d s2 _ hd => out H' d (s1.trans s2) hd
      | false =>
        have a1 := aw.at_.on s1
        obtain ⟨_, _, fin⟩ := del H1 s1 a1 (fun z => z.elim (fun z => z h0) (fun z => by rw [hb] at z; cases z))
        obtain ⟨dx1, g1⟩ := a1.ins
        refine ifF rfl ?_
        walk_at "rds"
        refine ⟨p, _, dx1, _, _, rfl, g1, T.cl_Accounts, T.na_Accounts__owners, rfl, ?_⟩
        walk_at "rds"
        refine ⟨n, _, Sum.inr k, rfl, a1.ow, rfl, by rw [aow_val, gk]; rfl, ?_⟩
        rw [show dropK (aowD s.ac) (Sum.inr k) = aowD (rmA s.ac k) from dropK_rmA inrI _ s.ac k]
        walk_at "rds"
        refine ⟨p, _, dx1, _, _, rfl, (by rw [upd_ne a1.pn.1]; exact g1), T.cl_Accounts, T.na_Accounts__balances, rfl, ?_⟩
        walk_at "rds"
        refine ⟨b, _, Sum.inr k, rfl, (by rw [upd_ne a1.n1.symm]; exact a1.ba), rfl, by rw [ba_val, gk]; rfl, ?_⟩
        rw [show dropK (baD s.ac) (Sum.inr k) = baD (rmA s.ac k) from dropK_rmA inrI _ s.ac k]
        exact fin
    · rw [if_pos (.inl h0)] at out
      refine ifT (by rw [decide_eq_false h0]; rfl) ?_
      refine ifT rfl ?_
      walk_at "rds"
      exact mk_one fun H' d s1 _ hd => out H' d s1 hd
end

section
variable {P : Program} {w : World} {K : PySem.W.Frag} {mg : Str → Option Value} {base : Heap}
theorem Out.bal {B C : Addr} {H H' : Hp} {p n b h : Addr} {Q : VK} {E : XK} {s' : AS} {he : HE} (out : OutA B C H p n b h Q E (.inr s')) (bt : But [p, n, b, h] H H') (a : AcAt C H' p n b h s'.ac he s'.su) (e : hsOf he = s'.ho) : Q .non H' := out H' he bt a e
theorem m_Accounts__issue {C_Accounts : Addr} {C_Sessions : Addr} {C_Store : Addr} {C_State : Addr} {C_BadText : Addr} {C_Refused : Addr} {C_BadCommand : Addr} {C_VERBS : Addr} (T : Txt K mg w C_Accounts C_Sessions C_Store C_State C_BadText C_Refused C_BadCommand C_VERBS) : MetX P w K mg base 4 C_Accounts "issue" (spAcIssue C_Refused C_Accounts) := by
  have i_Refused := i_Refused (P := P) (w := w) (base := base) T
  have m_Accounts___check := m_Accounts___check (P := P) (w := w) (base := base) T
  refine metX T.cl_Accounts T.me_Accounts__issue sc_Accounts__issue (fun vs H Q E h => ?_) (fun f cdv A outer s H vs Q E hr h => ?_)
  · obtain ⟨p, n, b, h, he, s, c, k, a, rfl, _⟩ := h; rfl
  obtain ⟨p, n, b, h, he, s, c, k, a, rfl, aw, out⟩ := h
  obtain ⟨dx, g⟩ := aw.at_.ins
  have la := aw.len
  unfold opIssue at out
  refine ⟨_, (pss_cons (ps_if (pt_cmpR op_ne (pv 1) (pe_gc (by rfl) T.c_MINT) (nomark _)) (pss_one (ps_raise rfl (takes_of rfl rfl rfl rfl) (pmk_ei i_Refused hr (by decide) (by rfl) (pa_cons pe_str pa_nil)))) pss_nil)
      (pss_cons (ps_expr (pe_mtX m_Accounts___check hr (by decide) (fun σ => passAt (takes_of rfl rfl rfl rfl) σ) (pv 0) (pa_cons (pv 2) pa_nil)))
      (pss_cons (ps_if (pt_cmpR op_gt (pe_op op_add (pe_fld (pv 0) rfl) (pv 3)) (pe_gc (by rfl) T.c_SUPPLY_LIMIT) (nomark _)) (pss_one (ps_raise rfl (takes_of rfl rfl rfl rfl) (pmk_ei i_Refused hr (by decide) (by rfl) (pa_cons pe_str pa_nil)))) pss_nil)
      (pss_cons (ps_daug (hu_of hr) (pe_fld (pv 0) rfl) (pv 2) (pv 3) in_add (fun _ _ _ => rfl))
      (pss_one (ps_fldaug (pv 0) (pv 3) in_add)))))), ?_⟩
  walk_at "rds"
  by_cases h1 : c = -1
  case neg =>
    rw [if_pos h1] at out
    refine ifT (by show (!decide (V.int c = V.int (-1))) = true; rw [decV', decide_eq_false h1]; rfl) ?_
    walk_at "rds"
    exact mk_one fun H' d s1 _ hd => out H' d s1 hd
  rw [if_neg (fun n => n h1)] at out
  refine ifF (by show (!decide (V.int c = V.int (-1))) = false; rw [decV', decide_eq_true h1]; rfl) ?_
  walk_at "rds"
  refine ⟨p, dx, _, rfl, g, rfl, ?_⟩
  walk_at "rds"
  refine ⟨p, n, b, h, he, s, k, rfl, aw, ?_⟩
  cases e1 : chk s k with
  | some z => rw [e1] at out; exact out
  | none =>
    rw [e1] at out
    dsimp only at out
    obtain ⟨x, gk⟩ := chk_none e1
    walk_at "rds"
    refine ⟨p, _, dx, _, _, rfl, g, T.cl_Accounts, T.na_Accounts__supply, rfl, ?_⟩
    walk_at "rds"
    by_cases h2 : 1000000000000000 < s.su + a
    · rw [if_pos h2] at out
      refine ifT (decide_eq_true h2) ?_
      walk_at "rds"
      exact mk_one fun H' d s1 _ hd => out H' d s1 hd
    rw [if_neg h2] at out
    refine ifF (decide_eq_false h2) ?_
    walk_at "rds"
    refine ⟨p, _, dx, _, _, rfl, g, T.cl_Accounts, T.na_Accounts__balances, rfl, ?_⟩
    walk_at "rds"
    refine ⟨b, _, rfl, .inl ⟨_, Sum.inr k, .inl aw.at_.ba, rfl, by rw [ba_val, gk]; rfl⟩, ?_⟩
    walk_at "rds"
    refine ⟨_, DPut.k (k := Sum.inr k) aw.at_.ba (by unfold baD; rw [kvs_len]; exact sz1000' (by omega)), ?_⟩
    rw [ba_put k x.1 (x.2 + a)]
    have a1 := aw.at_.bal aw.ok gk (x.2 + a)
    have bt1 : But [p, n, b, h] H (upd H b (.dK (baD (pA s.ac k (x.1, x.2 + a))))) := but_upd (by simp)
    generalize upd H b (.dK (baD (pA s.ac k (x.1, x.2 + a)))) = H1 at a1 bt1
    obtain ⟨dx1, g1⟩ := a1.ins
    walk_at "rds"
    refine ⟨p, _, dx1, _, _, rfl, g1, T.cl_Accounts, T.na_Accounts__supply, rfl, ?_⟩
    walk_at "rds"
    refine ⟨dx1, _, g1, (by show 4 < 1000; decide), ?_⟩
    refine Out.bal out (bt1.trans (but_upd (by simp))) ?_ aw.hs
    show AcAt _ _ p n b h (addB s.ac k a) he (s.su + a)
    rw [addB_some gk]
    exact a1.sup (s.su + a) g1
theorem m_Accounts__burn {C_Accounts : Addr} {C_Sessions : Addr} {C_Store : Addr} {C_State : Addr} {C_BadText : Addr} {C_Refused : Addr} {C_BadCommand : Addr} {C_VERBS : Addr} (T : Txt K mg w C_Accounts C_Sessions C_Store C_State C_BadText C_Refused C_BadCommand C_VERBS) : MetX P w K mg base 5 C_Accounts "burn" (spAcBurn C_Refused C_Accounts) := by
  have m_Accounts___check_owner := m_Accounts___check_owner (P := P) (w := w) (base := base) T
  have m_Accounts___check_funds := m_Accounts___check_funds (P := P) (w := w) (base := base) T
  refine metX T.cl_Accounts T.me_Accounts__burn sc_Accounts__burn (fun vs H Q E h => ?_) (fun f cdv A outer s H vs Q E hr h => ?_)
  · obtain ⟨p, n, b, h, he, s, c, k, a, rfl, _⟩ := h; rfl
  obtain ⟨p, n, b, h, he, s, c, k, a, rfl, aw, out⟩ := h
  obtain ⟨dx, g⟩ := aw.at_.ins
  have la := aw.len
  unfold opBurn at out
  refine ⟨_, (pss_cons (ps_expr (pe_mtX m_Accounts___check_owner hr (by decide) (fun σ => passAt (takes_of rfl rfl rfl rfl) σ) (pv 0) (pa_cons (pv 1) (pa_cons (pv 2) pa_nil))))
      (pss_cons (ps_expr (pe_mtX m_Accounts___check_funds hr (by decide) (fun σ => passAt (takes_of rfl rfl rfl rfl) σ) (pv 0) (pa_cons (pv 2) (pa_cons (pv 3) pa_nil))))
      (pss_cons (ps_daug (hu_of hr) (pe_fld (pv 0) rfl) (pv 2) (pv 3) in_sub (fun _ _ _ => rfl))
      (pss_one (ps_fldaug (pv 0) (pv 3) in_sub))))), ?_⟩
  walk_at "rds"
  refine ⟨p, dx, _, rfl, g, rfl, ?_⟩
  walk_at "rds"
  refine ⟨p, n, b, h, he, s, c, k, rfl, aw, ?_⟩
  cases e2 : chkO s c k with
  | some z => rw [e2] at out; exact out
  | none =>
    rw [e2] at out
    dsimp only at out
    obtain ⟨x, gk, _⟩ := chkO_none e2
    walk_at "rds"
    refine ⟨p, dx, _, rfl, g, rfl, ?_⟩
    walk_at "rds"
    refine ⟨p, n, b, h, he, s, k, a, rfl, aw, (by rw [gk]; intro z; cases z), ?_⟩
    cases e3 : chkF s k a with
    | some z => rw [e3] at out; exact out
    | none =>
      rw [e3] at out
      dsimp only at out
      walk_at "rds"
      refine ⟨p, _, dx, _, _, rfl, g, T.cl_Accounts, T.na_Accounts__balances, rfl, ?_⟩
      walk_at "rds"
      refine ⟨b, _, rfl, .inl ⟨_, Sum.inr k, .inl aw.at_.ba, rfl, by rw [ba_val, gk]; rfl⟩, ?_⟩
      walk_at "rds"
      refine ⟨_, DPut.k (k := Sum.inr k) aw.at_.ba (by unfold baD; rw [kvs_len]; exact sz1000' (by omega)), ?_⟩
      rw [ba_put k x.1 (x.2 - a)]
      have a1 := aw.at_.bal aw.ok gk (x.2 - a)
      have bt1 : But [p, n, b, h] H (upd H b (.dK (baD (pA s.ac k (x.1, x.2 - a))))) := but_upd (by simp)
      generalize upd H b (.dK (baD (pA s.ac k (x.1, x.2 - a)))) = H1 at a1 bt1
      obtain ⟨dx1, g1⟩ := a1.ins
      walk_at "rds"
      refine ⟨p, _, dx1, _, _, rfl, g1, T.cl_Accounts, T.na_Accounts__supply, rfl, ?_⟩
      walk_at "rds"
      refine ⟨dx1, _, g1, (by show 4 < 1000; decide), ?_⟩
      refine Out.bal out (bt1.trans (but_upd (by simp))) ?_ aw.hs
      show AcAt _ _ p n b h (addB s.ac k (-a)) he (s.su - a)
      rw [addB_some gk, show x.2 + -a = x.2 - a by omega]
      exact a1.sup (s.su - a) g1
theorem m_Accounts__pay {C_Accounts : Addr} {C_Sessions : Addr} {C_Store : Addr} {C_State : Addr} {C_BadText : Addr} {C_Refused : Addr} {C_BadCommand : Addr} {C_VERBS : Addr} (T : Txt K mg w C_Accounts C_Sessions C_Store C_State C_BadText C_Refused C_BadCommand C_VERBS) : MetX P w K mg base 6 C_Accounts "pay" (spAcPay C_Refused C_Accounts) := by
  have m_Accounts___check_payment := m_Accounts___check_payment (P := P) (w := w) (base := base) T
  refine metX T.cl_Accounts T.me_Accounts__pay sc_Accounts__pay (fun vs H Q E h => ?_) (fun f cdv A outer s H vs Q E hr h => ?_)
  · obtain ⟨p, n, b, h, he, s, c, x, y, a, rfl, _⟩ := h; rfl
  obtain ⟨p, n, b, h, he, s, c, x, y, a, rfl, aw, out⟩ := h
  obtain ⟨dx, g⟩ := aw.at_.ins
  have la := aw.len
  unfold opPay at out
  refine ⟨_, (pss_cons (ps_expr (pe_mtX m_Accounts___check_payment hr (by decide) (fun σ => passAt (takes_of rfl rfl rfl rfl) σ) (pv 0) (pa_cons (pv 1) (pa_cons (pv 2) (pa_cons (pv 3) (pa_cons (pv 4) pa_nil))))))
      (pss_cons (ps_daug (hu_of hr) (pe_fld (pv 0) rfl) (pv 2) (pv 4) in_sub (fun _ _ _ => rfl))
      (pss_one (ps_daug (hu_of hr) (pe_fld (pv 0) rfl) (pv 3) (pv 4) in_add (fun _ _ _ => rfl))))), ?_⟩
  walk_at "rds"
  refine ⟨p, dx, _, rfl, g, rfl, ?_⟩
  walk_at "rds"
  refine ⟨p, n, b, h, he, s, c, x, y, a, rfl, aw, ?_⟩
  cases e2 : chkP s c x y a with
  | some z => rw [e2] at out; exact out
  | none =>
    rw [e2] at out
    dsimp only at out
    obtain ⟨⟨u, gu⟩, v, gv⟩ := chkP_none e2
    walk_at "rds"
    refine ⟨p, _, dx, _, _, rfl, g, T.cl_Accounts, T.na_Accounts__balances, rfl, ?_⟩
    walk_at "rds"
    refine ⟨b, _, rfl, .inl ⟨_, Sum.inr x, .inl aw.at_.ba, rfl, by rw [ba_val, gu]; rfl⟩, ?_⟩
    walk_at "rds"
    refine ⟨_, DPut.k (k := Sum.inr x) aw.at_.ba (by unfold baD; rw [kvs_len]; exact sz1000' (by omega)), ?_⟩
    rw [ba_put x u.1 (u.2 - a)]
    have a1 := aw.at_.bal aw.ok gu (u.2 - a)
    have bt1 : But [p, n, b, h] H (upd H b (.dK (baD (pA s.ac x (u.1, u.2 - a))))) := but_upd (by simp)
    have ea : addB s.ac x (-a) = pA s.ac x (u.1, u.2 - a) := by rw [addB_some gu, show u.2 + -a = u.2 - a by omega]
    generalize upd H b (.dK (baD (pA s.ac x (u.1, u.2 - a)))) = H1 at a1 bt1
    rw [← ea] at a1
    have ok1 := addB_ok x (-a) aw.ok
    have l1 : (addB s.ac x (-a)).length = s.ac.length := addB_len (by rw [gu]; intro z; cases z)
    obtain ⟨v', gv'⟩ := some_of (addB_get (n := x) (m := y) (d := -a) aw.ok (by rw [gv]; intro z; cases z))
    have eo : addB (addB s.ac x (-a)) y a = pA (addB s.ac x (-a)) y (v'.1, v'.2 + a) := addB_some gv'
    generalize addB s.ac x (-a) = ac1 at a1 ok1 l1 gv' eo out
    obtain ⟨dx1, g1⟩ := a1.ins
    walk_at "rds"
    refine ⟨p, _, dx1, _, _, rfl, g1, T.cl_Accounts, T.na_Accounts__balances, rfl, ?_⟩
    walk_at "rds"
    refine ⟨b, _, rfl, .inl ⟨_, Sum.inr y, .inl a1.ba, rfl, by rw [ba_val, gv']; rfl⟩, ?_⟩
    walk_at "rds"
    refine ⟨_, DPut.k (k := Sum.inr y) a1.ba (by unfold baD; rw [kvs_len]; exact sz1000' (by omega)), ?_⟩
    rw [ba_put y v'.1 (v'.2 + a)]
    refine Out.bal out (bt1.trans (but_upd (by simp))) ?_ aw.hs
    show AcAt _ _ p n b h (addB ac1 y a) he s.su
    rw [eo]
    exact a1.bal ok1 gv' (v'.2 + a)
theorem m_Accounts__hold {C_Accounts : Addr} {C_Sessions : Addr} {C_Store : Addr} {C_State : Addr} {C_BadText : Addr} {C_Refused : Addr} {C_BadCommand : Addr} {C_VERBS : Addr} (T : Txt K mg w C_Accounts C_Sessions C_Store C_State C_BadText C_Refused C_BadCommand C_VERBS) : MetX P w K mg base 6 C_Accounts "hold" (spAcHold C_Refused C_Accounts) := by
  have i_Refused := i_Refused (P := P) (w := w) (base := base) T
  have m_Accounts___check_payment := m_Accounts___check_payment (P := P) (w := w) (base := base) T
  refine metX T.cl_Accounts T.me_Accounts__hold sc_Accounts__hold (fun vs H Q E h => ?_) (fun f cdv A outer s H vs Q E hr h => ?_)
  · obtain ⟨p, n, b, h, he, s, c, x, y, a, k, rfl, _⟩ := h; rfl
  obtain ⟨p, n, b, h, he, s, c, x, y, a, k, rfl, aw, out⟩ := h
  obtain ⟨dx, g⟩ := aw.at_.ins
  have la := aw.len
  have lh := aw.hlen
  have le := hsOf_len he
  rw [aw.hs] at le
  unfold opHold at out
  refine ⟨_, (pss_cons (ps_expr (pe_mtX m_Accounts___check_payment hr (by decide) (fun σ => passAt (takes_of rfl rfl rfl rfl) σ) (pv 0) (pa_cons (pv 1) (pa_cons (pv 2) (pa_cons (pv 3) (pa_cons (pv 4) pa_nil))))))
      (pss_cons (ps_if (pt_cmp (pc_din (by exact hu_of hr) (pv 5) (pe_fld (pv 0) rfl))) (pss_one (ps_raise rfl (takes_of rfl rfl rfl rfl) (pmk_ei i_Refused hr (by decide) (by rfl) (pa_cons pe_str pa_nil)))) pss_nil)
      (pss_cons (ps_if (pt_cmpR op_ge (pe_callB call_lenD (by rfl) T.z_len (by decide +kernel) (pa_cons (pe_fld (pv 0) rfl) pa_nil)) (pe_gc (by rfl) T.c_HOLD_LIMIT) (nomark _)) (pss_one (ps_raise rfl (takes_of rfl rfl rfl rfl) (pmk_ei i_Refused hr (by decide) (by rfl) (pa_cons pe_str pa_nil)))) pss_nil)
      (pss_cons (ps_daug (hu_of hr) (pe_fld (pv 0) rfl) (pv 2) (pv 4) in_sub (fun _ _ _ => rfl))
      (pss_one (ps_dput (hu_of hr) (pe_fld (pv 0) rfl) (pv 5) (pe_tup (pa_cons (pv 2) (pa_cons (pv 3) (pa_cons (pv 4) pa_nil)))) rfl)))))), ?_⟩
  walk_at "rds"
  refine ⟨p, dx, _, rfl, g, rfl, ?_⟩
  walk_at "rds"
  refine ⟨p, n, b, h, he, s, c, x, y, a, rfl, aw, ?_⟩
  cases e2 : chkP s c x y a with
  | some z => rw [e2] at out; exact out
  | none =>
    rw [e2] at out
    dsimp only at out
    obtain ⟨⟨u, gu⟩, v, gv⟩ := chkP_none e2
    have gh := gA_hsOf he k
    rw [aw.hs] at gh
    walk_at "rds"
    refine ⟨p, _, dx, _, _, rfl, g, T.cl_Accounts, T.na_Accounts__holds, rfl, ?_⟩
    refine ⟨h, _, rfl, DGet.k (k := Sum.inr k) aw.at_.ho, ?_⟩
    rw [ho_val]
    cases gk : gA he k with
    | some z =>
      rw [gk] at gh
      rw [show gA s.ho k = some z.2 from gh] at out
      walk_at "rds"
      exact mk_one fun H' d s1 _ hd => out H' d s1 hd
    | none =>
      rw [gk] at gh
      rw [show gA s.ho k = none from gh] at out
      have out : OutA C_Refused C_Accounts H p n b h Q E (if 100 ≤ s.ho.length then .inl "full" else .inr { s with ac := addB s.ac x (-a), ho := pA s.ho k (x, y, a) }) := out
      walk_at "rds"
      refine ⟨p, _, dx, _, _, rfl, g, T.cl_Accounts, T.na_Accounts__holds, rfl, ?_⟩
      walk_at "rds"
      refine ⟨h, _, rfl, aw.at_.ho, ?_⟩
      rw [show (hoD he).length = he.length from kvs_len _ _ _]
      walk_at "rds"
      by_cases hl : 100 ≤ s.ho.length
      · rw [if_pos hl] at out
        refine ifT (decide_eq_true (by omega)) ?_
        walk_at "rds"
        exact mk_one fun H' d s1 _ hd => out H' d s1 hd
      rw [if_neg hl] at out
      refine ifF (decide_eq_false (by omega)) ?_
      walk_at "rds"
      refine ⟨p, _, dx, _, _, rfl, g, T.cl_Accounts, T.na_Accounts__balances, rfl, ?_⟩
      walk_at "rds"
      refine ⟨b, _, rfl, .inl ⟨_, Sum.inr x, .inl aw.at_.ba, rfl, by rw [ba_val, gu]; rfl⟩, ?_⟩
      walk_at "rds"
      refine ⟨_, DPut.k (k := Sum.inr x) aw.at_.ba (by unfold baD; rw [kvs_len]; exact sz1000' (by omega)), ?_⟩
      rw [ba_put x u.1 (u.2 - a)]
      have a1 := aw.at_.bal aw.ok gu (u.2 - a)
      have bt1 : But [p, n, b, h] H (upd H b (.dK (baD (pA s.ac x (u.1, u.2 - a))))) := but_upd (by simp)
      have ea : addB s.ac x (-a) = pA s.ac x (u.1, u.2 - a) := by rw [addB_some gu, show u.2 + -a = u.2 - a by omega]
      generalize upd H b (.dK (baD (pA s.ac x (u.1, u.2 - a)))) = H1 at a1 bt1
      rw [← ea] at a1
      walk_at "rds"
      intro t ht
      have st := same_upd (o := .tup [.str x, .str y, .int a]) ht
      have et : upd H1 t (.tup [.str x, .str y, .int a]) t = some (.tup (holdV (x, y, a))) := upd_same
      have a2 := a1.on st
      have bt2 := bt1.trans (Same.but st)
      generalize upd H1 t (.tup [V.str x, .str y, .int a]) = H2 at et a2 bt2
      obtain ⟨dx2, g2⟩ := a2.ins
      walk_at "rds"
      refine ⟨p, _, dx2, _, _, rfl, g2, T.cl_Accounts, T.na_Accounts__holds, rfl, ?_⟩
      walk_at "rds"
      refine ⟨h, _, rfl, DPut.k (k := Sum.inr k) a2.ho (by unfold hoD; rw [kvs_len]; exact sz1000' (by omega)), ?_⟩
      rw [ho_put k t (x, y, a)]
      refine Out.bal out (bt2.trans (but_upd (by simp))) (a2.hold (k := k) et) ?_
      rw [pA_hsOf, aw.hs]
end

def rowA (ac : AB) (k : Str) : PyData := match gA ac k with
  | some x => .tuple [.str k, .int x.1, .int x.2]
  | none => .none
def rowH (ho : HS) (k : Str) : PyData := match gA ho k with
  | some x => .tuple [.str k, .str x.1, .str x.2.1, .int x.2.2]
  | none => .none
def Tx (z : Str) : Prop := z.length ≤ 1000 ∧ PyData.strOk z = true
theorem rowA_noL {ac : AB} (k : Str) : noL (rowA ac k) = true := by
  unfold rowA; cases gA ac k <;> rfl
theorem rowH_noL {ho : HS} (k : Str) : noL (rowH ho k) = true := by
  unfold rowH; cases gA ho k <;> rfl
def ShA (s : AS) : Prop := (∀ e ∈ s.ac, Tx e.1) ∧ ∀ e ∈ s.ho, Tx e.1 ∧ Tx e.2.1 ∧ Tx e.2.2.1
def spAcRows (K : PySem.W.Frag) (C : Addr) : Sp := fun vs H Q _ => ∃ (p n b h : Addr) (he : HE) (s : AS), vs = [.ref p] ∧ AW C H p n b h he s ∧ ShA s ∧
  ∀ (xs : List V) H' r, Same H H' → H r = none → H' r = some (.lst xs) → DtAll K H' none xs ((sortK s.ac).map (rowA s.ac)) → Q (.ref r) H'
def spAcHelds (K : PySem.W.Frag) (C : Addr) : Sp := fun vs H Q _ => ∃ (p n b h : Addr) (he : HE) (s : AS), vs = [.ref p] ∧ AW C H p n b h he s ∧ kOk s.ho ∧ ShA s ∧
  ∀ (xs : List V) H' r, Same H H' → H r = none → H' r = some (.lst xs) → DtAll K H' none xs ((sortK s.ho).map (rowH s.ho)) → Q (.ref r) H'
def spAcSup (C : Addr) : Sp := fun vs H Q _ => ∃ (p n b h : Addr) (he : HE) (s : AS), vs = [.ref p] ∧ AW C H p n b h he s ∧ Q (.int s.su) H
theorem AW.on {C : Addr} {H H' : Hp} {p n b h : Addr} {he : HE} {s : AS} (a : AW C H p n b h he s) (sm : Same H H') : AW C H' p n b h he s := { a with at_ := a.at_.on sm }
section
variable {P : Program} {w : World} {K : PySem.W.Frag} {mg : Str → Option Value} {base : Heap}
theorem m_Accounts__settle {C_Accounts : Addr} {C_Sessions : Addr} {C_Store : Addr} {C_State : Addr} {C_BadText : Addr} {C_Refused : Addr} {C_BadCommand : Addr} {C_VERBS : Addr} (T : Txt K mg w C_Accounts C_Sessions C_Store C_State C_BadText C_Refused C_BadCommand C_VERBS) : MetX P w K mg base 5 C_Accounts "settle" (spAcSettle C_Refused C_Accounts) := by
  have m_Accounts___hold_of := m_Accounts___hold_of (P := P) (w := w) (base := base) T
  have m_Accounts___check_owner := m_Accounts___check_owner (P := P) (w := w) (base := base) T
  refine metX T.cl_Accounts T.me_Accounts__settle sc_Accounts__settle (fun vs H Q E h => ?_) (fun f cdv A outer s H vs Q E hr h => ?_)
  · obtain ⟨p, n, b, h, he, s, c, k, rfl, _⟩ := h; rfl
  obtain ⟨p, n, b, h, he, s, c, k, rfl, aw, out⟩ := h
  obtain ⟨dx, g⟩ := aw.at_.ins
  have la := aw.len
  have gh := gA_hsOf he k
  rw [aw.hs] at gh
  unfold opSettle at out
  refine ⟨_, (pss_cons (ps_asg (pe_mtX m_Accounts___hold_of hr (by decide) (fun σ => passAt (takes_of rfl rfl rfl rfl) σ) (pv 0) (pa_cons (pv 2) pa_nil)) (pg_tup (by rfl) (pgs_cons (pg_name (i := 3) sc_Accounts__settle.nd rfl (Or.inl rfl)) (pgs_cons (pg_name (i := 4) sc_Accounts__settle.nd rfl (Or.inl rfl)) (pgs_cons (pg_name (i := 5) sc_Accounts__settle.nd rfl (Or.inl rfl)) pgs_nil)))))
      (pss_cons (ps_expr (pe_mtX m_Accounts___check_owner hr (by decide) (fun σ => passAt (takes_of rfl rfl rfl rfl) σ) (pv 0) (pa_cons (pv 1) (pa_cons (pv 3) pa_nil))))
      (pss_cons (ps_daug (hu_of hr) (pe_fld (pv 0) rfl) (pv 4) (pv 5) in_add (fun _ _ _ => rfl))
      (pss_one (ps_ddel (pe_fld (pv 0) rfl) (pv 2)))))), ?_⟩
  walk_at "rds"
  refine ⟨p, dx, _, rfl, g, rfl, ?_⟩
  walk_at "rds"
  refine ⟨p, n, b, h, he, s, k, rfl, aw, fun gk => ?_, fun x gk => ?_⟩
  · rw [gk] at gh
    rw [show gA s.ho k = none from gh] at out
    exact out
  rw [gk] at gh
  have gh : gA s.ho k = some x.2 := gh
  have mh : (k, x.2) ∈ s.ho := gA_some gh
  rw [gh] at out
  have out : OutA C_Refused C_Accounts H p n b h Q E (match chkO s c x.2.1 with
    | some z => .inl z
    | none => .inr { s with ac := addB s.ac x.2.2.1 x.2.2.2, ho := rmA s.ho k }) := out
  have ht := aw.at_.tp _ (gA_some gk)
  obtain ⟨y, gy⟩ := some_of (aw.src _ mh).2
  have gy : gA s.ac x.2.2.1 = some y := gy
  refine ⟨x.1, _, rfl, SqT.of ht, rfl, _, _, rfl, _, _, rfl, _, _, rfl, rfl, ?_⟩
  walk_at "rds"
  refine ⟨p, dx, _, rfl, g, rfl, ?_⟩
  walk_at "rds"
  refine ⟨p, n, b, h, he, s, c, x.2.1, rfl, aw, ?_⟩
  cases e2 : chkO s c x.2.1 with
  | some z => rw [e2] at out; exact out
  | none =>
    rw [e2] at out
    dsimp only at out
    walk_at "rds"
    refine ⟨p, _, dx, _, _, rfl, g, T.cl_Accounts, T.na_Accounts__balances, rfl, ?_⟩
    walk_at "rds"
    refine ⟨b, _, rfl, .inl ⟨_, Sum.inr x.2.2.1, .inl aw.at_.ba, rfl, by rw [ba_val, gy]; rfl⟩, ?_⟩
    walk_at "rds"
    refine ⟨_, DPut.k (k := Sum.inr x.2.2.1) aw.at_.ba (by unfold baD; rw [kvs_len]; exact sz1000' (by omega)), ?_⟩
    rw [ba_put x.2.2.1 y.1 (y.2 + x.2.2.2)]
    have a1 := aw.at_.bal aw.ok gy (y.2 + x.2.2.2)
    have bt1 : But [p, n, b, h] H (upd H b (.dK (baD (pA s.ac x.2.2.1 (y.1, y.2 + x.2.2.2))))) := but_upd (by simp)
    generalize upd H b (.dK (baD (pA s.ac x.2.2.1 (y.1, y.2 + x.2.2.2)))) = H1 at a1 bt1
    obtain ⟨dx1, g1⟩ := a1.ins
    walk_at "rds"
    refine ⟨p, _, dx1, _, _, rfl, g1, T.cl_Accounts, T.na_Accounts__holds, rfl, ?_⟩
    walk_at "rds"
    refine ⟨h, _, Sum.inr k, rfl, a1.ho, rfl, by rw [ho_val, gk]; rfl, ?_⟩
    rw [show dropK (hoD he) (Sum.inr k) = hoD (rmA he k) from dropK_rmA inrI _ he k]
    refine Out.bal out (bt1.trans (but_upd (by simp))) ?_ (by rw [rmA_hsOf, aw.hs])
    show AcAt _ _ p n b h (addB s.ac x.2.2.1 x.2.2.2) (rmA he k) s.su
    rw [addB_some gy]
    exact a1.free k
theorem m_Accounts__release {C_Accounts : Addr} {C_Sessions : Addr} {C_Store : Addr} {C_State : Addr} {C_BadText : Addr} {C_Refused : Addr} {C_BadCommand : Addr} {C_VERBS : Addr} (T : Txt K mg w C_Accounts C_Sessions C_Store C_State C_BadText C_Refused C_BadCommand C_VERBS) : MetX P w K mg base 5 C_Accounts "release" (spAcRelease C_Refused C_Accounts) := by
  have m_Accounts___hold_of := m_Accounts___hold_of (P := P) (w := w) (base := base) T
  have m_Accounts___check_owner := m_Accounts___check_owner (P := P) (w := w) (base := base) T
  refine metX T.cl_Accounts T.me_Accounts__release sc_Accounts__release (fun vs H Q E h => ?_) (fun f cdv A outer s H vs Q E hr h => ?_)
  · obtain ⟨p, n, b, h, he, s, c, k, rfl, _⟩ := h; rfl
  obtain ⟨p, n, b, h, he, s, c, k, rfl, aw, out⟩ := h
  obtain ⟨dx, g⟩ := aw.at_.ins
  have la := aw.len
  have gh := gA_hsOf he k
  rw [aw.hs] at gh
  unfold opRelease at out
  refine ⟨_, (pss_cons (ps_asg (pe_mtX m_Accounts___hold_of hr (by decide) (fun σ => passAt (takes_of rfl rfl rfl rfl) σ) (pv 0) (pa_cons (pv 2) pa_nil)) (pg_tup (by rfl) (pgs_cons (pg_name (i := 3) sc_Accounts__release.nd rfl (Or.inl rfl)) (pgs_cons (pg_name (i := 4) sc_Accounts__release.nd rfl (Or.inl rfl)) (pgs_cons (pg_name (i := 5) sc_Accounts__release.nd rfl (Or.inl rfl)) pgs_nil)))))
      (pss_cons (ps_expr (pe_mtX m_Accounts___check_owner hr (by decide) (fun σ => passAt (takes_of rfl rfl rfl rfl) σ) (pv 0) (pa_cons (pv 1) (pa_cons (pv 4) pa_nil))))
      (pss_cons (ps_daug (hu_of hr) (pe_fld (pv 0) rfl) (pv 3) (pv 5) in_add (fun _ _ _ => rfl))
      (pss_one (ps_ddel (pe_fld (pv 0) rfl) (pv 2)))))), ?_⟩
  walk_at "rds"
  refine ⟨p, dx, _, rfl, g, rfl, ?_⟩
  walk_at "rds"
  refine ⟨p, n, b, h, he, s, k, rfl, aw, fun gk => ?_, fun x gk => ?_⟩
  · rw [gk] at gh
    rw [show gA s.ho k = none from gh] at out
    exact out
  rw [gk] at gh
  have gh : gA s.ho k = some x.2 := gh
  have mh : (k, x.2) ∈ s.ho := gA_some gh
  rw [gh] at out
  have out : OutA C_Refused C_Accounts H p n b h Q E (match chkO s c x.2.2.1 with
    | some z => .inl z
    | none => .inr { s with ac := addB s.ac x.2.1 x.2.2.2, ho := rmA s.ho k }) := out
  have ht := aw.at_.tp _ (gA_some gk)
  obtain ⟨y, gy⟩ := some_of (aw.src _ mh).1
  have gy : gA s.ac x.2.1 = some y := gy
  refine ⟨x.1, _, rfl, SqT.of ht, rfl, _, _, rfl, _, _, rfl, _, _, rfl, rfl, ?_⟩
  walk_at "rds"
  refine ⟨p, dx, _, rfl, g, rfl, ?_⟩
  walk_at "rds"
  refine ⟨p, n, b, h, he, s, c, x.2.2.1, rfl, aw, ?_⟩
  cases e2 : chkO s c x.2.2.1 with
  | some z => rw [e2] at out; exact out
  | none =>
    rw [e2] at out
    dsimp only at out
    walk_at "rds"
    refine ⟨p, _, dx, _, _, rfl, g, T.cl_Accounts, T.na_Accounts__balances, rfl, ?_⟩
    walk_at "rds"
    refine ⟨b, _, rfl, .inl ⟨_, Sum.inr x.2.1, .inl aw.at_.ba, rfl, by rw [ba_val, gy]; rfl⟩, ?_⟩
    walk_at "rds"
    refine ⟨_, DPut.k (k := Sum.inr x.2.1) aw.at_.ba (by unfold baD; rw [kvs_len]; exact sz1000' (by omega)), ?_⟩
    rw [ba_put x.2.1 y.1 (y.2 + x.2.2.2)]
    have a1 := aw.at_.bal aw.ok gy (y.2 + x.2.2.2)
    have bt1 : But [p, n, b, h] H (upd H b (.dK (baD (pA s.ac x.2.1 (y.1, y.2 + x.2.2.2))))) := but_upd (by simp)
    generalize upd H b (.dK (baD (pA s.ac x.2.1 (y.1, y.2 + x.2.2.2)))) = H1 at a1 bt1
    obtain ⟨dx1, g1⟩ := a1.ins
    walk_at "rds"
    refine ⟨p, _, dx1, _, _, rfl, g1, T.cl_Accounts, T.na_Accounts__holds, rfl, ?_⟩
    walk_at "rds"
    refine ⟨h, _, Sum.inr k, rfl, a1.ho, rfl, by rw [ho_val, gk]; rfl, ?_⟩
    rw [show dropK (hoD he) (Sum.inr k) = hoD (rmA he k) from dropK_rmA inrI _ he k]
    refine Out.bal out (bt1.trans (but_upd (by simp))) ?_ (by rw [rmA_hsOf, aw.hs])
    show AcAt _ _ p n b h (addB s.ac x.2.1 x.2.2.2) (rmA he k) s.su
    rw [addB_some gy]
    exact a1.free k
theorem m_Accounts__supply {C_Accounts : Addr} {C_Sessions : Addr} {C_Store : Addr} {C_State : Addr} {C_BadText : Addr} {C_Refused : Addr} {C_BadCommand : Addr} {C_VERBS : Addr} (T : Txt K mg w C_Accounts C_Sessions C_Store C_State C_BadText C_Refused C_BadCommand C_VERBS) : Met P w K mg base 1 C_Accounts "supply" (spAcSup C_Accounts) [] := by
  refine met T.cl_Accounts T.me_Accounts__supply sc_Accounts__supply (fun vs H Q E h => ?_) (fun f cdv A outer s H vs Q E hr h => ?_)
  · obtain ⟨p, n, b, h, he, s, rfl, _⟩ := h; rfl
  obtain ⟨p, n, b, h, he, s, rfl, aw, q⟩ := h
  obtain ⟨dx, g⟩ := aw.at_.ins
  refine ⟨_, (pss_one (ps_ret (pe_fld (pv 0) rfl))), ?_⟩
  walk_at "rds"
  refine ⟨p, _, dx, _, _, rfl, g, T.cl_Accounts, T.na_Accounts__supply, rfl, ?_⟩
  exact q
theorem m_Accounts__rows {C_Accounts : Addr} {C_Sessions : Addr} {C_Store : Addr} {C_State : Addr} {C_BadText : Addr} {C_Refused : Addr} {C_BadCommand : Addr} {C_VERBS : Addr} (T : Txt K mg w C_Accounts C_Sessions C_Store C_State C_BadText C_Refused C_BadCommand C_VERBS) : Met P w K mg base 1 C_Accounts "rows" (spAcRows K C_Accounts) [] := by
  refine met T.cl_Accounts T.me_Accounts__rows sc_Accounts__rows (fun vs H Q E h => ?_) (fun f cdv A outer s H vs Q E hr h => ?_)
  · obtain ⟨p, n, b, h, he, s, rfl, _⟩ := h; rfl
  obtain ⟨p, n, b, h, he, s, rfl, aw, sh, q⟩ := h
  obtain ⟨dx, g⟩ := aw.at_.ins
  have la := aw.len
  have hok := aw.ok
  refine ⟨_, (pss_one (ps_ret (pe_lc (own := [("name", 1)]) (g := gName 1) (by rfl) sc_Accounts__rows.nd (pi_list (pe_callB (call_sortedDS rfl (units65 hr)) (by rfl) T.z_sorted (by decide +kernel) (pa_cons (pe_fld (pv 0) rfl) pa_nil))) (blkOk_by (own := [("name", 1)]) (N := ["self", "name"]) (sc := defScope s_Accounts__rows) (by decide +kernel)) (fun _ _ _ _ _ => pg_name (i := 1) sc_Accounts__rows.nd rfl (Or.inl rfl)) (fun _ _ _ _ _ => pts_nil) (fun _ _ _ _ _ => (pe_tup (pa_cons (pv 1) (pa_cons (pe_dget (by exact hu_of hr) (kfld (K := K) (pv 0)) (pv 1) (fun _ _ => rfl)) (pa_cons (pe_dget (by exact hu_of hr) (kfld (K := K) (pv 0)) (pv 1) (fun _ _ => rfl)) pa_nil)))))))), ?_⟩
  walk_at "rds"
  refine ⟨p, _, dx, _, _, rfl, g, T.cl_Accounts, T.na_Accounts__owners, rfl, ?_⟩
  walk_at "rds"
  refine ⟨n, _, s.ac.map (fun k => k.1), rfl, .inl aw.at_.ow, (by exact kvs_keys), by rw [List.length_map]; omega, fun l hl => ?_⟩
  walk_at "rds"
  have s1 : Same H (upd H l (.lst ((sortK s.ac).map V.str))) := same_upd hl
  have hl1 : upd H l (.lst ((sortK s.ac).map V.str)) l = some (.lst ((sortK s.ac).map V.str)) := upd_same
  have e1 : upd H l (.lst ((sortS (s.ac.map fun k => k.1)).map V.str)) = upd H l (.lst ((sortK s.ac).map V.str)) := rfl
  rw [e1]
  generalize upd H l (.lst ((sortK s.ac).map V.str)) = H1 at s1 hl1
  have lK : (sortK s.ac).length ≤ 1000 := by rw [sortK_len]; exact la
  refine ⟨⟨_, sq hl1⟩, fun D hD => ?_⟩
  refine lc_it (walk_list (K := K) (a := l) (xs := (sortK s.ac).map V.str)) (Pv := fun i H' => ∃ xs, Same H1 H' ∧ H' D = some (.lst xs) ∧ DtAll K H' none xs (((sortK s.ac).take i).map (rowA s.ac))) ⟨[], same_upd hD, upd_same, .nil⟩ (fun _ _ _ h => by obtain ⟨_, h, _⟩ := h; exact sq (h _ _ hl1)) (fun i x H6 H7 hi hp2 hy => ?_) (fun H6 hp2 => ?_)
  · obtain ⟨xs, s6, hD6, hx6⟩ := hp2
    obtain ⟨rfl, gx⟩ := hy
    rw [List.length_map] at hi
    rw [List.getElem?_map, List.getElem?_eq_getElem hi] at gx
    obtain rfl : V.str (sortK s.ac)[i] = x := Option.some.inj gx
    obtain ⟨x, gk, mk⟩ := sortK_get hok (List.getElem_mem hi)
    have ht : (sortK s.ac).take (i + 1) = (sortK s.ac).take i ++ [(sortK s.ac)[i]] := by rw [List.take_add_one, List.getElem?_eq_getElem hi]; rfl
    have a6 := aw.at_.on (s1.trans s6)
    obtain ⟨dx6, g6⟩ := a6.ins
    rw [ht, List.map_append]
    generalize (sortK s.ac)[i] = c at gk mk
    have e3 : rowA s.ac c = .tuple [.str c, .int x.1, .int x.2] := by unfold rowA; rw [gk]
    have hc := sh.1 _ mk
    refine ⟨rfl, tyes ?_⟩
    walk_at "rds"
    refine ⟨p, _, dx6, _, _, rfl, g6, T.cl_Accounts, T.na_Accounts__owners, rfl, ?_⟩
    walk_at "rds"
    refine ⟨n, _, rfl, .inl ⟨_, Sum.inr c, .inl a6.ow, rfl, by rw [aow_val, gk]; rfl⟩, ?_⟩
    walk_at "rds"
    refine ⟨p, _, dx6, _, _, rfl, g6, T.cl_Accounts, T.na_Accounts__balances, rfl, ?_⟩
    walk_at "rds"
    refine ⟨b, _, rfl, .inl ⟨_, Sum.inr c, .inl a6.ba, rfl, by rw [ba_val, gk]; rfl⟩, ?_⟩
    walk_at "rds"
    intro t htn
    have hD7 := (same_upd (o := .tup [.str c, .int x.1, .int x.2]) htn) _ _ hD6
    have hxl : xs.length ≤ i := by rw [hx6.length, List.length_map, List.length_take]; omega
    refine ⟨xs, hD7, sz1000' (by omega), xs ++ [.ref t], same_mut (s6.trans (same_upd htn)) hD, upd_same, ?_⟩
    have hdt : Dt K (upd H7 t (.tup [.str c, .int x.1, .int x.2])) none (.ref t) (rowA s.ac c) := by
      rw [e3]
      exact .tup (.inl upd_same) (.cons (.str _ (Nat.le_trans hc.1 (by decide))) (.cons (.int _) (.cons (.int _) .nil)))
    refine DtAll.keep (tp_put hD7) _ _ (noLs_all fun d hd => ?_) ((hx6.on (same_upd htn)).snoc hdt)
    rcases List.mem_append.mp hd with hd | hd
    · obtain ⟨z, _, rfl⟩ := List.mem_map.mp hd; exact rowA_noL z
    · rw [List.mem_singleton.mp hd]; exact rowA_noL c
  · obtain ⟨xs, s6, hD6, hx6⟩ := hp2
    rw [List.length_map, List.take_of_length_le (Nat.le_refl _)] at hx6
    exact q xs H6 D (s1.trans s6) (same_none s1 hD) hD6 hx6
theorem m_Accounts__held {C_Accounts : Addr} {C_Sessions : Addr} {C_Store : Addr} {C_State : Addr} {C_BadText : Addr} {C_Refused : Addr} {C_BadCommand : Addr} {C_VERBS : Addr} (T : Txt K mg w C_Accounts C_Sessions C_Store C_State C_BadText C_Refused C_BadCommand C_VERBS) : Met P w K mg base 1 C_Accounts "held" (spAcHelds K C_Accounts) [] := by
  refine met T.cl_Accounts T.me_Accounts__held sc_Accounts__held (fun vs H Q E h => ?_) (fun f cdv A outer s H vs Q E hr h => ?_)
  · obtain ⟨p, n, b, h, he, s, rfl, _⟩ := h; rfl
  obtain ⟨p, n, b, h, he, s, rfl, aw, hok, sh, q⟩ := h
  obtain ⟨dx, g⟩ := aw.at_.ins
  have la := aw.hlen
  refine ⟨_, (pss_one (ps_ret (pe_lc (own := [("key", 1)]) (g := gName 1) (by rfl) sc_Accounts__held.nd (pi_list (pe_callB (call_sortedDS rfl (units65 hr)) (by rfl) T.z_sorted (by decide +kernel) (pa_cons (pe_fld (pv 0) rfl) pa_nil))) (blkOk_by (own := [("key", 1)]) (N := ["self", "key"]) (sc := defScope s_Accounts__held) (by decide +kernel)) (fun _ _ _ _ _ => pg_name (i := 1) sc_Accounts__held.nd rfl (Or.inl rfl)) (fun _ _ _ _ _ => pts_nil) (fun _ _ _ _ _ => (pe_op (kcatA (K := K)) (pe_tup (pa_cons (pv 1) pa_nil)) (pe_dget (by exact hu_of hr) (kfld (K := K) (pv 0)) (pv 1) (fun _ _ => rfl))))))), ?_⟩
  walk_at "rds"
  refine ⟨p, _, dx, _, _, rfl, g, T.cl_Accounts, T.na_Accounts__holds, rfl, ?_⟩
  walk_at "rds"
  refine ⟨h, _, he.map (fun k => k.1), rfl, .inl aw.at_.ho, (by exact kvs_keys), by have := hsOf_len he; rw [aw.hs] at this; rw [List.length_map]; omega, fun l hl => ?_⟩
  walk_at "rds"
  have s1 : Same H (upd H l (.lst ((sortK s.ho).map V.str))) := same_upd hl
  have hl1 : upd H l (.lst ((sortK s.ho).map V.str)) l = some (.lst ((sortK s.ho).map V.str)) := upd_same
  have e1 : upd H l (.lst ((sortS (he.map fun k => k.1)).map V.str)) = upd H l (.lst ((sortK s.ho).map V.str)) := by unfold sortK; rw [← aw.hs, hsOf_keys]
  rw [e1]
  generalize upd H l (.lst ((sortK s.ho).map V.str)) = H1 at s1 hl1
  have lK : (sortK s.ho).length ≤ 1000 := by rw [sortK_len]; exact la
  refine ⟨⟨_, sq hl1⟩, fun D hD => ?_⟩
  refine lc_it (walk_list (K := K) (a := l) (xs := (sortK s.ho).map V.str)) (Pv := fun i H' => ∃ xs, Same H1 H' ∧ H' D = some (.lst xs) ∧ DtAll K H' none xs (((sortK s.ho).take i).map (rowH s.ho))) ⟨[], same_upd hD, upd_same, .nil⟩ (fun _ _ _ h => by obtain ⟨_, h, _⟩ := h; exact sq (h _ _ hl1)) (fun i x H6 H7 hi hp2 hy => ?_) (fun H6 hp2 => ?_)
  · obtain ⟨xs, s6, hD6, hx6⟩ := hp2
    obtain ⟨rfl, gx⟩ := hy
    rw [List.length_map] at hi
    rw [List.getElem?_map, List.getElem?_eq_getElem hi] at gx
    obtain rfl : V.str (sortK s.ho)[i] = x := Option.some.inj gx
    obtain ⟨y, gy, mk⟩ := sortK_get hok (List.getElem_mem hi)
    have ht : (sortK s.ho).take (i + 1) = (sortK s.ho).take i ++ [(sortK s.ho)[i]] := by rw [List.take_add_one, List.getElem?_eq_getElem hi]; rfl
    have a6 := aw.at_.on (s1.trans s6)
    obtain ⟨dx6, g6⟩ := a6.ins
    rw [ht, List.map_append]
    generalize (sortK s.ho)[i] = c at gy mk
    have e3 : rowH s.ho c = .tuple [.str c, .str y.1, .str y.2.1, .int y.2.2] := by unfold rowH; rw [gy]
    have hc := sh.2 _ mk
    have gh := gA_hsOf he c
    rw [aw.hs, gy] at gh
    obtain ⟨x, gk, ex⟩ := Option.map_eq_some_iff.mp gh.symm
    have htx := a6.tp _ (gA_some gk)
    subst ex
    refine ⟨rfl, tyes ?_⟩
    walk_at "rds"
    intro t0 ht0
    have st0 := same_upd (o := .tup [.str c]) ht0
    have e0 : upd H7 t0 (.tup [.str c]) t0 = some (.tup [.str c]) := upd_same
    have a7 := a6.on st0
    have hD7 := st0 _ _ hD6
    have hx7 := hx6.on st0
    have s7 := s6.trans st0
    have htx7 := st0 _ _ htx
    generalize upd H7 t0 (.tup [V.str c]) = H8 at e0 a7 hD7 hx7 s7 htx7
    obtain ⟨dx7, g7⟩ := a7.ins
    walk_at "rds"
    refine ⟨p, _, dx7, _, _, rfl, g7, T.cl_Accounts, T.na_Accounts__holds, rfl, ?_⟩
    walk_at "rds"
    refine ⟨h, _, rfl, .inl ⟨_, Sum.inr c, .inl a7.ho, rfl, by rw [ho_val, gk]; rfl⟩, ?_⟩
    have dA : Dt K H8 none (.ref t0) (.tuple [.str c]) := .tup (.inl e0) (.cons (.str _ (Nat.le_trans hc.1.1 (by decide))) .nil)
    have dB : Dt K H8 none (.ref x.1) (.tuple [.str x.2.1, .str x.2.2.1, .int x.2.2.2]) := .tup (.inl htx7) (.cons (.str _ (Nat.le_trans hc.2.1.1 (by decide))) (.cons (.str _ (Nat.le_trans hc.2.2.1 (by decide))) (.cons (.int _) .nil)))
    refine cat_dt dA dB (by show 1 + 3 ≤ 100000; decide) fun H9 v9 s9 d9 => ?_
    have hD9 := s9 _ _ hD7
    have hxl : xs.length ≤ i := by rw [hx6.length, List.length_map, List.length_take]; omega
    refine ⟨xs, hD9, sz1000' (by omega), xs ++ [v9], same_mut (s7.trans s9) hD, upd_same, ?_⟩
    have hdt : Dt K H9 none v9 (rowH s.ho c) := by rw [e3]; exact d9
    refine DtAll.keep (tp_put hD9) _ _ (noLs_all fun d hd => ?_) ((hx7.on s9).snoc hdt)
    rcases List.mem_append.mp hd with hd | hd
    · obtain ⟨z, _, rfl⟩ := List.mem_map.mp hd; exact rowH_noL z
    · rw [List.mem_singleton.mp hd]; exact rowH_noL c
  · obtain ⟨xs, s6, hD6, hx6⟩ := hp2
    rw [List.length_map, List.take_of_length_le (Nat.le_refl _)] at hx6
    exact q xs H6 D (s1.trans s6) (same_none s1 hD) hD6 hx6
end

def spAcBal (B C : Addr) (f : Int × Int → Int) : Sp := fun vs H Q E => ∃ (p n b h : Addr) (he : HE) (s : AS) (k : Str), vs = [.ref p, .str k] ∧ AW C H p n b h he s ∧ (gA s.ac k = none → Rz B H E "missing") ∧ ∀ x, gA s.ac k = some x → Q (.int (f x)) H
section
variable {P : Program} {w : World} {K : PySem.W.Frag} {mg : Str → Option Value} {base : Heap}
theorem m_Accounts__balance {C_Accounts : Addr} {C_Sessions : Addr} {C_Store : Addr} {C_State : Addr} {C_BadText : Addr} {C_Refused : Addr} {C_BadCommand : Addr} {C_VERBS : Addr} (T : Txt K mg w C_Accounts C_Sessions C_Store C_State C_BadText C_Refused C_BadCommand C_VERBS) : MetX P w K mg base 4 C_Accounts "balance" (spAcBal C_Refused C_Accounts (·.2)) := by
  have m_Accounts___check := m_Accounts___check (P := P) (w := w) (base := base) T
  refine metX T.cl_Accounts T.me_Accounts__balance sc_Accounts__balance (fun vs H Q E h => ?_) (fun f cdv A outer s H vs Q E hr h => ?_)
  · obtain ⟨p, n, b, h, he, s, k, rfl, _⟩ := h; rfl
  obtain ⟨p, n, b, h, he, s, k, rfl, aw, no, q⟩ := h
  obtain ⟨dx, g⟩ := aw.at_.ins
  refine ⟨_, (pss_cons (ps_expr (pe_mtX m_Accounts___check hr (by decide) (fun σ => passAt (takes_of rfl rfl rfl rfl) σ) (pv 0) (pa_cons (pv 1) pa_nil)))
      (pss_one (ps_ret (pe_dget (by exact hu_of hr) (pe_fld (pv 0) rfl) (pv 1) (fun _ _ => rfl))))), ?_⟩
  walk_at "rds"
  refine ⟨p, dx, _, rfl, g, rfl, ?_⟩
  walk_at "rds"
  refine ⟨p, n, b, h, he, s, k, rfl, aw, ?_⟩
  unfold chk
  cases gk : gA s.ac k with
  | none => exact no gk
  | some x =>
    walk_at "rds"
    refine ⟨p, _, dx, _, _, rfl, g, T.cl_Accounts, T.na_Accounts__balances, rfl, ?_⟩
    walk_at "rds"
    refine ⟨b, _, rfl, .inl ⟨_, Sum.inr k, .inl aw.at_.ba, rfl, by rw [ba_val, gk]; rfl⟩, ?_⟩
    exact q x gk
end

def spAcClone (C : Addr) : Sp := fun vs H Q _ => ∃ (p n b h : Addr) (he : HE) (s : AS), vs = [.ref p] ∧ AW C H p n b h he s ∧
  ∀ H' p' n' b' h', Same H H' → H p' = none → H n' = none → H b' = none → H h' = none → AcAt C H' p' n' b' h' s.ac he s.su → Q (.ref p') H'
section
variable {P : Program} {w : World} {K : PySem.W.Frag} {mg : Str → Option Value} {base : Heap}
theorem m_Accounts__clone {C_Accounts : Addr} {C_Sessions : Addr} {C_Store : Addr} {C_State : Addr} {C_BadText : Addr} {C_Refused : Addr} {C_BadCommand : Addr} {C_VERBS : Addr} (T : Txt K mg w C_Accounts C_Sessions C_Store C_State C_BadText C_Refused C_BadCommand C_VERBS) : Met P w K mg base 3 C_Accounts "clone" (spAcClone C_Accounts) [] := by
  have k_Accounts := k_Accounts (P := P) (w := w) (base := base) T
  refine met T.cl_Accounts T.me_Accounts__clone sc_Accounts__clone (fun vs H Q E h => ?_) (fun f cdv A outer s H vs Q E hr h => ?_)
  · obtain ⟨p, n, b, h, he, s, rfl, _⟩ := h; rfl
  obtain ⟨p, n, b, h, he, s, rfl, aw, q⟩ := h
  refine ⟨_, (pss_cons (ps_set (i := 1) sc_Accounts__clone.nd rfl (Or.inl rfl) (pe_mk0 k_Accounts hr (by decide) (by rfl)))
      (pss_cons (ps_fld (pv 1) (pe_callTy call_dictD (by rfl) T.z_dict (by decide +kernel) (pa_cons (pe_fld (pv 0) rfl) pa_nil)) rfl)
      (pss_cons (ps_fld (pv 1) (pe_callTy call_dictD (by rfl) T.z_dict (by decide +kernel) (pa_cons (pe_fld (pv 0) rfl) pa_nil)) rfl)
      (pss_cons (ps_fld (pv 1) (pe_callTy call_dictD (by rfl) T.z_dict (by decide +kernel) (pa_cons (pe_fld (pv 0) rfl) pa_nil)) rfl)
      (pss_cons (ps_fld (pv 1) (pe_fld (pv 0) rfl) rfl)
      (pss_one (ps_ret (pv 1)))))))), ?_⟩
  walk_at "rds"
  intro p2 dx2 hp2 hdx2 hne2
  refine ⟨p2, dx2, rfl, upd_same, fun H1 n2 b2 h2 kp hn2 hb2 hh2 a2 => ⟨rfl, ?_⟩⟩
  have s1 : Same H H1 := Same.made hp2 hdx2 kp
  obtain ⟨dx3, g2⟩ := a2.ins
  have a0 := aw.at_
  clear kp hn2 hb2 hh2 a2 hdx2 hne2
  obtain ⟨dx, g⟩ := (a0.on s1).ins
  have aH1 := a0.on s1
  walk_at "rds"
  refine ⟨p, _, dx, _, _, rfl, g, T.cl_Accounts, T.na_Accounts__owners, rfl, ?_⟩
  walk_at "rds"
  refine ⟨n, _, rfl, .inl aH1.ow, fun n3 hn3 => ?_⟩
  walk_at "rds"
  refine ⟨p2, _, dx3, _, rfl, (same_upd hn3) _ _ g2, T.cl_Accounts, T.na_Accounts__owners, (by show 4 < 1000; decide), ?_⟩
  have fn3 := same_none s1 hn3
  have s2 : Same H (upd (upd H1 n3 (.dK (aowD s.ac))) p2 (.ins C_Accounts dx3 (acF n3 b2 h2 0))) := same_mut (s1.trans (same_upd hn3)) hp2
  have p2n : p2 ≠ n3 := ne_of_none g2 hn3
  have en3 : (upd (upd H1 n3 (.dK (aowD s.ac))) p2 (.ins C_Accounts dx3 (acF n3 b2 h2 0))) n3 = some (.dK (aowD s.ac)) := by rw [upd_ne p2n.symm]; exact upd_same
  have g3 : (upd (upd H1 n3 (.dK (aowD s.ac))) p2 (.ins C_Accounts dx3 (acF n3 b2 h2 0))) p2 = some (.ins C_Accounts dx3 (acF n3 b2 h2 0)) := upd_same
  have eF : upd (upd H1 n3 (.dK (aowD s.ac))) p2 (.ins C_Accounts dx3 (putF "_owners" (.ref n3) (acF n2 b2 h2 0))) = upd (upd H1 n3 (.dK (aowD s.ac))) p2 (.ins C_Accounts dx3 (acF n3 b2 h2 0)) := rfl
  rw [eF]
  generalize upd (upd H1 n3 (.dK (aowD s.ac))) p2 (.ins C_Accounts dx3 (acF n3 b2 h2 0)) = H2 at s2 en3 g3
  have aH2 := a0.on s2
  obtain ⟨dx4, g4⟩ := aH2.ins
  walk_at "rds"
  refine ⟨p, _, dx4, _, _, rfl, g4, T.cl_Accounts, T.na_Accounts__balances, rfl, ?_⟩
  walk_at "rds"
  refine ⟨b, _, rfl, .inl aH2.ba, fun b3 hb3 => ?_⟩
  walk_at "rds"
  refine ⟨p2, _, dx3, _, rfl, (same_upd hb3) _ _ g3, T.cl_Accounts, T.na_Accounts__balances, (by show 4 < 1000; decide), ?_⟩
  have fb3 := same_none s2 hb3
  have s3 : Same H (upd (upd H2 b3 (.dK (baD s.ac))) p2 (.ins C_Accounts dx3 (acF n3 b3 h2 0))) := same_mut (s2.trans (same_upd hb3)) hp2
  have p2b : p2 ≠ b3 := ne_of_none g3 hb3
  have nb : n3 ≠ b3 := ne_of_none en3 hb3
  have en4 : (upd (upd H2 b3 (.dK (baD s.ac))) p2 (.ins C_Accounts dx3 (acF n3 b3 h2 0))) n3 = some (.dK (aowD s.ac)) := by rw [upd_ne p2n.symm, upd_ne nb]; exact en3
  have eb4 : (upd (upd H2 b3 (.dK (baD s.ac))) p2 (.ins C_Accounts dx3 (acF n3 b3 h2 0))) b3 = some (.dK (baD s.ac)) := by rw [upd_ne p2b.symm]; exact upd_same
  have g5 : (upd (upd H2 b3 (.dK (baD s.ac))) p2 (.ins C_Accounts dx3 (acF n3 b3 h2 0))) p2 = some (.ins C_Accounts dx3 (acF n3 b3 h2 0)) := upd_same
  have eF2 : upd (upd H2 b3 (.dK (baD s.ac))) p2 (.ins C_Accounts dx3 (putF "_balances" (.ref b3) (acF n3 b2 h2 0))) = upd (upd H2 b3 (.dK (baD s.ac))) p2 (.ins C_Accounts dx3 (acF n3 b3 h2 0)) := rfl
  rw [eF2]
  generalize upd (upd H2 b3 (.dK (baD s.ac))) p2 (.ins C_Accounts dx3 (acF n3 b3 h2 0)) = H3 at s3 en4 eb4 g5
  have aH3 := a0.on s3
  obtain ⟨dx5, g6⟩ := aH3.ins
  walk_at "rds"
  refine ⟨p, _, dx5, _, _, rfl, g6, T.cl_Accounts, T.na_Accounts__holds, rfl, ?_⟩
  walk_at "rds"
  refine ⟨h, _, rfl, .inl aH3.ho, fun h3 hh3 => ?_⟩
  walk_at "rds"
  refine ⟨p2, _, dx3, _, rfl, (same_upd hh3) _ _ g5, T.cl_Accounts, T.na_Accounts__holds, (by show 4 < 1000; decide), ?_⟩
  have fh3 := same_none s3 hh3
  have s4 : Same H (upd (upd H3 h3 (.dK (hoD he))) p2 (.ins C_Accounts dx3 (acF n3 b3 h3 0))) := same_mut (s3.trans (same_upd hh3)) hp2
  have p2h : p2 ≠ h3 := ne_of_none g5 hh3
  have nh : n3 ≠ h3 := ne_of_none en4 hh3
  have bh : b3 ≠ h3 := ne_of_none eb4 hh3
  have en5 : (upd (upd H3 h3 (.dK (hoD he))) p2 (.ins C_Accounts dx3 (acF n3 b3 h3 0))) n3 = some (.dK (aowD s.ac)) := by rw [upd_ne p2n.symm, upd_ne nh]; exact en4
  have eb5 : (upd (upd H3 h3 (.dK (hoD he))) p2 (.ins C_Accounts dx3 (acF n3 b3 h3 0))) b3 = some (.dK (baD s.ac)) := by rw [upd_ne p2b.symm, upd_ne bh]; exact eb4
  have eh5 : (upd (upd H3 h3 (.dK (hoD he))) p2 (.ins C_Accounts dx3 (acF n3 b3 h3 0))) h3 = some (.dK (hoD he)) := by rw [upd_ne p2h.symm]; exact upd_same
  have g7 : (upd (upd H3 h3 (.dK (hoD he))) p2 (.ins C_Accounts dx3 (acF n3 b3 h3 0))) p2 = some (.ins C_Accounts dx3 (acF n3 b3 h3 0)) := upd_same
  have eF3 : upd (upd H3 h3 (.dK (hoD he))) p2 (.ins C_Accounts dx3 (putF "_holds" (.ref h3) (acF n3 b3 h2 0))) = upd (upd H3 h3 (.dK (hoD he))) p2 (.ins C_Accounts dx3 (acF n3 b3 h3 0)) := rfl
  rw [eF3]
  generalize upd (upd H3 h3 (.dK (hoD he))) p2 (.ins C_Accounts dx3 (acF n3 b3 h3 0)) = H4 at s4 en5 eb5 eh5 g7
  have aH4 := a0.on s4
  obtain ⟨dx6, g8⟩ := aH4.ins
  walk_at "rds"
  refine ⟨p, _, dx6, _, _, rfl, g8, T.cl_Accounts, T.na_Accounts__supply, rfl, ?_⟩
  walk_at "rds"
  refine ⟨p2, _, dx3, _, rfl, g7, T.cl_Accounts, T.na_Accounts__supply, (by show 4 < 1000; decide), ?_⟩
  walk_at "rds"
  have s5 := same_mut (o := .ins C_Accounts dx3 (acF n3 b3 h3 s.su)) s4 hp2
  exact q _ p2 n3 b3 h3 s5 hp2 fn3 fb3 fh3 ⟨⟨dx3, upd_same⟩, by rw [upd_ne p2n.symm]; exact en5, by rw [upd_ne p2b.symm]; exact eb5, by rw [upd_ne p2h.symm]; exact eh5, fun e m => by rw [upd_ne (ne_of (aH4.tp e m) g7 (by intro z; cases z))]; exact aH4.tp e m, nb, nh, bh⟩
end

/-! ### sums -/
def sumI (l : List Int) : Int := l.foldr (· + ·) 0
theorem sumI_cons (a : Int) (l : List Int) : sumI (a :: l) = a + sumI l := rfl
theorem sumI_app (l m : List Int) : sumI (l ++ m) = sumI l + sumI m := by
  induction l with
  | nil => show _ = 0 + _; rw [List.nil_append]; omega
  | cons a r ih => rw [List.cons_append, sumI_cons, sumI_cons, ih]; omega
theorem sumI_perm {l m : List Int} (h : l.Perm m) : sumI l = sumI m := by
  induction h with
  | nil => rfl
  | cons a _ ih => rw [sumI_cons, sumI_cons, ih]
  | swap a b l => rw [sumI_cons, sumI_cons, sumI_cons, sumI_cons]; omega
  | trans _ _ i1 i2 => exact i1.trans i2
theorem sumI_nonneg : ∀ {l : List Int}, (∀ x ∈ l, 0 ≤ x) → 0 ≤ sumI l
  | [], _ => Int.le_refl _
  | a :: r, h => by
    have h1 := h a List.mem_cons_self
    have h2 := sumI_nonneg (l := r) fun x m => h x (List.mem_cons_of_mem _ m)
    rw [sumI_cons]; omega
section
variable {α : Type} (f : α → Int)
def sumF (ks : List (Str × α)) : Int := sumI (ks.map fun e => f e.2)
theorem sumF_new {ks : List (Str × α)} {c : Str} {y : α} (g : gA ks c = none) : sumF f (pA ks c y) = sumF f ks + f y := by
  unfold pA
  rw [if_neg (fun z => gA_none.mp g (any_mem.mp z))]
  unfold sumF
  rw [List.map_append, sumI_app]
  show _ + (f y + 0) = _
  omega
theorem sum_same : ∀ {ks : List (Str × α)} {c : Str} {y : α}, c ∉ ks.map (·.1) → sumI ((ks.map fun k => if k.1 = c then (k.1, y) else k).map fun e => f e.2) = sumI (ks.map fun e => f e.2)
  | [], _, _, _ => rfl
  | e :: r, c, y, h => by
    have h1 : e.1 ≠ c := fun z => h (by rw [← z]; exact List.mem_cons_self)
    have h2 : c ∉ r.map (·.1) := fun z => h (List.mem_cons_of_mem _ z)
    rw [List.map_cons, List.map_cons, List.map_cons, sumI_cons, sumI_cons, sum_same (ks := r) h2, if_neg h1]
theorem sum_map : ∀ {ks : List (Str × α)} {c : Str} {x y : α}, kOk ks → gA ks c = some x → sumI ((ks.map fun k => if k.1 = c then (k.1, y) else k).map fun e => f e.2) = sumI (ks.map fun e => f e.2) - f x + f y
  | e :: r, c, x, y, ok, g => by
    have ok' : kOk (e :: r) := ok
    unfold kOk at ok'
    rw [List.map_cons, List.nodup_cons] at ok'
    rw [List.map_cons, List.map_cons, List.map_cons, sumI_cons, sumI_cons]
    by_cases h : e.1 = c
    · have gx : x = e.2 := by
        unfold gA at g
        rw [List.find?_cons, decide_eq_true h] at g
        exact (Option.some.inj g).symm
      rw [if_pos h, sum_same f (by rw [← h]; exact ok'.1), gx]
      show f y + _ = _
      omega
    · rw [if_neg h]
      have g' : gA r c = some x := by
        unfold gA at g ⊢
        rw [List.find?_cons, decide_eq_false h] at g
        exact g
      rw [sum_map (ks := r) ok'.2 g']
      omega
theorem sumF_put {ks : List (Str × α)} {c : Str} {x y : α} (ok : kOk ks) (g : gA ks c = some x) : sumF f (pA ks c y) = sumF f ks - f x + f y := by
  have m : c ∈ ks.map (·.1) := List.mem_map.mpr ⟨_, gA_some g, rfl⟩
  unfold pA
  rw [if_pos (any_mem.mpr m)]
  exact sum_map f ok g
theorem rm_same : ∀ {ks : List (Str × α)} {c : Str}, c ∉ ks.map (·.1) → rmA ks c = ks
  | [], _, _ => rfl
  | e :: r, c, h => by
    have h1 : e.1 ≠ c := fun z => h (by rw [← z]; exact List.mem_cons_self)
    have h2 : c ∉ r.map (·.1) := fun z => h (List.mem_cons_of_mem _ z)
    have ih := rm_same (ks := r) h2
    unfold rmA at ih ⊢
    rw [List.filter_cons, if_pos (decide_eq_true h1), ih]
theorem sumF_rm : ∀ {ks : List (Str × α)} {c : Str} {x : α}, kOk ks → gA ks c = some x → sumF f (rmA ks c) = sumF f ks - f x
  | e :: r, c, x, ok, g => by
    have ok' : kOk (e :: r) := ok
    unfold kOk at ok'
    rw [List.map_cons, List.nodup_cons] at ok'
    by_cases h : e.1 = c
    · have gx : x = e.2 := by
        unfold gA at g
        rw [List.find?_cons, decide_eq_true h] at g
        exact (Option.some.inj g).symm
      have e1 : rmA (e :: r) c = r := by
        have := rm_same (ks := r) (c := c) (by rw [← h]; exact ok'.1)
        unfold rmA at this ⊢
        rw [List.filter_cons, if_neg (by simp [h]), this]
      rw [e1, gx]
      unfold sumF
      rw [List.map_cons, sumI_cons]
      omega
    · have g' : gA r c = some x := by
        unfold gA at g ⊢
        rw [List.find?_cons, decide_eq_false h] at g
        exact g
      have e1 : rmA (e :: r) c = e :: rmA r c := by unfold rmA; rw [List.filter_cons, if_pos (by simp [h])]
      have ih := sumF_rm (ks := r) ok'.2 g'
      rw [e1]
      unfold sumF at ih ⊢
      rw [List.map_cons, List.map_cons, sumI_cons, sumI_cons, ih]
      omega
end
def sB (ac : AB) : Int := sumF (fun x : Int × Int => x.2) ac
def sH (ho : HS) : Int := sumF (fun x : Str × Str × Int => x.2.2) ho
/-- what always holds -/
structure AInv (s : AS) (m : Nat) : Prop where
  ok : kOk s.ac
  okh : kOk s.ho
  len : s.ac.length ≤ m
  hlen : s.ho.length ≤ m
  src : ∀ e ∈ s.ho, gA s.ac e.2.1 ≠ none ∧ gA s.ac e.2.2.1 ≠ none
  pos : ∀ e ∈ s.ac, 0 ≤ e.2.2
  hpos : ∀ e ∈ s.ho, 0 ≤ e.2.2.2
  sum : sB s.ac + sH s.ho = s.su
  lim : s.su ≤ 1000000000000000
  sh : ShA s
/-- an operation -/
structure OpA where
  verb : Str
  c : Int
  x : Str
  y : Str
  a : Int
  k : Str
structure OpAOk (o : OpA) : Prop where
  verb : o.verb = "create" ∨ o.verb = "issue" ∨ o.verb = "burn" ∨ o.verb = "pay" ∨ o.verb = "hold" ∨ o.verb = "settle" ∨ o.verb = "release" ∨ o.verb = "close"
  x : Tx o.x
  y : Tx o.y
  a : 0 ≤ o.a
  k : Tx o.k
  ne : o.x ≠ ""
def acOp (s : AS) (o : OpA) : Sum Str AS := if o.verb = "create" then opCreate s o.c o.x else if o.verb = "close" then opClose s o.c o.x else if o.verb = "issue" then opIssue s o.c o.x o.a else if o.verb = "burn" then opBurn s o.c o.x o.a else if o.verb = "pay" then opPay s o.c o.x o.y o.a else if o.verb = "hold" then opHold s o.c o.x o.y o.a o.k else if o.verb = "settle" then opSettle s o.c o.k else opRelease s o.c o.k
/-- a balance is changed -/
theorem AInv.addB_pos {s : AS} {m : Nat} (h : AInv s m) {n : Str} {x : Int × Int} {d : Int} (g : gA s.ac n = some x) (hd : 0 ≤ x.2 + d) : ∀ e ∈ addB s.ac n d, 0 ≤ e.2.2 := fun e me => by
  rw [addB_some g] at me
  rcases pA_mem me with rfl | ⟨me, _⟩
  · exact hd
  · exact h.pos e me
theorem addB_sum {ac : AB} {n : Str} {x : Int × Int} {d : Int} (ok : kOk ac) (g : gA ac n = some x) : sB (addB ac n d) = sB ac + d := by
  unfold sB
  rw [addB_some g, sumF_put _ ok g]
  show _ - x.2 + (x.2 + d) = _
  omega
theorem addB_keys {ac : AB} {n : Str} {d : Int} {e : Str × (Int × Int)} (m : e ∈ addB ac n d) : ∃ e' ∈ ac, e'.1 = e.1 := by
  unfold addB at m
  split at m
  · exact ⟨e, m, rfl⟩
  · rename_i x g
    rcases pA_mem m with rfl | ⟨m, _⟩
    · exact ⟨_, gA_some g, rfl⟩
    · exact ⟨e, m, rfl⟩
theorem gA_posB {s : AS} {m : Nat} (h : AInv s m) {n : Str} {x : Int × Int} (g : gA s.ac n = some x) : 0 ≤ x.2 := h.pos _ (gA_some g)
theorem chkF_none {s : AS} {n : Str} {a : Int} {x : Int × Int} (g : gA s.ac n = some x) (h : chkF s n a = none) : a ≤ x.2 := by
  unfold chkF at h
  rw [g] at h
  have h : (if x.2 < a then some ("funds" : Str) else none) = none := h
  by_cases e : x.2 < a
  · rw [if_pos e] at h; cases h
  · omega
theorem chkP_none2 {s : AS} {c : Int} {x y : Str} {a : Int} (h : chkP s c x y a = none) : ∃ u v, gA s.ac x = some u ∧ gA s.ac y = some v ∧ a ≤ u.2 := by
  obtain ⟨⟨u, gu⟩, v, gv⟩ := chkP_none h
  refine ⟨u, v, gu, gv, chkF_none gu ?_⟩
  unfold chkP at h
  cases e1 : chk s y with
  | some z => rw [e1] at h; cases h
  | none =>
    rw [e1] at h
    dsimp only at h
    cases e2 : chkO s c x with
    | some z => rw [e2] at h; cases h
    | none => rw [e2] at h; exact h
/-- balances and holds change, the accounts stay -/
theorem AInv.upd {s s' : AS} {m : Nat} (h : AInv s m) (ok : kOk s'.ac) (okh : kOk s'.ho) (len : s'.ac.length ≤ m + 1) (hlen : s'.ho.length ≤ m + 1) (src : ∀ e ∈ s'.ho, gA s'.ac e.2.1 ≠ none ∧ gA s'.ac e.2.2.1 ≠ none)
    (pos : ∀ e ∈ s'.ac, 0 ≤ e.2.2) (hpos : ∀ e ∈ s'.ho, 0 ≤ e.2.2.2) (sum : sB s'.ac + sH s'.ho = s'.su) (lim : s'.su ≤ 1000000000000000) (sh : ShA s') : AInv s' (m + 1) := ⟨ok, okh, len, hlen, src, pos, hpos, sum, lim, sh⟩

/-! ### each operation keeps what always holds -/
theorem create_inv {s s' : AS} {m : Nat} {c : Int} {n : Str} (h : AInv s m) (tn : Tx n) (e : opCreate s c n = .inr s') : AInv s' (m + 1) ∧ s'.su = s.su := by
  unfold opCreate at e
  cases g : gA s.ac n with
  | some x => rw [g] at e; cases e
  | none =>
    rw [g] at e
    have e : (if 100 ≤ s.ac.length then (.inl "full" : Sum Str AS) else .inr { s with ac := pA s.ac n (c, 0) }) = .inr s' := e
    by_cases l : 100 ≤ s.ac.length
    · rw [if_pos l] at e; cases e
    rw [if_neg l] at e
    cases e
    refine ⟨h.upd (pA_ok _ _ h.ok) h.okh (by have := pA_len s.ac n (c, 0); have := h.len; show (pA s.ac n (c, 0)).length ≤ m + 1; omega) (Nat.le_succ_of_le h.hlen) (fun e me => ?_) (fun e me => ?_) h.hpos ?_ h.lim ⟨fun e me => ?_, h.sh.2⟩, rfl⟩
    · have := h.src e me
      refine ⟨?_, ?_⟩
      · show gA (pA s.ac n (c, 0)) _ ≠ none
        rw [gA_put h.ok]; split
        · intro z; cases z
        · exact this.1
      · show gA (pA s.ac n (c, 0)) _ ≠ none
        rw [gA_put h.ok]; split
        · intro z; cases z
        · exact this.2
    · rcases pA_mem me with rfl | ⟨me, _⟩
      · exact Int.le_refl _
      · exact h.pos e me
    · have e1 : sB (pA s.ac n (c, 0)) = sB s.ac + 0 := sumF_new _ g
      have := h.sum
      show sB (pA s.ac n (c, 0)) + sH s.ho = s.su
      omega
    · rcases pA_mem me with rfl | ⟨me, _⟩
      · exact tn
      · exact h.sh.1 e me
theorem heldB_false {ho : HS} {n : Str} (h : heldB ho n = false) : ∀ e ∈ ho, e.2.1 ≠ n ∧ e.2.2.1 ≠ n := fun e me => by
  have := List.any_eq_false.mp h e me
  simp at this
  exact this
theorem close_inv {s s' : AS} {m : Nat} {c : Int} {n : Str} (h : AInv s m) (e : opClose s c n = .inr s') : AInv s' (m + 1) ∧ s'.su = s.su := by
  unfold opClose at e
  cases e1 : chkO s c n with
  | some z => rw [e1] at e; cases e
  | none =>
    rw [e1] at e
    dsimp only at e
    cases g : gA s.ac n with
    | none => rw [g] at e; cases e
    | some x =>
      rw [g] at e
      dsimp only at e
      by_cases l : x.2 ≠ 0 ∨ heldB s.ho n = true
      · rw [if_pos l] at e; cases e
      rw [if_neg l] at e
      cases e
      have x0 : x.2 = 0 := by
        cases d : decide (x.2 = 0) with
        | true => exact of_decide_eq_true d
        | false => exact absurd (.inl (of_decide_eq_false d)) l
      have hb : heldB s.ho n = false := by
        cases d : heldB s.ho n with
        | true => exact absurd (.inr d) l
        | false => rfl
      have nh := heldB_false hb
      refine ⟨h.upd (rmA_ok _ h.ok) h.okh (by have := rmA_len s.ac n; have := h.len; show (rmA s.ac n).length ≤ m + 1; omega) (Nat.le_succ_of_le h.hlen) (fun e me => ?_) (fun e me => h.pos e (List.mem_filter.mp me).1) h.hpos ?_ h.lim ⟨fun e me => h.sh.1 e (List.mem_filter.mp me).1, h.sh.2⟩, rfl⟩
      · have := h.src e me
        have nn := nh e me
        refine ⟨?_, ?_⟩
        · show gA (rmA s.ac n) _ ≠ none
          rw [gA_rmA, if_neg nn.1]; exact this.1
        · show gA (rmA s.ac n) _ ≠ none
          rw [gA_rmA, if_neg nn.2]; exact this.2
      · have e1 : sB (rmA s.ac n) = sB s.ac - x.2 := sumF_rm _ h.ok g
        have := h.sum
        show sB (rmA s.ac n) + sH s.ho = s.su
        omega
/-- a balance of an account that is there goes up or down -/
theorem bal_inv {s : AS} {m : Nat} (h : AInv s m) {n : Str} {x : Int × Int} {d : Int} (g : gA s.ac n = some x) (hd : 0 ≤ x.2 + d) : kOk (addB s.ac n d) ∧ (addB s.ac n d).length ≤ m ∧ (∀ k, gA s.ac k ≠ none → gA (addB s.ac n d) k ≠ none) ∧ (∀ e ∈ addB s.ac n d, 0 ≤ e.2.2) ∧ (∀ e ∈ addB s.ac n d, Tx e.1) :=
  ⟨addB_ok n d h.ok, by rw [addB_len (by rw [g]; intro z; cases z)]; exact h.len, fun k gk => addB_get h.ok gk, h.addB_pos g hd, fun e me => by
    obtain ⟨e', me', ee⟩ := addB_keys me
    rw [← ee]; exact h.sh.1 e' me'⟩
theorem issue_inv {s s' : AS} {m : Nat} {c : Int} {n : Str} {a : Int} (h : AInv s m) (a0 : 0 ≤ a) (e : opIssue s c n a = .inr s') : AInv s' (m + 1) ∧ s'.su = s.su + a := by
  unfold opIssue at e
  by_cases h1 : c = -1
  case neg => rw [if_pos h1] at e; cases e
  rw [if_neg (fun n => n h1)] at e
  cases e1 : chk s n with
  | some z => rw [e1] at e; cases e
  | none =>
    rw [e1] at e
    dsimp only at e
    obtain ⟨x, g⟩ := chk_none e1
    by_cases l : 1000000000000000 < s.su + a
    · rw [if_pos l] at e; cases e
    rw [if_neg l] at e
    cases e
    have hp := gA_posB h g
    obtain ⟨b1, b2, b3, b4, b5⟩ := bal_inv h g (d := a) (by omega)
    refine ⟨h.upd b1 h.okh (Nat.le_succ_of_le b2) (Nat.le_succ_of_le h.hlen) (fun e me => ⟨b3 _ (h.src e me).1, b3 _ (h.src e me).2⟩) b4 h.hpos ?_ (by show s.su + a ≤ _; omega) ⟨b5, h.sh.2⟩, rfl⟩
    show sB (addB s.ac n a) + sH s.ho = s.su + a
    rw [addB_sum h.ok g]
    have := h.sum
    omega
theorem burn_inv {s s' : AS} {m : Nat} {c : Int} {n : Str} {a : Int} (h : AInv s m) (a0 : 0 ≤ a) (e : opBurn s c n a = .inr s') : AInv s' (m + 1) ∧ s'.su = s.su - a := by
  unfold opBurn at e
  cases e1 : chkO s c n with
  | some z => rw [e1] at e; cases e
  | none =>
    rw [e1] at e
    dsimp only at e
    cases e2 : chkF s n a with
    | some z => rw [e2] at e; cases e
    | none =>
      rw [e2] at e
      cases e
      obtain ⟨x, g, _⟩ := chkO_none e1
      have hf := chkF_none g e2
      obtain ⟨b1, b2, b3, b4, b5⟩ := bal_inv h g (d := -a) (by omega)
      refine ⟨h.upd b1 h.okh (Nat.le_succ_of_le b2) (Nat.le_succ_of_le h.hlen) (fun e me => ⟨b3 _ (h.src e me).1, b3 _ (h.src e me).2⟩) b4 h.hpos ?_ (by have := h.lim; show s.su - a ≤ _; omega) ⟨b5, h.sh.2⟩, rfl⟩
      show sB (addB s.ac n (-a)) + sH s.ho = s.su - a
      rw [addB_sum h.ok g]
      have := h.sum
      omega
theorem pay_inv {s s' : AS} {m : Nat} {c : Int} {x y : Str} {a : Int} (h : AInv s m) (a0 : 0 ≤ a) (e : opPay s c x y a = .inr s') : AInv s' (m + 1) ∧ s'.su = s.su := by
  unfold opPay at e
  cases e1 : chkP s c x y a with
  | some z => rw [e1] at e; cases e
  | none =>
    rw [e1] at e
    cases e
    obtain ⟨u, v, gu, gv, hf⟩ := chkP_none2 e1
    obtain ⟨b1, b2, b3, b4, b5⟩ := bal_inv h gu (d := -a) (by omega)
    have gy := b3 y (by rw [gv]; intro z; cases z)
    obtain ⟨v', gv'⟩ := some_of gy
    have hv' := b4 _ (gA_some gv')
    have hv' : 0 ≤ v'.2 := hv'
    refine ⟨h.upd (addB_ok _ _ b1) h.okh (by show (addB (addB s.ac x (-a)) y a).length ≤ m + 1; rw [addB_len gy]; omega) (Nat.le_succ_of_le h.hlen) (fun e me => ⟨addB_get b1 (b3 _ (h.src e me).1), addB_get b1 (b3 _ (h.src e me).2)⟩) (fun e me => ?_) h.hpos ?_ h.lim ⟨fun e me => ?_, h.sh.2⟩, rfl⟩
    · have me : e ∈ addB (addB s.ac x (-a)) y a := me
      rw [addB_some gv'] at me
      rcases pA_mem me with rfl | ⟨me, _⟩
      · show 0 ≤ v'.2 + a; omega
      · exact b4 e me
    · show sB (addB (addB s.ac x (-a)) y a) + sH s.ho = s.su
      rw [addB_sum b1 gv', addB_sum h.ok gu]
      have := h.sum
      omega
    · obtain ⟨e', me', ee⟩ := addB_keys me
      rw [← ee]; exact b5 e' me'
theorem hold_inv {s s' : AS} {m : Nat} {c : Int} {x y : Str} {a : Int} {k : Str} (h : AInv s m) (a0 : 0 ≤ a) (tx : Tx x) (ty : Tx y) (tk : Tx k) (e : opHold s c x y a k = .inr s') : AInv s' (m + 1) ∧ s'.su = s.su := by
  unfold opHold at e
  cases e1 : chkP s c x y a with
  | some z => rw [e1] at e; cases e
  | none =>
    rw [e1] at e
    dsimp only at e
    cases gk : gA s.ho k with
    | some z => rw [gk] at e; cases e
    | none =>
      rw [gk] at e
      dsimp only at e
      by_cases l : 100 ≤ s.ho.length
      · rw [if_pos l] at e; cases e
      rw [if_neg l] at e
      cases e
      obtain ⟨u, v, gu, gv, hf⟩ := chkP_none2 e1
      obtain ⟨b1, b2, b3, b4, b5⟩ := bal_inv h gu (d := -a) (by omega)
      refine ⟨h.upd b1 (pA_ok _ _ h.okh) (Nat.le_succ_of_le b2) (by have := pA_len s.ho k (x, y, a); have := h.hlen; show (pA s.ho k (x, y, a)).length ≤ m + 1; omega) (fun e me => ?_) b4 (fun e me => ?_) ?_ h.lim ⟨b5, fun e me => ?_⟩, rfl⟩
      · rcases pA_mem me with rfl | ⟨me, _⟩
        · exact ⟨b3 _ (by show gA s.ac x ≠ none; rw [gu]; intro z; cases z), b3 _ (by show gA s.ac y ≠ none; rw [gv]; intro z; cases z)⟩
        · exact ⟨b3 _ (h.src e me).1, b3 _ (h.src e me).2⟩
      · rcases pA_mem me with rfl | ⟨me, _⟩
        · exact a0
        · exact h.hpos e me
      · have e1 : sH (pA s.ho k (x, y, a)) = sH s.ho + a := sumF_new _ gk
        have := h.sum
        show sB (addB s.ac x (-a)) + sH (pA s.ho k (x, y, a)) = s.su
        rw [addB_sum h.ok gu]
        omega
      · rcases pA_mem me with rfl | ⟨me, _⟩
        · exact ⟨tk, tx, ty⟩
        · exact h.sh.2 e me
theorem free_inv {s : AS} {m : Nat} {k t : Str} {x : Str × Str × Int} (h : AInv s m) (gk : gA s.ho k = some x) (ht : t = x.1 ∨ t = x.2.1) : AInv { s with ac := addB s.ac t x.2.2, ho := rmA s.ho k } (m + 1) := by
  have mk := gA_some gk
  have hp := h.hpos _ mk
  have hp : 0 ≤ x.2.2 := hp
  obtain ⟨y, gy⟩ : ∃ y, gA s.ac t = some y := some_of (by rcases ht with rfl | rfl; exact (h.src _ mk).1; exact (h.src _ mk).2)
  have hy := gA_posB h gy
  obtain ⟨b1, b2, b3, b4, b5⟩ := bal_inv h gy (d := x.2.2) (by omega)
  refine h.upd b1 (rmA_ok _ h.okh) (Nat.le_succ_of_le b2) (by have := rmA_len s.ho k; have := h.hlen; show (rmA s.ho k).length ≤ m + 1; omega) (fun e me => ⟨b3 _ (h.src e (List.mem_filter.mp me).1).1, b3 _ (h.src e (List.mem_filter.mp me).1).2⟩) b4 (fun e me => h.hpos e (List.mem_filter.mp me).1) ?_ h.lim ⟨b5, fun e me => h.sh.2 e (List.mem_filter.mp me).1⟩
  have e1 : sH (rmA s.ho k) = sH s.ho - x.2.2 := sumF_rm _ h.okh gk
  have := h.sum
  show sB (addB s.ac t x.2.2) + sH (rmA s.ho k) = s.su
  rw [addB_sum h.ok gy]
  omega
theorem settle_inv {s s' : AS} {m : Nat} {c : Int} {k : Str} (h : AInv s m) (e : opSettle s c k = .inr s') : AInv s' (m + 1) ∧ s'.su = s.su := by
  unfold opSettle at e
  cases gk : gA s.ho k with
  | none => rw [gk] at e; cases e
  | some x =>
    rw [gk] at e
    dsimp only at e
    cases e1 : chkO s c x.1 with
    | some z => rw [e1] at e; cases e
    | none => rw [e1] at e; cases e; exact ⟨free_inv h gk (.inr rfl), rfl⟩
theorem release_inv {s s' : AS} {m : Nat} {c : Int} {k : Str} (h : AInv s m) (e : opRelease s c k = .inr s') : AInv s' (m + 1) ∧ s'.su = s.su := by
  unfold opRelease at e
  cases gk : gA s.ho k with
  | none => rw [gk] at e; cases e
  | some x =>
    rw [gk] at e
    dsimp only at e
    cases e1 : chkO s c x.2.1 with
    | some z => rw [e1] at e; cases e
    | none => rw [e1] at e; cases e; exact ⟨free_inv h gk (.inl rfl), rfl⟩
/-- how the supply changes -/
def dSup (o : OpA) : Int := if o.verb = "issue" then o.a else if o.verb = "burn" then -o.a else 0
theorem AInv.op {s s' : AS} {m : Nat} {o : OpA} (h : AInv s m) (oo : OpAOk o) (e : acOp s o = .inr s') : AInv s' (m + 1) ∧ s'.su = s.su + dSup o := by
  unfold acOp at e
  have z : ∀ {t : AS}, t.su = s.su → (o.verb ≠ "issue") → (o.verb ≠ "burn") → t.su = s.su + dSup o := fun e n1 n2 => by unfold dSup; rw [if_neg n1, if_neg n2]; omega
  by_cases h1 : o.verb = "create"
  · rw [if_pos h1] at e
    obtain ⟨i, j⟩ := create_inv h oo.x e
    exact ⟨i, z j (by rw [h1]; decide) (by rw [h1]; decide)⟩
  rw [if_neg h1] at e
  by_cases h2 : o.verb = "close"
  · rw [if_pos h2] at e
    obtain ⟨i, j⟩ := close_inv h e
    exact ⟨i, z j (by rw [h2]; decide) (by rw [h2]; decide)⟩
  rw [if_neg h2] at e
  by_cases h3 : o.verb = "issue"
  · rw [if_pos h3] at e
    obtain ⟨i, j⟩ := issue_inv h oo.a e
    exact ⟨i, by rw [j]; unfold dSup; rw [if_pos h3]⟩
  rw [if_neg h3] at e
  by_cases h4 : o.verb = "burn"
  · rw [if_pos h4] at e
    obtain ⟨i, j⟩ := burn_inv h oo.a e
    exact ⟨i, by rw [j]; unfold dSup; rw [if_neg h3, if_pos h4]; omega⟩
  rw [if_neg h4] at e
  by_cases h5 : o.verb = "pay"
  · rw [if_pos h5] at e
    obtain ⟨i, j⟩ := pay_inv h oo.a e
    exact ⟨i, z j h3 h4⟩
  rw [if_neg h5] at e
  by_cases h6 : o.verb = "hold"
  · rw [if_pos h6] at e
    obtain ⟨i, j⟩ := hold_inv h oo.a oo.x oo.y oo.k e
    exact ⟨i, z j h3 h4⟩
  rw [if_neg h6] at e
  by_cases h7 : o.verb = "settle"
  · rw [if_pos h7] at e
    obtain ⟨i, j⟩ := settle_inv h e
    exact ⟨i, z j h3 h4⟩
  rw [if_neg h7] at e
  obtain ⟨i, j⟩ := release_inv h e
  exact ⟨i, z j h3 h4⟩
/-- the reasons -/
def Rsn (z : Str) : Prop := z = "taken" ∨ z = "full" ∨ z = "missing" ∨ z = "owner" ∨ z = "busy" ∨ z = "mint" ∨ z = "limit" ∨ z = "funds"
theorem Rsn.ne {z : Str} (h : Rsn z) : z ≠ "" := by
  rcases h with rfl | rfl | rfl | rfl | rfl | rfl | rfl | rfl <;> decide
theorem chk_rsn {s : AS} {n z : Str} (h : chk s n = some z) : Rsn z := by
  unfold chk at h
  split at h
  · cases h; exact .inr (.inr (.inl rfl))
  · cases h
theorem chkO_rsn {s : AS} {c : Int} {n z : Str} (h : chkO s c n = some z) : Rsn z := by
  unfold chkO at h
  split at h
  · cases h; exact .inr (.inr (.inl rfl))
  · split at h
    · cases h; exact .inr (.inr (.inr (.inl rfl)))
    · cases h
theorem chkF_rsn {s : AS} {n z : Str} {a : Int} (h : chkF s n a = some z) : Rsn z := by
  unfold chkF at h
  split at h
  · cases h
  · split at h
    · cases h; exact .inr (.inr (.inr (.inr (.inr (.inr (.inr rfl))))))
    · cases h
theorem chkP_rsn {s : AS} {c : Int} {x y z : Str} {a : Int} (h : chkP s c x y a = some z) : Rsn z := by
  unfold chkP at h
  split at h
  · rename_i z' e; cases h; exact chk_rsn e
  · split at h
    · rename_i z' e; cases h; exact chkO_rsn e
    · exact chkF_rsn h
theorem acOp_rsn {s : AS} {o : OpA} {z : Str} (e : acOp s o = .inl z) : Rsn z := by
  unfold acOp at e
  split at e
  · unfold opCreate at e
    split at e
    · cases e; exact .inl rfl
    · split at e
      · cases e; exact .inr (.inl rfl)
      · cases e
  · split at e
    · unfold opClose at e
      split at e
      · rename_i z' e'; cases e; exact chkO_rsn e'
      · split at e
        · cases e; exact .inr (.inr (.inl rfl))
        · split at e
          · cases e; exact .inr (.inr (.inr (.inr (.inl rfl))))
          · cases e
    · split at e
      · unfold opIssue at e
        split at e
        · cases e; exact .inr (.inr (.inr (.inr (.inr (.inl rfl)))))
        · split at e
          · rename_i z' e'; cases e; exact chk_rsn e'
          · split at e
            · cases e; exact .inr (.inr (.inr (.inr (.inr (.inr (.inl rfl))))))
            · cases e
      · split at e
        · unfold opBurn at e
          split at e
          · rename_i z' e'; cases e; exact chkO_rsn e'
          · split at e
            · rename_i z' e'; cases e; exact chkF_rsn e'
            · cases e
        · split at e
          · unfold opPay at e
            split at e
            · rename_i z' e'; cases e; exact chkP_rsn e'
            · cases e
          · split at e
            · unfold opHold at e
              split at e
              · rename_i z' e'; cases e; exact chkP_rsn e'
              · split at e
                · cases e; exact .inl rfl
                · split at e
                  · cases e; exact .inr (.inl rfl)
                  · cases e
            · split at e
              · unfold opSettle at e
                split at e
                · cases e; exact .inr (.inr (.inl rfl))
                · split at e
                  · rename_i z' e'; cases e; exact chkO_rsn e'
                  · cases e
              · unfold opRelease at e
                split at e
                · cases e; exact .inr (.inr (.inl rfl))
                · split at e
                  · rename_i z' e'; cases e; exact chkO_rsn e'
                  · cases e

/-! ### the store -/
abbrev ST := List (Str × (Int × Str))
def owD (ks : ST) : List (Key × V) := kvs Sum.inr (fun x => V.int x.1) ks
def vaD (ks : ST) : List (Key × V) := kvs Sum.inr (fun x => V.str x.2) ks
def stF (n a : Addr) : List (Str × V) := putF "_values" (.ref a) (putF "_owners" (.ref n) [])
structure StAt (C : Addr) (H : Hp) (p n a : Addr) (ks : ST) : Prop where
  ins : ∃ dx, H p = some (.ins C dx (stF n a))
  ow : H n = some (.dK (owD ks))
  va : H a = some (.dK (vaD ks))
  ne : n ≠ a
theorem StAt.on {C : Addr} {H H' : Hp} {p n a : Addr} {ks : ST} (h : StAt C H p n a ks) (s : Same H H') : StAt C H' p n a ks := by
  obtain ⟨⟨dx, h1⟩, h2, h3, h4⟩ := h
  exact ⟨⟨dx, s _ _ h1⟩, s _ _ h2, s _ _ h3, h4⟩
theorem ow_val (ks : ST) (c : Str) : valV (owD ks) (Sum.inr c : Key) = (gA ks c).map fun x => V.int x.1 := gA_kvs inrI _ ks c
theorem va_val (ks : ST) (c : Str) : valV (vaD ks) (Sum.inr c : Key) = (gA ks c).map fun x => V.str x.2 := gA_kvs inrI _ ks c
/-- what the operations do -/
def stPut (ks : ST) (c : Int) (k v : Str) : Sum Str ST := match gA ks k with
  | some x => if x.1 ≠ c then .inl "owner" else .inr (pA ks k (c, v))
  | none => if 200 ≤ ks.length then .inl "full" else .inr (pA ks k (c, v))
def stRead (ks : ST) (k : Str) : Sum Str Str := match gA ks k with
  | some x => .inr x.2
  | none => .inl "missing"
def stDrop (ks : ST) (c : Int) (k : Str) : Sum Str ST := match gA ks k with
  | some x => if x.1 ≠ c then .inl "owner" else .inr (rmA ks k)
  | none => .inl "missing"
def stSwap (ks : ST) (k o v : Str) : Sum Str ST := match gA ks k with
  | some x => if x.2 ≠ o then .inl "need" else .inr (pA ks k (x.1, v))
  | none => .inl "missing"
def Out (B C : Addr) (H : Hp) (p n a : Addr) (Q : VK) (E : XK) (r : Sum Str ST) : Prop := match r with
  | .inl z => Rz B H E z
  | .inr ks => ∀ H', But2 n a H H' → StAt C H' p n a ks → Q .non H'
def spStInit (C : Addr) : Sp := fun vs H Q _ => ∃ (p dx : Addr), vs = [.ref p] ∧ H p = some (.ins C dx []) ∧
  ∀ (H' : Hp) (n a : Addr), (∀ b o, H b = some o → b ≠ p → H' b = some o) → H n = none → H a = none → StAt C H' p n a [] → Q .non H'
def spStCheck (B C : Addr) : Sp := fun vs H Q E => ∃ (p n a : Addr) (ks : ST) (k : Str), vs = [.ref p, .str k] ∧ StAt C H p n a ks ∧ (gA ks k = none → Rz B H E "missing") ∧ (∀ x, gA ks k = some x → Q .non H)
def spStOwner (B C : Addr) : Sp := fun vs H Q E => ∃ (p n a : Addr) (ks : ST) (c : Int) (k : Str) (x : Int × Str), vs = [.ref p, .int c, .str k] ∧ StAt C H p n a ks ∧ gA ks k = some x ∧ (x.1 ≠ c → Rz B H E "owner") ∧ (x.1 = c → Q .non H)
def spStPut (B C : Addr) : Sp := fun vs H Q E => ∃ (p n a : Addr) (ks : ST) (c : Int) (k v : Str), vs = [.ref p, .int c, .str k, .str v] ∧ StAt C H p n a ks ∧ ks.length ≤ 1000 ∧ Out B C H p n a Q E (stPut ks c k v)
def spStRead (B C : Addr) : Sp := fun vs H Q E => ∃ (p n a : Addr) (ks : ST) (k : Str), vs = [.ref p, .str k] ∧ StAt C H p n a ks ∧ (match stRead ks k with
  | .inl z => Rz B H E z
  | .inr v => Q (.str v) H)
def spStDrop (B C : Addr) : Sp := fun vs H Q E => ∃ (p n a : Addr) (ks : ST) (c : Int) (k : Str), vs = [.ref p, .int c, .str k] ∧ StAt C H p n a ks ∧ Out B C H p n a Q E (stDrop ks c k)
def spStSwap (B C : Addr) : Sp := fun vs H Q E => ∃ (p n a : Addr) (ks : ST) (k o v : Str), vs = [.ref p, .str k, .str o, .str v] ∧ StAt C H p n a ks ∧ kOk ks ∧ ks.length ≤ 1000 ∧ Out B C H p n a Q E (stSwap ks k o v)
def spStClone (C : Addr) : Sp := fun vs H Q _ => ∃ (p n a : Addr) (ks : ST), vs = [.ref p] ∧ StAt C H p n a ks ∧
  ∀ H' p' n' a', Same H H' → H p' = none → H n' = none → H a' = none → StAt C H' p' n' a' ks → Q (.ref p') H'
def srowD (ks : ST) (k : Str) : PyData := match gA ks k with
  | some x => .tuple [.str k, .int x.1, .str x.2]
  | none => .none
def Short (ks : ST) : Prop := ∀ k ∈ ks, k.1.length ≤ 1000 ∧ k.2.2.length ≤ 1000 ∧ PyData.strOk k.1 = true ∧ PyData.strOk k.2.2 = true
def spStRows (K : PySem.W.Frag) (C : Addr) : Sp := fun vs H Q _ => ∃ (p n a : Addr) (ks : ST), vs = [.ref p] ∧ StAt C H p n a ks ∧ ks.length ≤ 1000 ∧ kOk ks ∧ Short ks ∧
  ∀ (xs : List V) H' r, Same H H' → H r = none → H' r = some (.lst xs) → DtAll K H' none xs ((sortK ks).map (srowD ks)) → Q (.ref r) H'
def spStMatch (C : Addr) : Sp := fun vs H Q _ => ∃ (p n a : Addr) (ks : ST) (z : Str), vs = [.ref p, .str z] ∧ StAt C H p n a ks ∧ ks.length ≤ 1000 ∧
  ∀ H' r, Same H H' → H r = none → H' r = some (.lst (((sortK ks).filter fun k => Txt.startswith k z).map V.str)) → Q (.ref r) H'
section
variable {P : Program} {w : World} {K : PySem.W.Frag} {mg : Str → Option Value} {base : Heap}
theorem k_Store {C_Accounts : Addr} {C_Sessions : Addr} {C_Store : Addr} {C_State : Addr} {C_BadText : Addr} {C_Refused : Addr} {C_BadCommand : Addr} {C_VERBS : Addr} (T : Txt K mg w C_Accounts C_Sessions C_Store C_State C_BadText C_Refused C_BadCommand C_VERBS) : Mak P w K mg base 1 "Store" C_Store (spStInit C_Store) [] := by
  refine mak T.g_Store T.mk_Store sc_Store____init__ (fun vs H Q E h => ?_) (fun f cdv A outer s H vs Q E hr h => ?_)
  · obtain ⟨p, dx, rfl, _⟩ := h; rfl
  obtain ⟨p, dx, rfl, hp, q⟩ := h
  refine ⟨_, (pss_cons (ps_fld (pv 0) pe_dnewK rfl)
      (pss_one (ps_fld (pv 0) pe_dnewK rfl))), ?_⟩
  intro n hn
  walk_at "rds"
  refine ⟨p, _, dx, _, rfl, (same_upd hn) _ _ hp, T.cl_Store, T.na_Store__owners, by decide, ?_⟩
  have hnp : n ≠ p := (ne_of_none hp hn).symm
  intro a ha
  have hap : a ≠ p := (ne_of_none upd_same ha).symm
  have ha1 : upd H n (.dK []) a = none := by rw [upd_ne hap] at ha; exact ha
  have han : n ≠ a := ne_of_none upd_same ha1
  have ha0 : H a = none := same_none (same_upd hn) ha1
  walk_at "rds"
  refine ⟨p, _, dx, _, rfl, (by rw [upd_ne hap.symm]; exact upd_same), T.cl_Store, T.na_Store__values, (by show 1 < 1000; decide), ?_⟩
  refine q _ n a (fun b o e nb => ?_) hn ha0 ⟨⟨dx, upd_same⟩, ?_, ?_, han⟩
  · rw [upd_ne nb, upd_ne (ne_of_none e ha0), upd_ne nb, upd_ne (ne_of_none e hn)]; exact e
  · rw [upd_ne hnp, upd_ne han, upd_ne hnp]; exact upd_same
  · rw [upd_ne hap]; exact upd_same
theorem m_Store___check {C_Accounts : Addr} {C_Sessions : Addr} {C_Store : Addr} {C_State : Addr} {C_BadText : Addr} {C_Refused : Addr} {C_BadCommand : Addr} {C_VERBS : Addr} (T : Txt K mg w C_Accounts C_Sessions C_Store C_State C_BadText C_Refused C_BadCommand C_VERBS) : MetX P w K mg base 3 C_Store "_check" (spStCheck C_Refused C_Store) := by
  have i_Refused := i_Refused (P := P) (w := w) (base := base) T
  refine metX T.cl_Store T.me_Store___check sc_Store___check (fun vs H Q E h => ?_) (fun f cdv A outer s H vs Q E hr h => ?_)
  · obtain ⟨p, n, a, ks, k, rfl, _⟩ := h; rfl
  obtain ⟨p, n, a, ks, k, rfl, st, hE, q⟩ := h
  obtain ⟨dx, g⟩ := st.ins
  refine ⟨_, (pss_one (ps_if (pt_cmp (pc_dnotin (by exact hu_of hr) (pv 1) (pe_fld (pv 0) rfl))) (pss_one (ps_raise rfl (takes_of rfl rfl rfl rfl) (pmk_ei i_Refused hr (by decide) (by rfl) (pa_cons pe_str pa_nil)))) pss_nil)), ?_⟩
  walk_at "rds"
  refine ⟨p, _, dx, _, _, rfl, g, T.cl_Store, T.na_Store__owners, rfl, ?_⟩
  refine ⟨n, _, rfl, DGet.k (k := Sum.inr k) st.ow, ?_⟩
  rw [ow_val]
  cases gk : gA ks k with
  | none =>
    walk_at "rds"
    exact mk_one fun H' d s1 _ hd => hE gk H' d s1 hd
  | some x =>
    walk_at "rds"
    exact q x gk
theorem m_Store___check_owner {C_Accounts : Addr} {C_Sessions : Addr} {C_Store : Addr} {C_State : Addr} {C_BadText : Addr} {C_Refused : Addr} {C_BadCommand : Addr} {C_VERBS : Addr} (T : Txt K mg w C_Accounts C_Sessions C_Store C_State C_BadText C_Refused C_BadCommand C_VERBS) : MetX P w K mg base 3 C_Store "_check_owner" (spStOwner C_Refused C_Store) := by
  have i_Refused := i_Refused (P := P) (w := w) (base := base) T
  refine metX T.cl_Store T.me_Store___check_owner sc_Store___check_owner (fun vs H Q E h => ?_) (fun f cdv A outer s H vs Q E hr h => ?_)
  · obtain ⟨p, n, a, ks, c, k, x, rfl, _⟩ := h; rfl
  obtain ⟨p, n, a, ks, c, k, x, rfl, st, gk, hE, q⟩ := h
  obtain ⟨dx, g⟩ := st.ins
  refine ⟨_, (pss_one (ps_if (pt_cmpR op_ne (pe_dget (by exact hu_of hr) (pe_fld (pv 0) rfl) (pv 2) (fun _ _ => rfl)) (pv 1) (nomark _)) (pss_one (ps_raise rfl (takes_of rfl rfl rfl rfl) (pmk_ei i_Refused hr (by decide) (by rfl) (pa_cons pe_str pa_nil)))) pss_nil)), ?_⟩
  walk_at "rds"
  refine ⟨p, _, dx, _, _, rfl, g, T.cl_Store, T.na_Store__owners, rfl, ?_⟩
  walk_at "rds"
  refine ⟨n, _, rfl, .inl ⟨_, Sum.inr k, .inl st.ow, rfl, by rw [ow_val, gk]; rfl⟩, ?_⟩
  walk_at "rds"
  rw [decV']
  by_cases h : x.1 = c
  · refine ifF (by rw [decide_eq_true h]; rfl) ?_
    walk_at "rds"
    exact q h
  · refine ifT (by rw [decide_eq_false h]; rfl) ?_
    walk_at "rds"
    exact mk_one fun H' d s1 _ hd => hE h H' d s1 hd
/-- both dicts are written -/
theorem StAt.put {C : Addr} {H : Hp} {p n a : Addr} {ks : ST} (st : StAt C H p n a ks) (k : Str) (x : Int × Str) : StAt C (upd (upd H n (.dK (owD (pA ks k x)))) a (.dK (vaD (pA ks k x)))) p n a (pA ks k x) ∧ But2 n a H (upd (upd H n (.dK (owD (pA ks k x)))) a (.dK (vaD (pA ks k x)))) := by
  obtain ⟨dx, g⟩ := st.ins
  have hnp : p ≠ n := ne_of g st.ow (by intro z; cases z)
  have hap : p ≠ a := ne_of g st.va (by intro z; cases z)
  exact ⟨⟨⟨dx, by rw [upd_ne hap, upd_ne hnp]; exact g⟩, by rw [upd_ne st.ne]; exact upd_same, upd_same, st.ne⟩, fun b o n1 n2 e => by rw [upd_ne n2, upd_ne n1]; exact e⟩
theorem StAt.rem {C : Addr} {H : Hp} {p n a : Addr} {ks : ST} (st : StAt C H p n a ks) (k : Str) : StAt C (upd (upd H n (.dK (owD (rmA ks k)))) a (.dK (vaD (rmA ks k)))) p n a (rmA ks k) ∧ But2 n a H (upd (upd H n (.dK (owD (rmA ks k)))) a (.dK (vaD (rmA ks k)))) := by
  obtain ⟨dx, g⟩ := st.ins
  have hnp : p ≠ n := ne_of g st.ow (by intro z; cases z)
  have hap : p ≠ a := ne_of g st.va (by intro z; cases z)
  exact ⟨⟨⟨dx, by rw [upd_ne hap, upd_ne hnp]; exact g⟩, by rw [upd_ne st.ne]; exact upd_same, upd_same, st.ne⟩, fun b o n1 n2 e => by rw [upd_ne n2, upd_ne n1]; exact e⟩
theorem ow_put (ks : ST) (k : Str) (c : Int) (v : Str) : putK (owD ks) (Sum.inr k) (V.int c) = owD (pA ks k (c, v)) := by unfold owD; rw [← pA_kvs inrI]
theorem va_put (ks : ST) (k : Str) (c : Int) (v : Str) : putK (vaD ks) (Sum.inr k) (V.str v) = vaD (pA ks k (c, v)) := by unfold vaD; rw [← pA_kvs inrI]
theorem ow_same {ks : ST} {k : Str} {x : Int × Str} (h : kOk ks) (g : gA ks k = some x) (v : Str) : owD (pA ks k (x.1, v)) = owD ks := by
  have m : k ∈ ks.map (·.1) := List.mem_map.mpr ⟨_, gA_some g, rfl⟩
  unfold pA owD kvs
  rw [if_pos (any_mem.mpr m), List.map_map]
  refine List.map_congr_left fun y my => ?_
  show (Sum.inr (if y.1 = k then (y.1, (x.1, v)) else y).1, V.int (if y.1 = k then (y.1, (x.1, v)) else y).2.1) = ((Sum.inr y.1 : Key), V.int y.2.1)
  by_cases e : y.1 = k
  · have := gA_mem h my
    rw [e, g] at this
    rw [if_pos e, ← Option.some.inj this]
  · rw [if_neg e]
theorem m_Store__put {C_Accounts : Addr} {C_Sessions : Addr} {C_Store : Addr} {C_State : Addr} {C_BadText : Addr} {C_Refused : Addr} {C_BadCommand : Addr} {C_VERBS : Addr} (T : Txt K mg w C_Accounts C_Sessions C_Store C_State C_BadText C_Refused C_BadCommand C_VERBS) : MetX P w K mg base 5 C_Store "put" (spStPut C_Refused C_Store) := by
  have i_Refused := i_Refused (P := P) (w := w) (base := base) T
  have m_Store___check_owner := m_Store___check_owner (P := P) (w := w) (base := base) T
  refine metX T.cl_Store T.me_Store__put sc_Store__put (fun vs H Q E h => ?_) (fun f cdv A outer s H vs Q E hr h => ?_)
  · obtain ⟨p, n, a, ks, c, k, v, rfl, _⟩ := h; rfl
  obtain ⟨p, n, a, ks, c, k, v, rfl, st, l, out⟩ := h
  obtain ⟨dx, g⟩ := st.ins
  have hnp : p ≠ n := ne_of g st.ow (by intro z; cases z)
  refine ⟨_, (pss_cut (ps_if (pt_cmp (pc_din (by exact hu_of hr) (pv 2) (pe_fld (pv 0) rfl))) (pss_one (ps_expr (pe_mtX m_Store___check_owner hr (by decide) (fun σ => passAt (takes_of rfl rfl rfl rfl) σ) (pv 0) (pa_cons (pv 1) (pa_cons (pv 2) pa_nil))))) (pss_one (ps_if (pt_cmpR op_ge (pe_callB call_lenD (by rfl) T.z_len (by decide +kernel) (pa_cons (pe_fld (pv 0) rfl) pa_nil)) (pe_gc (by rfl) T.c_ENTRY_LIMIT) (nomark _)) (pss_one (ps_raise rfl (takes_of rfl rfl rfl rfl) (pmk_ei i_Refused hr (by decide) (by rfl) (pa_cons pe_str pa_nil)))) pss_nil)))
      (pss_cons (ps_dput (hu_of hr) (pe_fld (pv 0) rfl) (pv 2) (pv 1) rfl)
      (pss_one (ps_dput (hu_of hr) (pe_fld (pv 0) rfl) (pv 2) (pv 3) rfl)))), ?_⟩
  refine ⟨fun σ' H' => H' = H ∧ σ' = [some (.ref p), some (.int c), some (.str k), some (.str v)] ∧ stPut ks c k v = .inr (pA ks k (c, v)), ?_, ?_⟩
  · walk_at "rds"
    refine ⟨p, _, dx, _, _, rfl, g, T.cl_Store, T.na_Store__owners, rfl, ?_⟩
    refine ⟨n, _, rfl, DGet.k (k := Sum.inr k) st.ow, ?_⟩
    rw [ow_val]
    cases gk : gA ks k with
    | none =>
      walk_at "rds"
      refine ⟨p, _, dx, _, _, rfl, g, T.cl_Store, T.na_Store__owners, rfl, ?_⟩
      walk_at "rds"
      refine ⟨n, _, rfl, st.ow, ?_⟩
      walk_at "rds"
      have el : (owD ks).length = ks.length := kvs_len _ _ _
      rw [el]
      by_cases h : 200 ≤ ks.length
      · have e : stPut ks c k v = .inl "full" := by unfold stPut; rw [gk]; exact if_pos h
        rw [e] at out
        refine ifT (decide_eq_true (by omega)) ?_
        walk_at "rds"
        exact mk_one fun H' d s1 _ hd => out H' d s1 hd
      · have e : stPut ks c k v = .inr (pA ks k (c, v)) := by unfold stPut; rw [gk]; exact if_neg h
        refine ifF (decide_eq_false (by omega)) ?_
        exact ⟨rfl, rfl, e⟩
    | some x =>
      walk_at "rds"
      refine ⟨p, dx, _, rfl, g, rfl, ?_⟩
      walk_at "rds"
      refine ⟨p, n, a, ks, c, k, x, rfl, st, gk, fun h => ?_, fun h => ?_⟩
      · have e : stPut ks c k v = .inl "owner" := by unfold stPut; rw [gk]; exact if_pos h
        rw [e] at out
        exact out
      · have e : stPut ks c k v = .inr (pA ks k (c, v)) := by unfold stPut; rw [gk]; exact if_neg (fun n => n h)
        exact ⟨rfl, rfl, e⟩
  · rintro σ' H' ⟨rfl, rfl, e⟩
    rw [e] at out
    walk_at "rds"
    refine ⟨p, _, dx, _, _, rfl, g, T.cl_Store, T.na_Store__owners, rfl, ?_⟩
    walk_at "rds"
    refine ⟨n, _, rfl, DPut.k (k := Sum.inr k) st.ow (by unfold owD; rw [kvs_len]; exact sz1000' (by omega)), ?_⟩
    rw [ow_put ks k c v]
    walk_at "rds"
    refine ⟨p, _, dx, _, _, rfl, (by rw [upd_ne hnp]; exact g), T.cl_Store, T.na_Store__values, rfl, ?_⟩
    walk_at "rds"
    refine ⟨a, _, rfl, DPut.k (k := Sum.inr k) (by rw [upd_ne st.ne.symm]; exact st.va) (by unfold vaD; rw [kvs_len]; exact sz1000' (by omega)), ?_⟩
    rw [va_put ks k c v]
    obtain ⟨st2, bt⟩ := st.put k (c, v)
    exact out _ bt st2
theorem m_Store__read {C_Accounts : Addr} {C_Sessions : Addr} {C_Store : Addr} {C_State : Addr} {C_BadText : Addr} {C_Refused : Addr} {C_BadCommand : Addr} {C_VERBS : Addr} (T : Txt K mg w C_Accounts C_Sessions C_Store C_State C_BadText C_Refused C_BadCommand C_VERBS) : MetX P w K mg base 4 C_Store "read" (spStRead C_Refused C_Store) := by
  have m_Store___check := m_Store___check (P := P) (w := w) (base := base) T
  refine metX T.cl_Store T.me_Store__read sc_Store__read (fun vs H Q E h => ?_) (fun f cdv A outer s H vs Q E hr h => ?_)
  · obtain ⟨p, n, a, ks, k, rfl, _⟩ := h; rfl
  obtain ⟨p, n, a, ks, k, rfl, st, out⟩ := h
  obtain ⟨dx, g⟩ := st.ins
  refine ⟨_, (pss_cons (ps_expr (pe_mtX m_Store___check hr (by decide) (fun σ => passAt (takes_of rfl rfl rfl rfl) σ) (pv 0) (pa_cons (pv 1) pa_nil)))
      (pss_one (ps_ret (pe_dget (by exact hu_of hr) (pe_fld (pv 0) rfl) (pv 1) (fun _ _ => rfl))))), ?_⟩
  walk_at "rds"
  refine ⟨p, dx, _, rfl, g, rfl, ?_⟩
  walk_at "rds"
  refine ⟨p, n, a, ks, k, rfl, st, fun gk => ?_, fun x gk => ?_⟩
  · have e : stRead ks k = .inl "missing" := by unfold stRead; rw [gk]
    rw [e] at out; exact out
  · have e : stRead ks k = .inr x.2 := by unfold stRead; rw [gk]
    rw [e] at out
    walk_at "rds"
    refine ⟨p, _, dx, _, _, rfl, g, T.cl_Store, T.na_Store__values, rfl, ?_⟩
    walk_at "rds"
    refine ⟨a, _, rfl, .inl ⟨_, Sum.inr k, .inl st.va, rfl, by rw [va_val, gk]; rfl⟩, ?_⟩
    exact out
theorem m_Store__drop {C_Accounts : Addr} {C_Sessions : Addr} {C_Store : Addr} {C_State : Addr} {C_BadText : Addr} {C_Refused : Addr} {C_BadCommand : Addr} {C_VERBS : Addr} (T : Txt K mg w C_Accounts C_Sessions C_Store C_State C_BadText C_Refused C_BadCommand C_VERBS) : MetX P w K mg base 4 C_Store "drop" (spStDrop C_Refused C_Store) := by
  have m_Store___check := m_Store___check (P := P) (w := w) (base := base) T
  have m_Store___check_owner := m_Store___check_owner (P := P) (w := w) (base := base) T
  refine metX T.cl_Store T.me_Store__drop sc_Store__drop (fun vs H Q E h => ?_) (fun f cdv A outer s H vs Q E hr h => ?_)
  · obtain ⟨p, n, a, ks, c, k, rfl, _⟩ := h; rfl
  obtain ⟨p, n, a, ks, c, k, rfl, st, out⟩ := h
  obtain ⟨dx, g⟩ := st.ins
  have hnp : p ≠ n := ne_of g st.ow (by intro z; cases z)
  refine ⟨_, (pss_cons (ps_expr (pe_mtX m_Store___check hr (by decide) (fun σ => passAt (takes_of rfl rfl rfl rfl) σ) (pv 0) (pa_cons (pv 2) pa_nil)))
      (pss_cons (ps_expr (pe_mtX m_Store___check_owner hr (by decide) (fun σ => passAt (takes_of rfl rfl rfl rfl) σ) (pv 0) (pa_cons (pv 1) (pa_cons (pv 2) pa_nil))))
      (pss_cons (ps_ddel (pe_fld (pv 0) rfl) (pv 2))
      (pss_one (ps_ddel (pe_fld (pv 0) rfl) (pv 2)))))), ?_⟩
  walk_at "rds"
  refine ⟨p, dx, _, rfl, g, rfl, ?_⟩
  walk_at "rds"
  refine ⟨p, n, a, ks, k, rfl, st, fun gk => ?_, fun x gk => ?_⟩
  · have e : stDrop ks c k = .inl "missing" := by unfold stDrop; rw [gk]
    rw [e] at out; exact out
  walk_at "rds"
  refine ⟨p, dx, _, rfl, g, rfl, ?_⟩
  walk_at "rds"
  refine ⟨p, n, a, ks, c, k, x, rfl, st, gk, fun h => ?_, fun h => ?_⟩
  · have e : stDrop ks c k = .inl "owner" := by unfold stDrop; rw [gk]; exact if_pos h
    rw [e] at out; exact out
  have e : stDrop ks c k = .inr (rmA ks k) := by unfold stDrop; rw [gk]; exact if_neg (fun n => n h)
  rw [e] at out
  walk_at "rds"
  refine ⟨p, _, dx, _, _, rfl, g, T.cl_Store, T.na_Store__owners, rfl, ?_⟩
  walk_at "rds"
  refine ⟨n, _, Sum.inr k, rfl, st.ow, rfl, by rw [ow_val, gk]; rfl, ?_⟩
  rw [show dropK (owD ks) (Sum.inr k) = owD (rmA ks k) from dropK_rmA inrI _ ks k]
  walk_at "rds"
  refine ⟨p, _, dx, _, _, rfl, (by rw [upd_ne hnp]; exact g), T.cl_Store, T.na_Store__values, rfl, ?_⟩
  walk_at "rds"
  refine ⟨a, _, Sum.inr k, rfl, (by rw [upd_ne st.ne.symm]; exact st.va), rfl, by rw [va_val, gk]; rfl, ?_⟩
  rw [show dropK (vaD ks) (Sum.inr k) = vaD (rmA ks k) from dropK_rmA inrI _ ks k]
  obtain ⟨st2, bt⟩ := st.rem k
  exact out _ bt st2
theorem m_Store__swap {C_Accounts : Addr} {C_Sessions : Addr} {C_Store : Addr} {C_State : Addr} {C_BadText : Addr} {C_Refused : Addr} {C_BadCommand : Addr} {C_VERBS : Addr} (T : Txt K mg w C_Accounts C_Sessions C_Store C_State C_BadText C_Refused C_BadCommand C_VERBS) : MetX P w K mg base 5 C_Store "swap" (spStSwap C_Refused C_Store) := by
  have i_Refused := i_Refused (P := P) (w := w) (base := base) T
  have m_Store__read := m_Store__read (P := P) (w := w) (base := base) T
  refine metX T.cl_Store T.me_Store__swap sc_Store__swap (fun vs H Q E h => ?_) (fun f cdv A outer s H vs Q E hr h => ?_)
  · obtain ⟨p, n, a, ks, k, o, v, rfl, _⟩ := h; rfl
  obtain ⟨p, n, a, ks, k, o, v, rfl, st, hok, l, out⟩ := h
  obtain ⟨dx, g⟩ := st.ins
  refine ⟨_, (pss_cons (ps_if (pt_cmpR op_ne (pe_mtX m_Store__read hr (by decide) (fun σ => passAt (takes_of rfl rfl rfl rfl) σ) (pv 0) (pa_cons (pv 1) pa_nil)) (pv 2) (nomark _)) (pss_one (ps_raise rfl (takes_of rfl rfl rfl rfl) (pmk_ei i_Refused hr (by decide) (by rfl) (pa_cons pe_str pa_nil)))) pss_nil)
      (pss_one (ps_dput (hu_of hr) (pe_fld (pv 0) rfl) (pv 1) (pv 3) rfl))), ?_⟩
  walk_at "rds"
  refine ⟨p, dx, _, rfl, g, rfl, ?_⟩
  walk_at "rds"
  refine ⟨p, n, a, ks, k, rfl, st, ?_⟩
  cases gk : gA ks k with
  | none =>
    have e : stSwap ks k o v = .inl "missing" := by unfold stSwap; rw [gk]
    have e1 : stRead ks k = .inl "missing" := by unfold stRead; rw [gk]
    rw [e] at out
    rw [e1]
    exact out
  | some x =>
    have e1 : stRead ks k = .inr x.2 := by unfold stRead; rw [gk]
    rw [e1]
    walk_at "rds"
    by_cases h : x.2 = o
    · have e : stSwap ks k o v = .inr (pA ks k (x.1, v)) := by unfold stSwap; rw [gk]; exact if_neg (fun n => n h)
      rw [e] at out
      refine ifF (by rw [h, decide_eq_true rfl]; rfl) ?_
      walk_at "rds"
      refine ⟨p, _, dx, _, _, rfl, g, T.cl_Store, T.na_Store__values, rfl, ?_⟩
      walk_at "rds"
      refine ⟨a, _, rfl, DPut.k (k := Sum.inr k) st.va (by unfold vaD; rw [kvs_len]; exact sz1000' (by omega)), ?_⟩
      rw [va_put ks k x.1 v]
      refine out _ (fun b o n1 n2 e => by rw [upd_ne n2]; exact e) ⟨⟨dx, by rw [upd_ne (ne_of g st.va (by intro z; cases z))]; exact g⟩, ?_, upd_same, st.ne⟩
      rw [upd_ne st.ne, ow_same hok gk v]
      exact st.ow
    · have e : stSwap ks k o v = .inl "need" := by unfold stSwap; rw [gk]; exact if_pos h
      rw [e] at out
      refine ifT (by rw [decide_eq_false (fun z => h (V.str.inj z))]; rfl) ?_
      walk_at "rds"
      exact mk_one fun H' d s1 _ hd => out H' d s1 hd
theorem m_Store__clone {C_Accounts : Addr} {C_Sessions : Addr} {C_Store : Addr} {C_State : Addr} {C_BadText : Addr} {C_Refused : Addr} {C_BadCommand : Addr} {C_VERBS : Addr} (T : Txt K mg w C_Accounts C_Sessions C_Store C_State C_BadText C_Refused C_BadCommand C_VERBS) : Met P w K mg base 3 C_Store "clone" (spStClone C_Store) [] := by
  have k_Store := k_Store (P := P) (w := w) (base := base) T
  refine met T.cl_Store T.me_Store__clone sc_Store__clone (fun vs H Q E h => ?_) (fun f cdv A outer s H vs Q E hr h => ?_)
  · obtain ⟨p, n, a, ks, rfl, _⟩ := h; rfl
  obtain ⟨p, n, a, ks, rfl, se, q⟩ := h
  refine ⟨_, (pss_cons (ps_set (i := 1) sc_Store__clone.nd rfl (Or.inl rfl) (pe_mk0 k_Store hr (by decide) (by rfl)))
      (pss_cons (ps_fld (pv 1) (pe_callTy call_dictD (by rfl) T.z_dict (by decide +kernel) (pa_cons (pe_fld (pv 0) rfl) pa_nil)) rfl)
      (pss_cons (ps_fld (pv 1) (pe_callTy call_dictD (by rfl) T.z_dict (by decide +kernel) (pa_cons (pe_fld (pv 0) rfl) pa_nil)) rfl)
      (pss_one (ps_ret (pv 1)))))), ?_⟩
  walk_at "rds"
  intro p2 dx2 hp2 hdx2 hne2
  refine ⟨p2, dx2, rfl, upd_same, fun H1 n2 a2 kp hn2 ha2 se2 => ⟨rfl, ?_⟩⟩
  have s1 : Same H H1 := Same.made hp2 hdx2 kp
  have sM : Same H (upd (upd H dx2 (.own p2)) p2 (.ins C_Store dx2 [])) := (same_upd hdx2).trans (same_upd (by rw [upd_ne hne2.symm]; exact hp2))
  have hn0 := same_none sM hn2
  have ha0 := same_none sM ha2
  obtain ⟨⟨dx3, g2⟩, hn2', ha2', _⟩ := id se2
  obtain ⟨⟨dx, g⟩, hn, ha, hna⟩ := se.on s1
  walk_at "rds"
  refine ⟨p, _, dx, _, _, rfl, g, T.cl_Store, T.na_Store__owners, rfl, ?_⟩
  walk_at "rds"
  refine ⟨n, _, rfl, .inl hn, fun n3 hn3 => ?_⟩
  walk_at "rds"
  refine ⟨p2, _, dx3, _, rfl, (same_upd hn3) _ _ g2, T.cl_Store, T.na_Store__owners, (by show 2 < 1000; decide), ?_⟩
  have s2 : Same H (upd (upd H1 n3 (.dK (owD ks))) p2 (.ins C_Store dx3 (putF "_owners" (.ref n3) (stF n2 a2)))) := same_mut (s1.trans (same_upd hn3)) hp2
  have hp2n : p2 ≠ n3 := ne_of_none g2 hn3
  obtain ⟨⟨dx4, g4⟩, hn4, ha4, _⟩ := se.on s2
  have hn34 : (upd (upd H1 n3 (.dK (owD ks))) p2 (.ins C_Store dx3 (putF "_owners" (.ref n3) (stF n2 a2)))) n3 = some (.dK (owD ks)) := by rw [upd_ne hp2n.symm]; exact upd_same
  have hp24 : (upd (upd H1 n3 (.dK (owD ks))) p2 (.ins C_Store dx3 (putF "_owners" (.ref n3) (stF n2 a2)))) p2 = some (.ins C_Store dx3 (putF "_owners" (.ref n3) (stF n2 a2))) := upd_same
  generalize upd (upd H1 n3 (.dK (owD ks))) p2 (.ins C_Store dx3 (putF "_owners" (.ref n3) (stF n2 a2))) = H2 at s2 g4 hn4 ha4 hn34 hp24
  walk_at "rds"
  refine ⟨p, _, dx4, _, _, rfl, g4, T.cl_Store, T.na_Store__values, rfl, ?_⟩
  walk_at "rds"
  refine ⟨a, _, rfl, .inl ha4, fun a3 ha3 => ?_⟩
  walk_at "rds"
  refine ⟨p2, _, dx3, _, rfl, (same_upd ha3) _ _ hp24, T.cl_Store, T.na_Store__values, (by show 2 < 1000; decide), ?_⟩
  have hp2a : p2 ≠ a3 := ne_of_none hp24 ha3
  have hn3a : n3 ≠ a3 := ne_of_none hn34 ha3
  walk_at "rds"
  refine q _ p2 n3 a3 (same_mut (s2.trans (same_upd ha3)) hp2) hp2 (same_none s1 hn3) (same_none s2 ha3) ⟨⟨dx3, upd_same⟩, ?_, ?_, hn3a⟩
  · rw [upd_ne hp2n.symm, upd_ne hn3a]; exact hn34
  · rw [upd_ne hp2a.symm]; exact upd_same
theorem srow_some {ks : ST} {k : Str} {x : Int × Str} (g : gA ks k = some x) : srowD ks k = .tuple [.str k, .int x.1, .str x.2] := by unfold srowD; rw [g]
theorem srow_noL {ks : ST} (k : Str) : noL (srowD ks k) = true := by
  unfold srowD
  cases gA ks k with
  | none => rfl
  | some x => rfl
theorem m_Store__rows {C_Accounts : Addr} {C_Sessions : Addr} {C_Store : Addr} {C_State : Addr} {C_BadText : Addr} {C_Refused : Addr} {C_BadCommand : Addr} {C_VERBS : Addr} (T : Txt K mg w C_Accounts C_Sessions C_Store C_State C_BadText C_Refused C_BadCommand C_VERBS) : Met P w K mg base 1 C_Store "rows" (spStRows K C_Store) [] := by
  refine met T.cl_Store T.me_Store__rows sc_Store__rows (fun vs H Q E h => ?_) (fun f cdv A outer s H vs Q E hr h => ?_)
  · obtain ⟨p, n, a, ks, rfl, _⟩ := h; rfl
  obtain ⟨p, n, a, ks, rfl, se, l1000, hok, hz, q⟩ := h
  obtain ⟨dx, g⟩ := se.ins
  refine ⟨_, (pss_one (ps_ret (pe_lc (own := [("key", 1)]) (g := gName 1) (by rfl) sc_Store__rows.nd (pi_list (pe_callB (call_sortedDS rfl (units65 hr)) (by rfl) T.z_sorted (by decide +kernel) (pa_cons (pe_fld (pv 0) rfl) pa_nil))) (blkOk_by (own := [("key", 1)]) (N := ["self", "key"]) (sc := defScope s_Store__rows) (by decide +kernel)) (fun _ _ _ _ _ => pg_name (i := 1) sc_Store__rows.nd rfl (Or.inl rfl)) (fun _ _ _ _ _ => pts_nil) (fun _ _ _ _ _ => (pe_tup (pa_cons (pv 1) (pa_cons (pe_dget (by exact hu_of hr) (kfld (K := K) (pv 0)) (pv 1) (fun _ _ => rfl)) (pa_cons (pe_dget (by exact hu_of hr) (kfld (K := K) (pv 0)) (pv 1) (fun _ _ => rfl)) pa_nil)))))))), ?_⟩
  walk_at "rds"
  refine ⟨p, _, dx, _, _, rfl, g, T.cl_Store, T.na_Store__owners, rfl, ?_⟩
  walk_at "rds"
  refine ⟨n, _, ks.map (fun k => k.1), rfl, .inl se.ow, (by exact kvs_keys), by rw [List.length_map]; omega, fun l hl => ?_⟩
  walk_at "rds"
  have s1 : Same H (upd H l (.lst ((sortK ks).map V.str))) := same_upd hl
  have hl1 : upd H l (.lst ((sortK ks).map V.str)) l = some (.lst ((sortK ks).map V.str)) := upd_same
  have e1 : upd H l (.lst ((sortS (ks.map fun k => k.1)).map V.str)) = upd H l (.lst ((sortK ks).map V.str)) := rfl
  rw [e1]
  generalize upd H l (.lst ((sortK ks).map V.str)) = H1 at s1 hl1
  refine ⟨⟨_, sq hl1⟩, fun D hD => ?_⟩
  refine lc_it (walk_list (K := K) (a := l) (xs := (sortK ks).map V.str)) (Pv := fun i H' => ∃ xs, Same H1 H' ∧ H' D = some (.lst xs) ∧ DtAll K H' none xs (((sortK ks).take i).map (srowD ks))) ⟨[], same_upd hD, upd_same, .nil⟩ (fun _ _ _ h => by obtain ⟨_, h, _⟩ := h; exact sq (h _ _ hl1)) (fun i x H6 H7 hi hp2 hy => ?_) (fun H6 hp2 => ?_)
  · obtain ⟨xs, s6, hD6, hx6⟩ := hp2
    obtain ⟨rfl, gx⟩ := hy
    rw [List.length_map] at hi
    rw [List.getElem?_map, List.getElem?_eq_getElem hi] at gx
    obtain rfl : V.str (sortK ks)[i] = x := Option.some.inj gx
    obtain ⟨x, gk, mk⟩ := sortK_get hok (List.getElem_mem hi)
    have ht : (sortK ks).take (i + 1) = (sortK ks).take i ++ [(sortK ks)[i]] := by rw [List.take_add_one, List.getElem?_eq_getElem hi]; rfl
    have li : i < 1000 := by rw [sortK_len] at hi; omega
    obtain ⟨⟨dx6, g6⟩, hn6, ha6, _⟩ := se.on (s1.trans s6)
    rw [ht, List.map_append]
    generalize (sortK ks)[i] = c at gk mk
    have e3 := srow_some gk
    have hc := hz _ mk
    refine ⟨rfl, tyes ?_⟩
    walk_at "rds"
    refine ⟨p, _, dx6, _, _, rfl, g6, T.cl_Store, T.na_Store__owners, rfl, ?_⟩
    walk_at "rds"
    refine ⟨n, _, rfl, .inl ⟨_, Sum.inr c, .inl hn6, rfl, by rw [ow_val, gk]; rfl⟩, ?_⟩
    walk_at "rds"
    refine ⟨p, _, dx6, _, _, rfl, g6, T.cl_Store, T.na_Store__values, rfl, ?_⟩
    walk_at "rds"
    refine ⟨a, _, rfl, .inl ⟨_, Sum.inr c, .inl ha6, rfl, by rw [va_val, gk]; rfl⟩, ?_⟩
    walk_at "rds"
    intro t htn
    have hD7 := (same_upd (o := .tup [.str c, .int x.1, .str x.2]) htn) _ _ hD6
    have hxl : xs.length ≤ i := by rw [hx6.length, List.length_map, List.length_take]; omega
    refine ⟨xs, hD7, sz1000' (by omega), xs ++ [.ref t], same_mut (s6.trans (same_upd htn)) hD, upd_same, ?_⟩
    have hdt : Dt K (upd H7 t (.tup [.str c, .int x.1, .str x.2])) none (.ref t) (srowD ks c) := by
      rw [e3]
      exact .tup (.inl upd_same) (.cons (.str _ (by have := hc.1; show c.length ≤ 1000000; exact Nat.le_trans this (by decide))) (.cons (.int _) (.cons (.str _ (by have := hc.2.1; exact Nat.le_trans this (by decide))) .nil)))
    refine DtAll.keep (tp_put hD7) _ _ (noLs_all fun d hd => ?_) ((hx6.on (same_upd htn)).snoc hdt)
    rcases List.mem_append.mp hd with hd | hd
    · obtain ⟨z, _, rfl⟩ := List.mem_map.mp hd; exact srow_noL z
    · rw [List.mem_singleton.mp hd]; exact srow_noL c
  · obtain ⟨xs, s6, hD6, hx6⟩ := hp2
    rw [List.length_map, List.take_of_length_le (Nat.le_refl _)] at hx6
    exact q xs H6 D (s1.trans s6) (same_none s1 hD) hD6 hx6
theorem m_Store__matching {C_Accounts : Addr} {C_Sessions : Addr} {C_Store : Addr} {C_State : Addr} {C_BadText : Addr} {C_Refused : Addr} {C_BadCommand : Addr} {C_VERBS : Addr} (T : Txt K mg w C_Accounts C_Sessions C_Store C_State C_BadText C_Refused C_BadCommand C_VERBS) : Met P w K mg base 1 C_Store "matching" (spStMatch C_Store) [] := by
  refine met T.cl_Store T.me_Store__matching sc_Store__matching (fun vs H Q E h => ?_) (fun f cdv A outer s H vs Q E hr h => ?_)
  · obtain ⟨p, n, a, ks, z, rfl, _⟩ := h; rfl
  obtain ⟨p, n, a, ks, z, rfl, se, l1000, q⟩ := h
  obtain ⟨dx, g⟩ := se.ins
  refine ⟨_, (pss_one (ps_ret (pe_lc (own := [("key", 2)]) (g := gName 2) (by rfl) sc_Store__matching.nd (pi_list (pe_callB (call_sortedDS rfl (units65 hr)) (by rfl) T.z_sorted (by decide +kernel) (pa_cons (pe_fld (pv 0) rfl) pa_nil))) (blkOk_by (own := [("key", 2)]) (N := ["self", "prefix", "key"]) (sc := defScope s_Store__matching) (by decide +kernel)) (fun _ _ _ _ _ => pg_name (i := 2) sc_Store__matching.nd rfl (Or.inl rfl)) (fun _ _ _ _ _ => pts_one (pt_val (kbm (K := K) PySem.F.plainAttrs_str PySem.F.slot_str_startswith PySem.F.type_str_startswith mt_startswith (pv 2) (pa_cons (pv 1) pa_nil)))) (fun _ _ _ _ _ => (pv 2))))), ?_⟩
  walk_at "rds"
  refine ⟨p, _, dx, _, _, rfl, g, T.cl_Store, T.na_Store__owners, rfl, ?_⟩
  walk_at "rds"
  refine ⟨n, _, ks.map (fun k => k.1), rfl, .inl se.ow, (by exact kvs_keys), by rw [List.length_map]; omega, fun l hl => ?_⟩
  walk_at "rds"
  have s1 : Same H (upd H l (.lst ((sortK ks).map V.str))) := same_upd hl
  have hl1 : upd H l (.lst ((sortK ks).map V.str)) l = some (.lst ((sortK ks).map V.str)) := upd_same
  have e1 : upd H l (.lst ((sortS (ks.map fun k => k.1)).map V.str)) = upd H l (.lst ((sortK ks).map V.str)) := rfl
  rw [e1]
  generalize upd H l (.lst ((sortK ks).map V.str)) = H1 at s1 hl1
  refine ⟨⟨_, sq hl1⟩, fun D hD => ?_⟩
  have lK := sortK_len ks
  generalize sortK ks = ys at lK hl1 q
  refine lc_it (walk_list (K := K) (a := l) (xs := ys.map V.str)) (Pv := fun i H' => Same H1 H' ∧ H' D = some (.lst (((ys.take i).filter fun k => Txt.startswith k z).map V.str))) ⟨same_upd hD, upd_same⟩ (fun _ _ _ h => sq (h.1 _ _ hl1)) (fun i x H6 H7 hi hp2 hy => ?_) (fun H6 hp2 => ?_)
  · obtain ⟨s6, hD6⟩ := hp2
    obtain ⟨rfl, gx⟩ := hy
    rw [List.length_map] at hi
    rw [List.getElem?_map, List.getElem?_eq_getElem hi] at gx
    obtain rfl : V.str ys[i] = x := Option.some.inj gx
    have ll : ((ys.take i).filter fun k => Txt.startswith k z).length ≤ 1000 := by
      refine Nat.le_trans (List.length_filter_le _ _) ?_
      rw [List.length_take]; omega
    have tk2 : ((ys.take (i + 1)).filter fun k => Txt.startswith k z) = ((ys.take i).filter fun k => Txt.startswith k z) ++ (if Txt.startswith ys[i] z = true then [ys[i]] else []) := by
      rw [List.take_add_one, List.getElem?_eq_getElem hi, List.filter_append]
      congr 1
      show List.filter _ [_] = _
      rw [List.filter_cons, List.filter_nil]
    generalize (ys.take i).filter (fun k => Txt.startswith k z) = acc at hD6 tk2 ll
    generalize ys[i] = c at tk2
    refine ⟨rfl, ?_⟩
    walk_at "rds"
    refine ⟨rfl, ?_⟩
    walk_at "rds"
    refine ⟨c, z, rfl, rfl, ?_⟩
    refine ⟨_, rfl, ?_⟩
    cases hb : Txt.startswith c z with
    | true =>
      rw [hb, if_pos rfl] at tk2
      refine ifT rfl ?_
      walk_at "rds"
      exact ⟨_, hD6, sz1000' (by rw [List.length_map]; omega), same_mut s6 hD, by rw [upd_same, tk2, List.map_append]; rfl⟩
    | false =>
      rw [hb, if_neg (by decide), List.append_nil] at tk2
      refine ifF rfl ?_
      exact ⟨s6, by rw [tk2]; exact hD6⟩
  · obtain ⟨s6, hD6⟩ := hp2
    rw [List.length_map, List.take_of_length_le (Nat.le_refl _)] at hD6
    exact q H6 D (s1.trans s6) (same_none s1 hD) hD6
end

/-! ### the sessions -/
abbrev SD := List (Int × Int × Str)
def numsD (ks : SD) : List (Key × V) := kvs Sum.inl (fun x => V.int x.1) ks
def ansD (ks : SD) : List (Key × V) := kvs Sum.inl (fun x => V.str x.2) ks
def seF (n a : Addr) : List (Str × V) := putF "_answers" (.ref a) (putF "_numbers" (.ref n) [])
def SeAt (C : Addr) (H : Hp) (p n a : Addr) (ks : SD) : Prop := (∃ dx, H p = some (.ins C dx (seF n a))) ∧ H n = some (.dK (numsD ks)) ∧ H a = some (.dK (ansD ks)) ∧ n ≠ a
theorem SeAt.on {C : Addr} {H H' : Hp} {p n a : Addr} {ks : SD} (h : SeAt C H p n a ks) (s : Same H H') : SeAt C H' p n a ks := by
  obtain ⟨⟨dx, h1⟩, h2, h3, h4⟩ := h
  exact ⟨⟨dx, s _ _ h1⟩, s _ _ h2, s _ _ h3, h4⟩
def seL (ks : SD) (c : Int) : Int := ((gA ks c).map (·.1)).getD 0
def seA (ks : SD) (c : Int) : Str := ((gA ks c).map (·.2)).getD (Str.ofString "")
def rowD (ks : SD) (c : Int) : PyData := .tuple [.int c, .int (seL ks c), .str (seA ks c)]
/-- all but n and a are as they were -/
def spSeInit (C : Addr) : Sp := fun vs H Q _ => ∃ (p dx : Addr), vs = [.ref p] ∧ H p = some (.ins C dx []) ∧
  ∀ (H' : Hp) (n a : Addr), (∀ b o, H b = some o → b ≠ p → H' b = some o) → H n = none → H a = none → SeAt C H' p n a [] → Q .non H'
def spSeLast (C : Addr) : Sp := fun vs H Q _ => ∃ (p n a : Addr) (ks : SD) (c : Int), vs = [.ref p, .int c] ∧ SeAt C H p n a ks ∧ Q (.int (seL ks c)) H
def spSeAns (C : Addr) : Sp := fun vs H Q _ => ∃ (p n a : Addr) (ks : SD) (c : Int), vs = [.ref p, .int c] ∧ SeAt C H p n a ks ∧ Q (.str (seA ks c)) H
def spSeRem (C B : Addr) : Sp := fun vs H Q E => ∃ (p n a : Addr) (ks : SD) (c m : Int) (z : Str), vs = [.ref p, .int c, .int m, .str z] ∧ SeAt C H p n a ks ∧ ks.length ≤ 1000 ∧
  (seL ks c < m → ∀ H', But2 n a H H' → SeAt C H' p n a (pA ks c (m, z)) → Q .non H') ∧
  (m ≤ seL ks c → ∀ H' d, Same H H' → H' d = some (.xd [("statement", .int 0), ("reason", .str "number")]) → E (.ref B) (some d) H')
def spSeNums (C : Addr) : Sp := fun vs H Q _ => ∃ (p n a : Addr) (ks : SD), vs = [.ref p] ∧ SeAt C H p n a ks ∧ ∀ r, H r = none → Q (.ref r) (upd H r (.dK (numsD ks)))
def spSeClone (C : Addr) : Sp := fun vs H Q _ => ∃ (p n a : Addr) (ks : SD), vs = [.ref p] ∧ SeAt C H p n a ks ∧
  ∀ H' p' n' a', Same H H' → H p' = none → H n' = none → H a' = none → SeAt C H' p' n' a' ks → Q (.ref p') H'
def spSeRows (K : PySem.W.Frag) (C : Addr) : Sp := fun vs H Q _ => ∃ (p n a : Addr) (ks : SD), vs = [.ref p] ∧ SeAt C H p n a ks ∧ ks.length < 64 ∧ kOk ks ∧ (∀ k ∈ ks, k.2.2.length ≤ 1000) ∧
  ∀ (ys : List Int) (xs : List V) H' r, ys.Perm (ks.map (·.1)) → ys.Pairwise (· ≤ ·) → Same H H' → H r = none → H' r = some (.lst xs) → DtAll K H' none xs (ys.map (rowD ks)) → Q (.ref r) H'
section
variable {P : Program} {w : World} {K : PySem.W.Frag} {mg : Str → Option Value} {base : Heap}
theorem k_Sessions {C_Accounts : Addr} {C_Sessions : Addr} {C_Store : Addr} {C_State : Addr} {C_BadText : Addr} {C_Refused : Addr} {C_BadCommand : Addr} {C_VERBS : Addr} (T : Txt K mg w C_Accounts C_Sessions C_Store C_State C_BadText C_Refused C_BadCommand C_VERBS) : Mak P w K mg base 1 "Sessions" C_Sessions (spSeInit C_Sessions) [] := by
  refine mak T.g_Sessions T.mk_Sessions sc_Sessions____init__ (fun vs H Q E h => ?_) (fun f cdv A outer s H vs Q E hr h => ?_)
  · obtain ⟨p, dx, rfl, _⟩ := h; rfl
  obtain ⟨p, dx, rfl, hp, q⟩ := h
  refine ⟨_, (pss_cons (ps_fld (pv 0) pe_dnewK rfl)
      (pss_one (ps_fld (pv 0) pe_dnewK rfl))), ?_⟩
  intro n hn
  walk_at "rds"
  refine ⟨p, _, dx, _, rfl, (same_upd hn) _ _ hp, T.cl_Sessions, T.na_Sessions__numbers, by decide, ?_⟩
  have hnp : n ≠ p := (ne_of_none hp hn).symm
  intro a ha
  have hap : a ≠ p := (ne_of_none upd_same ha).symm
  have ha1 : upd H n (.dK []) a = none := by rw [upd_ne hap] at ha; exact ha
  have han : n ≠ a := ne_of_none upd_same ha1
  have ha0 : H a = none := same_none (same_upd hn) ha1
  walk_at "rds"
  refine ⟨p, _, dx, _, rfl, (by rw [upd_ne hap.symm]; exact upd_same), T.cl_Sessions, T.na_Sessions__answers, (by show 1 < 1000; decide), ?_⟩
  refine q _ n a (fun b o e nb => ?_) hn ha0 ⟨⟨dx, upd_same⟩, ?_, ?_, han⟩
  · rw [upd_ne nb, upd_ne (ne_of_none e ha0), upd_ne nb, upd_ne (ne_of_none e hn)]; exact e
  · rw [upd_ne hnp, upd_ne han, upd_ne hnp]; exact upd_same
  · rw [upd_ne hap]; exact upd_same
theorem m_Sessions__last {C_Accounts : Addr} {C_Sessions : Addr} {C_Store : Addr} {C_State : Addr} {C_BadText : Addr} {C_Refused : Addr} {C_BadCommand : Addr} {C_VERBS : Addr} (T : Txt K mg w C_Accounts C_Sessions C_Store C_State C_BadText C_Refused C_BadCommand C_VERBS) : Met P w K mg base 1 C_Sessions "last" (spSeLast C_Sessions) [] := by
  refine met T.cl_Sessions T.me_Sessions__last sc_Sessions__last (fun vs H Q E h => ?_) (fun f cdv A outer s H vs Q E hr h => ?_)
  · obtain ⟨p, n, a, ks, c, rfl, _⟩ := h; rfl
  obtain ⟨p, n, a, ks, c, rfl, ⟨⟨dx, g⟩, hn, ha, hna⟩, q⟩ := h
  refine ⟨_, (pss_one (ps_ret (pe_dget2 (hu1 hr) (pe_fld (pv 0) rfl) (pv 1) pe_int ⟨by rfl, by rfl, by rfl, by rfl⟩))), ?_⟩
  walk_at "rds"
  refine ⟨p, _, dx, _, _, rfl, g, T.cl_Sessions, T.na_Sessions__numbers, rfl, ?_⟩
  walk_at "rds"
  refine ⟨.inl ⟨_, .inl hn⟩, ?_⟩
  walk_at "rds"
  refine ⟨_, DGet.k (k := Sum.inl c) hn, ?_⟩
  unfold numsD
  rw [gA_kvs inlI]
  have e : ((gA ks c).map (fun x => V.int x.1)).getD (.int 0) = .int (seL ks c) := by
    unfold seL
    cases gA ks c <;> rfl
  rw [e]
  exact q
theorem m_Sessions__answer {C_Accounts : Addr} {C_Sessions : Addr} {C_Store : Addr} {C_State : Addr} {C_BadText : Addr} {C_Refused : Addr} {C_BadCommand : Addr} {C_VERBS : Addr} (T : Txt K mg w C_Accounts C_Sessions C_Store C_State C_BadText C_Refused C_BadCommand C_VERBS) : Met P w K mg base 1 C_Sessions "answer" (spSeAns C_Sessions) [] := by
  refine met T.cl_Sessions T.me_Sessions__answer sc_Sessions__answer (fun vs H Q E h => ?_) (fun f cdv A outer s H vs Q E hr h => ?_)
  · obtain ⟨p, n, a, ks, c, rfl, _⟩ := h; rfl
  obtain ⟨p, n, a, ks, c, rfl, ⟨⟨dx, g⟩, hn, ha, hna⟩, q⟩ := h
  refine ⟨_, (pss_one (ps_ret (pe_dget2 (hu1 hr) (pe_fld (pv 0) rfl) (pv 1) pe_str ⟨by rfl, by rfl, by rfl, by rfl⟩))), ?_⟩
  walk_at "rds"
  refine ⟨p, _, dx, _, _, rfl, g, T.cl_Sessions, T.na_Sessions__answers, rfl, ?_⟩
  walk_at "rds"
  refine ⟨.inl ⟨_, .inl ha⟩, ?_⟩
  walk_at "rds"
  refine ⟨_, DGet.k (k := Sum.inl c) ha, ?_⟩
  unfold ansD
  rw [gA_kvs inlI]
  have e : ((gA ks c).map (fun x => V.str x.2)).getD (.str (Str.ofString "")) = .str (seA ks c) := by
    unfold seA
    cases gA ks c <;> rfl
  rw [e]
  exact q
theorem m_Sessions__numbers {C_Accounts : Addr} {C_Sessions : Addr} {C_Store : Addr} {C_State : Addr} {C_BadText : Addr} {C_Refused : Addr} {C_BadCommand : Addr} {C_VERBS : Addr} (T : Txt K mg w C_Accounts C_Sessions C_Store C_State C_BadText C_Refused C_BadCommand C_VERBS) : Met P w K mg base 1 C_Sessions "numbers" (spSeNums C_Sessions) [] := by
  refine met T.cl_Sessions T.me_Sessions__numbers sc_Sessions__numbers (fun vs H Q E h => ?_) (fun f cdv A outer s H vs Q E hr h => ?_)
  · obtain ⟨p, n, a, ks, rfl, _⟩ := h; rfl
  obtain ⟨p, n, a, ks, rfl, ⟨⟨dx, g⟩, hn, ha, hna⟩, q⟩ := h
  refine ⟨_, (pss_one (ps_ret (pe_callTy call_dictD (by rfl) T.z_dict (by decide +kernel) (pa_cons (pe_fld (pv 0) rfl) pa_nil)))), ?_⟩
  walk_at "rds"
  refine ⟨p, _, dx, _, _, rfl, g, T.cl_Sessions, T.na_Sessions__numbers, rfl, ?_⟩
  walk_at "rds"
  exact ⟨n, _, rfl, .inl hn, fun r hr => q r hr⟩
theorem m_Sessions__clone {C_Accounts : Addr} {C_Sessions : Addr} {C_Store : Addr} {C_State : Addr} {C_BadText : Addr} {C_Refused : Addr} {C_BadCommand : Addr} {C_VERBS : Addr} (T : Txt K mg w C_Accounts C_Sessions C_Store C_State C_BadText C_Refused C_BadCommand C_VERBS) : Met P w K mg base 3 C_Sessions "clone" (spSeClone C_Sessions) [] := by
  have k_Sessions := k_Sessions (P := P) (w := w) (base := base) T
  refine met T.cl_Sessions T.me_Sessions__clone sc_Sessions__clone (fun vs H Q E h => ?_) (fun f cdv A outer s H vs Q E hr h => ?_)
  · obtain ⟨p, n, a, ks, rfl, _⟩ := h; rfl
  obtain ⟨p, n, a, ks, rfl, se, q⟩ := h
  refine ⟨_, (pss_cons (ps_set (i := 1) sc_Sessions__clone.nd rfl (Or.inl rfl) (pe_mk0 k_Sessions hr (by decide) (by rfl)))
      (pss_cons (ps_fld (pv 1) (pe_callTy call_dictD (by rfl) T.z_dict (by decide +kernel) (pa_cons (pe_fld (pv 0) rfl) pa_nil)) rfl)
      (pss_cons (ps_fld (pv 1) (pe_callTy call_dictD (by rfl) T.z_dict (by decide +kernel) (pa_cons (pe_fld (pv 0) rfl) pa_nil)) rfl)
      (pss_one (ps_ret (pv 1)))))), ?_⟩
  walk_at "rds"
  intro p2 dx2 hp2 hdx2 hne2
  refine ⟨p2, dx2, rfl, upd_same, fun H1 n2 a2 kp hn2 ha2 se2 => ⟨rfl, ?_⟩⟩
  have s1 : Same H H1 := Same.made hp2 hdx2 kp
  have sM : Same H (upd (upd H dx2 (.own p2)) p2 (.ins C_Sessions dx2 [])) := (same_upd hdx2).trans (same_upd (by rw [upd_ne hne2.symm]; exact hp2))
  have hn0 := same_none sM hn2
  have ha0 := same_none sM ha2
  obtain ⟨⟨dx3, g2⟩, hn2', ha2', _⟩ := id se2
  obtain ⟨⟨dx, g⟩, hn, ha, hna⟩ := se.on s1
  walk_at "rds"
  refine ⟨p, _, dx, _, _, rfl, g, T.cl_Sessions, T.na_Sessions__numbers, rfl, ?_⟩
  walk_at "rds"
  refine ⟨n, _, rfl, .inl hn, fun n3 hn3 => ?_⟩
  walk_at "rds"
  refine ⟨p2, _, dx3, _, rfl, (same_upd hn3) _ _ g2, T.cl_Sessions, T.na_Sessions__numbers, (by show 2 < 1000; decide), ?_⟩
  have s2 : Same H (upd (upd H1 n3 (.dK (numsD ks))) p2 (.ins C_Sessions dx3 (putF "_numbers" (.ref n3) (seF n2 a2)))) := same_mut (s1.trans (same_upd hn3)) hp2
  have hp2n : p2 ≠ n3 := ne_of_none g2 hn3
  obtain ⟨⟨dx4, g4⟩, hn4, ha4, _⟩ := se.on s2
  have hn34 : (upd (upd H1 n3 (.dK (numsD ks))) p2 (.ins C_Sessions dx3 (putF "_numbers" (.ref n3) (seF n2 a2)))) n3 = some (.dK (numsD ks)) := by rw [upd_ne hp2n.symm]; exact upd_same
  have hp24 : (upd (upd H1 n3 (.dK (numsD ks))) p2 (.ins C_Sessions dx3 (putF "_numbers" (.ref n3) (seF n2 a2)))) p2 = some (.ins C_Sessions dx3 (putF "_numbers" (.ref n3) (seF n2 a2))) := upd_same
  generalize upd (upd H1 n3 (.dK (numsD ks))) p2 (.ins C_Sessions dx3 (putF "_numbers" (.ref n3) (seF n2 a2))) = H2 at s2 g4 hn4 ha4 hn34 hp24
  walk_at "rds"
  refine ⟨p, _, dx4, _, _, rfl, g4, T.cl_Sessions, T.na_Sessions__answers, rfl, ?_⟩
  walk_at "rds"
  refine ⟨a, _, rfl, .inl ha4, fun a3 ha3 => ?_⟩
  walk_at "rds"
  refine ⟨p2, _, dx3, _, rfl, (same_upd ha3) _ _ hp24, T.cl_Sessions, T.na_Sessions__answers, (by show 2 < 1000; decide), ?_⟩
  have hp2a : p2 ≠ a3 := ne_of_none hp24 ha3
  have hn3a : n3 ≠ a3 := ne_of_none hn34 ha3
  walk_at "rds"
  refine q _ p2 n3 a3 (same_mut (s2.trans (same_upd ha3)) hp2) hp2 (same_none s1 hn3) (same_none s2 ha3) ⟨⟨dx3, upd_same⟩, ?_, ?_, hn3a⟩
  · rw [upd_ne hp2n.symm, upd_ne hn3a]; exact hn34
  · rw [upd_ne hp2a.symm]; exact upd_same
theorem m_Sessions__rows {C_Accounts : Addr} {C_Sessions : Addr} {C_Store : Addr} {C_State : Addr} {C_BadText : Addr} {C_Refused : Addr} {C_BadCommand : Addr} {C_VERBS : Addr} (T : Txt K mg w C_Accounts C_Sessions C_Store C_State C_BadText C_Refused C_BadCommand C_VERBS) : Met P w K mg base 1 C_Sessions "rows" (spSeRows K C_Sessions) [] := by
  refine met T.cl_Sessions T.me_Sessions__rows sc_Sessions__rows (fun vs H Q E h => ?_) (fun f cdv A outer s H vs Q E hr h => ?_)
  · obtain ⟨p, n, a, ks, rfl, _⟩ := h; rfl
  obtain ⟨p, n, a, ks, rfl, se, h64, hok, hz, q⟩ := h
  obtain ⟨⟨dx, g⟩, hn, ha, hna⟩ := id se
  refine ⟨_, (pss_one (ps_ret (pe_lc (own := [("client", 1)]) (g := gName 1) (by rfl) sc_Sessions__rows.nd (pi_list (pe_callB (call_sortedDI rfl) (by rfl) T.z_sorted (by decide +kernel) (pa_cons (pe_fld (pv 0) rfl) pa_nil))) (blkOk_by (own := [("client", 1)]) (N := ["self", "client"]) (sc := defScope s_Sessions__rows) (by decide +kernel)) (fun _ _ _ _ _ => pg_name (i := 1) sc_Sessions__rows.nd rfl (Or.inl rfl)) (fun _ _ _ _ _ => pts_nil) (fun _ _ _ _ _ => (pe_tup (pa_cons (pv 1) (pa_cons (pe_dget (by exact hu_of hr) (kfld (K := K) (pv 0)) (pv 1) (fun _ _ => rfl)) (pa_cons (pe_dget (by exact hu_of hr) (kfld (K := K) (pv 0)) (pv 1) (fun _ _ => rfl)) pa_nil)))))))), ?_⟩
  walk_at "rds"
  refine ⟨p, _, dx, _, _, rfl, g, T.cl_Sessions, T.na_Sessions__numbers, rfl, ?_⟩
  walk_at "rds"
  refine ⟨n, _, ks.map (fun k => k.1), rfl, .inl hn, (by exact kvs_keys), by rw [List.length_map]; exact h64, fun ys l hp hs hl => ?_⟩
  walk_at "rds"
  have s1 : Same H (upd H l (.lst (ys.map V.int))) := same_upd hl
  have hl1 : upd H l (.lst (ys.map V.int)) l = some (.lst (ys.map V.int)) := upd_same
  generalize upd H l (.lst (ys.map V.int)) = H1 at s1 hl1
  refine ⟨⟨_, sq hl1⟩, fun D hD => ?_⟩
  refine lc_it (walk_list (K := K) (a := l) (xs := ys.map V.int)) (Pv := fun i H' => ∃ xs, Same H1 H' ∧ H' D = some (.lst xs) ∧ DtAll K H' none xs ((ys.take i).map (rowD ks))) ⟨[], same_upd hD, upd_same, .nil⟩ (fun _ _ _ h => by obtain ⟨_, h, _⟩ := h; exact sq (h _ _ hl1)) (fun i x H6 H7 hi hp2 hy => ?_) (fun H6 hp2 => ?_)
  · obtain ⟨xs, s6, hD6, hx6⟩ := hp2
    obtain ⟨rfl, gx⟩ := hy
    rw [List.length_map] at hi
    rw [List.getElem?_map, List.getElem?_eq_getElem hi] at gx
    obtain rfl : V.int ys[i] = x := Option.some.inj gx
    have hm : ys[i] ∈ ks.map (fun k => k.1) := hp.mem_iff.mp (List.getElem_mem hi)
    obtain ⟨k, hk, ek⟩ := List.mem_map.mp hm
    have gk : gA ks ys[i] = some k.2 := by rw [← ek]; exact gA_mem hok hk
    have e1 : seL ks ys[i] = k.2.1 := by unfold seL; rw [gk]; rfl
    have e2 : seA ks ys[i] = k.2.2 := by unfold seA; rw [gk]; rfl
    have ht : ys.take (i + 1) = ys.take i ++ [ys[i]] := by rw [List.take_add_one, List.getElem?_eq_getElem hi]; rfl
    obtain ⟨⟨dx6, g6⟩, hn6, ha6, _⟩ := se.on (s1.trans s6)
    rw [ht, List.map_append]
    have e3 : rowD ks ys[i] = .tuple [.int ys[i], .int k.2.1, .str k.2.2] := by unfold rowD; rw [e1, e2]
    generalize ys[i] = c at gk e3
    refine ⟨rfl, tyes ?_⟩
    walk_at "rds"
    refine ⟨p, _, dx6, _, _, rfl, g6, T.cl_Sessions, T.na_Sessions__numbers, rfl, ?_⟩
    walk_at "rds"
    refine ⟨n, _, rfl, DGet.k (k := Sum.inl c) hn6 |> (fun h => by unfold numsD at h; rw [gA_kvs inlI, gk] at h; exact h), ?_⟩
    walk_at "rds"
    refine ⟨p, _, dx6, _, _, rfl, g6, T.cl_Sessions, T.na_Sessions__answers, rfl, ?_⟩
    walk_at "rds"
    refine ⟨a, _, rfl, DGet.k (k := Sum.inl c) ha6 |> (fun h => by unfold ansD at h; rw [gA_kvs inlI, gk] at h; exact h), ?_⟩
    walk_at "rds"
    intro t htn
    have hD7 := (same_upd (o := .tup [.int c, .int k.2.1, .str k.2.2]) htn) _ _ hD6
    have hxl : xs.length ≤ i := by rw [hx6.length, List.length_map, List.length_take]; omega
    refine ⟨xs, hD7, sz1000' (by have := hp.length_eq; rw [List.length_map] at this; omega), xs ++ [.ref t], same_mut (s6.trans (same_upd htn)) hD, upd_same, ?_⟩
    have hdt : Dt K (upd H7 t (.tup [.int c, .int k.2.1, .str k.2.2])) none (.ref t) (rowD ks c) := by
      rw [e3]
      exact .tup (.inl upd_same) (.cons (.int _) (.cons (.int _) (.cons (.str _ (by have := hz k hk; omega)) .nil)))
    refine DtAll.keep (tp_put hD7) _ _ (noLs_all fun d hd => ?_) ((hx6.on (same_upd htn)).snoc hdt)
    rcases List.mem_append.mp hd with hd | hd
    · obtain ⟨z, _, rfl⟩ := List.mem_map.mp hd; rfl
    · rw [List.mem_singleton.mp hd]; rfl
  · obtain ⟨xs, s6, hD6, hx6⟩ := hp2
    rw [List.length_map, List.take_of_length_le (Nat.le_refl _)] at hx6
    exact q ys xs H6 D hp hs (s1.trans s6) (same_none s1 hD) hD6 hx6
end

def NoStr (K : PySem.W.Frag) (H : Hp) (v : V) : Prop := ∃ T, TyX K H v (.type T) ∧ kitB T "str" = some false
def spPrint (K : PySem.W.Frag) : Sp := fun vs H Q _ => ∃ (v : V), vs = [v] ∧ ((∃ z : Str, v = .str z ∧ z.length ≤ 16000000 ∧ ∀ H', Same H H' → Q (.bl (isPr z)) H') ∨ (NoStr K H v ∧ Q (.bl false) H))
theorem print128 : ∀ c : Nat, c < 128 → (Unicode.isPrintable c = true ↔ (32 ≤ c ∧ c ≤ 126)) := by
  intro c hc
  have h : ∀ c : Fin 128, (Unicode.isPrintable c.val = true ↔ (32 ≤ c.val ∧ c.val ≤ 126)) := by decide +kernel
  exact h ⟨c, hc⟩
theorem asc_list {z : Str} : Txt.isascii z = true ↔ ∀ c ∈ z.cps.toList, c < 128 := by
  unfold Txt.isascii
  rw [← Array.all_toList, List.all_eq_true]
  simp
theorem pri_list {z : Str} : Txt.isprintable z = true ↔ ∀ c ∈ z.cps.toList, Unicode.isPrintable c = true := by
  unfold Txt.isprintable
  rw [← Array.all_toList, List.all_eq_true]
theorem isPr_iff {z : Str} : isPr z = true ↔ ∀ c ∈ z.cps.toList, 32 ≤ c ∧ c ≤ 126 ∧ c ≠ 37 := by
  unfold isPr
  rw [List.all_eq_true]
  simp [prC, and_assoc]
theorem out37_len {l : List Nat} : (out37 l).length = l.length ↔ ∀ c ∈ l, c ≠ 37 := by
  unfold out37
  rw [List.length_filter_eq_length_iff]
  simp
section
variable {P : Program} {w : World} {K : PySem.W.Frag} {mg : Str → Option Value} {base : Heap}
theorem c_is_printable {C_Accounts : Addr} {C_Sessions : Addr} {C_Store : Addr} {C_State : Addr} {C_BadText : Addr} {C_Refused : Addr} {C_BadCommand : Addr} {C_VERBS : Addr} (T : Txt K mg w C_Accounts C_Sessions C_Store C_State C_BadText C_Refused C_BadCommand C_VERBS) : Cal P w K mg base 1 "is_printable" (spPrint K) [] := by
  refine cal T.d_is_printable sc_is_printable (fun vs H Q E h => ?_) (fun f cdv A outer s H vs Q E hr h => ?_)
  · obtain ⟨v, rfl, _⟩ := h; rfl
  obtain ⟨v, rfl, h⟩ := h
  refine ⟨_, (pss_cons (ps_if (PW.pt (pw_or (pt_not (pt_val (pe_callB (kisi (K := K)) (by rfl) T.z_isinstance (by decide +kernel) (pa_cons (pv 0) (pa_cons (pe_bltn (v := .ty "str") (by rfl) T.z_str (by decide +kernel) rfl) pa_nil))))) (pw_or (pt_not (pt_val (pe_bm0 PySem.F.plainAttrs_str PySem.F.slot_str_isascii PySem.F.type_str_isascii mt_isascii (pv 0)))) (pw_or1 (pt_not (pt_val (pe_bm0 PySem.F.plainAttrs_str PySem.F.slot_str_isprintable PySem.F.type_str_isprintable mt_isprintable (pv 0)))))))) (pss_one (ps_ret pe_bl)) pss_nil)
      (pss_one (ps_ret (pe_cmpR op_eq (pe_callB call_len_str (by rfl) T.z_len (by decide +kernel) (pa_cons (pe_bm PySem.F.plainAttrs_str PySem.F.slot_str_translate PySem.F.type_str_translate (mt_tr37 rfl) (pv 0) (pa_cons (pe_disp (pps_cons pe_int pe_non pps_nil) rfl rfl (by intro z; cases z) (by decide)) pa_nil)) pa_nil)) (pe_callB call_len_str (by rfl) T.z_len (by decide +kernel) (pa_cons (pv 0) pa_nil)) (nomark _))))), ?_⟩
  rcases h with ⟨z, rfl, hz, q⟩ | ⟨⟨T, ty, hk⟩, q⟩
  · walk_at "rds"
    walk_at "isi"
    walk_at "rds"
    refine ⟨rfl, _, rfl, rfl, trivial, ?_⟩
    walk_at "rds"
    cases ha : Txt.isascii z with
    | false =>
      have e : isPr z = false := by
        cases e : isPr z with
        | false => rfl
        | true =>
          have := asc_list.mpr (fun c hc => by have := isPr_iff.mp e c hc; omega)
          rw [ha] at this; cases this
      rw [e] at q
      walk_at "rds"
      exact q H (Same.refl H)
    | true =>
      have ha := asc_list.mp ha
      walk_at "rds"
      refine ⟨rfl, _, rfl, rfl, trivial, ?_⟩
      walk_at "rds"
      cases hp : Txt.isprintable z with
      | false =>
        have e : isPr z = false := by
          cases e : isPr z with
          | false => rfl
          | true =>
            have := pri_list.mpr (fun c hc => by have := isPr_iff.mp e c hc; exact (print128 c (by omega)).mpr ⟨by omega, by omega⟩)
            rw [hp] at this; cases this
        rw [e] at q
        walk_at "rds"
        exact q H (Same.refl H)
      | true =>
        have hp := pri_list.mp hp
        walk_at "rds"
        refine ⟨rfl, fun p np => ?_⟩
        refine ⟨upd_same, [(Sum.inl 37, .non)], rfl, by decide, ?_⟩
        refine ⟨z, p, rfl, rfl, upd_same, ha, hz, ?_⟩
        have l37 : (SX.S (out37 z.cps.toList)).length ≤ 16000000 := by
          rw [SX.S_len]
          exact Nat.le_trans (List.length_filter_le _ _) (by rw [len_tl]; exact hz)
        walk_at "rds"
        have e : decide (V.int ((SX.S (out37 z.cps.toList)).length : Int) = V.int (z.length : Int)) = isPr z := by
          rw [SX.S_len]
          have hl := @out37_len z.cps.toList
          rw [len_tl] at hl
          cases e : isPr z with
          | true =>
            refine decide_eq_true ?_
            rw [hl.mpr (fun c hc => (isPr_iff.mp e c hc).2.2)]
          | false =>
            refine decide_eq_false fun z' => ?_
            have h1 := hl.mp (Int.ofNat.inj (V.int.inj z'))
            have : isPr z = true := isPr_iff.mpr (fun c hc => ⟨((print128 c (ha c hc)).mp (hp c hc)).1, ((print128 c (ha c hc)).mp (hp c hc)).2, h1 c hc⟩)
            rw [e] at this; cases this
        rw [← e] at q
        exact q _ (same_mut (same_upd np) np)
  · walk_at "rds"
    refine ⟨_, .ty _, _, _, false, rfl, .ty _, ty, kit_ty hk, ?_⟩
    walk_at "rds"
    exact q
end

/-! ### words: is_decimal, is_name, is_key, is_value, is_amount -/
def dg (c : Nat) : Bool := decide (48 ≤ c) && decide (c ≤ 57)
/-- a number in decimal digits, by its codes -/
def dcL (l : List Nat) : Bool := !l.isEmpty && l.all dg && (l == [48] || l.head? != some 48)
def inL (l ch : List Nat) : Bool := l.all fun c => decide (c ∈ ch)
theorem digit128 : ∀ c : Nat, c < 128 → Unicode.isDigit c = dg c := by
  intro c hc
  have h : ∀ c : Fin 128, Unicode.isDigit c.val = dg c.val := by decide +kernel
  exact h ⟨c, hc⟩
theorem dg_lt {c : Nat} (h : dg c = true) : 48 ≤ c ∧ c ≤ 57 := by
  unfold dg at h
  rw [Bool.and_eq_true] at h
  exact ⟨of_decide_eq_true h.1, of_decide_eq_true h.2⟩
theorem all_digits {z : Str} (ha : Txt.isascii z = true) : Txt.isdigit z = (!z.cps.toList.isEmpty && z.cps.toList.all dg) := by
  unfold Txt.isdigit
  have h := asc_list.mp ha
  rw [← Array.all_toList]
  have e1 : decide (z.length > 0) = !z.cps.toList.isEmpty := by
    rw [← len_tl]
    cases z.cps.toList <;> simp
  rw [e1]
  congr 1
  revert h
  generalize z.cps.toList = l
  intro h
  induction l with
  | nil => rfl
  | cons c r ih =>
    rw [List.all_cons, List.all_cons, digit128 c (h c List.mem_cons_self), ih (fun d hd => h d (List.mem_cons_of_mem _ hd))]
theorem dcL_asc {z : Str} (h : Txt.isascii z = false) : dcL z.cps.toList = false := by
  cases e : dcL z.cps.toList with
  | false => rfl
  | true =>
    unfold dcL at e
    rw [Bool.and_eq_true, Bool.and_eq_true] at e
    have := asc_list.mpr (fun c hc => by have := dg_lt (List.all_eq_true.mp e.1.2 c hc); omega)
    rw [h] at this; cases this
theorem str_eq_l {a b : Str} : a = b ↔ a.cps.toList = b.cps.toList := by
  constructor
  · rintro rfl; rfl
  · intro h
    cases a; cases b
    simp only [Str.mk.injEq]
    exact Array.toList_inj.mp h
def spStrB (K : PySem.W.Frag) (f : List Nat → Bool) : Sp := fun vs H Q _ => ∃ (z : Str), vs = [.str z] ∧ z.length ≤ 10000 ∧ ∀ H', Same H H' → Q (.bl (f z.cps.toList)) H'
section
variable {P : Program} {w : World} {K : PySem.W.Frag} {mg : Str → Option Value} {base : Heap}
theorem c_is_decimal {C_Accounts : Addr} {C_Sessions : Addr} {C_Store : Addr} {C_State : Addr} {C_BadText : Addr} {C_Refused : Addr} {C_BadCommand : Addr} {C_VERBS : Addr} (T : Txt K mg w C_Accounts C_Sessions C_Store C_State C_BadText C_Refused C_BadCommand C_VERBS) : Cal P w K mg base 1 "is_decimal" (spStrB K dcL) [] := by
  refine cal T.d_is_decimal sc_is_decimal (fun vs H Q E h => ?_) (fun f cdv A' outer s H vs Q E hr h => ?_)
  · obtain ⟨z, rfl, _⟩ := h; rfl
  obtain ⟨z, rfl, hz, q⟩ := h
  refine ⟨_, (pss_one (ps_ret (pe_and (pe_bm0 PySem.F.plainAttrs_str PySem.F.slot_str_isascii PySem.F.type_str_isascii mt_isascii (pv 0)) (pe_and (pe_bm0 PySem.F.plainAttrs_str PySem.F.slot_str_isdigit PySem.F.type_str_isdigit mt_isdigit (pv 0)) (pe_one (pe_or (pe_cmpR op_eq (pv 0) pe_str (nomark _)) (pe_one (pe_cmpR op_ne (pe_ix ix_str (pv 0) pe_int (fun _ _ => rfl)) pe_str (nomark _))))))))), ?_⟩
  have q := q H (Same.refl H)
  walk_at "rds"
  refine ⟨rfl, _, rfl, rfl, trivial, ?_⟩
  walk_at "rds"
  cases ha : Txt.isascii z with
  | false =>
    rw [dcL_asc ha] at q
    refine ifF rfl ?_
    exact q
  | true =>
    refine ifT rfl ?_
    walk_at "rds"
    refine ⟨rfl, _, rfl, rfl, trivial, ?_⟩
    walk_at "rds"
    rw [all_digits ha]
    cases hd : (!z.cps.toList.isEmpty && z.cps.toList.all dg) with
    | false =>
      have e : dcL z.cps.toList = false := by unfold dcL; rw [hd]; rfl
      rw [e] at q
      refine ifF rfl ?_
      exact q
    | true =>
      have e : dcL z.cps.toList = (z.cps.toList == [48] || z.cps.toList.head? != some 48) := by unfold dcL; rw [hd]; rfl
      rw [e] at q
      refine ifT rfl ?_
      walk_at "rds"
      have l0 : (Str.ofString "0").cps.toList = [48] := by decide
      refine ite2 (fun e0 => ?_) (fun e0 => ?_)
      · have e0 : z = Str.ofString "0" := V.str.inj (of_decide_eq_true e0)
        rw [e0, l0] at q
        exact q
      · have e0 : ¬ z = Str.ofString "0" := fun h => e0 (decide_eq_true (by rw [h]))
        have e1 : z.cps.toList ≠ [48] := fun h => e0 (str_eq_l.mpr (h.trans l0.symm))
        obtain ⟨c, r, hl⟩ : ∃ c r, z.cps.toList = c :: r := by
          cases hl : z.cps.toList with
          | nil => rw [hl] at hd; simp at hd
          | cons c r => exact ⟨c, r, rfl⟩
        have h0 : atI z.cps.toList 0 = some c := atI_nat (j := 0) (by rw [hl]; rfl)
        walk_at "rds"
        refine ⟨z, _, c, rfl, rfl, sz1000 (by omega), h0, ?_⟩
        walk_at "rds"
        have e2 : (z.cps.toList == [48]) = false := by simpa using e1
        rw [e2, hl, Bool.false_or] at q
        have e3 : (!decide (V.str ⟨#[c]⟩ = V.str (Str.ofString "0"))) = ((c :: r).head? != some 48) := by
          by_cases h : c = 48
          · subst h; rfl
          · rw [decide_eq_false (fun z => h (by
              have := congrArg (fun v => match v with | V.str s => s.cps.toList | _ => []) z
              have : [c] = [48] := this
              simpa using this))]
            simp [h]
        rw [← e3] at q
        exact q
def spCons (K : PySem.W.Frag) : Sp := fun vs H Q _ => ∃ (z ch : Str) (m : Int), vs = [.str z, .str ch, .int m] ∧ z.length ≤ 10000 ∧ ∀ H', Same H H' → Q (.bl (decide (1 ≤ z.cps.toList.length) && decide ((z.cps.toList.length : Int) ≤ m) && inL z.cps.toList ch.cps.toList)) H'
theorem c_consists_of {C_Accounts : Addr} {C_Sessions : Addr} {C_Store : Addr} {C_State : Addr} {C_BadText : Addr} {C_Refused : Addr} {C_BadCommand : Addr} {C_VERBS : Addr} (T : Txt K mg w C_Accounts C_Sessions C_Store C_State C_BadText C_Refused C_BadCommand C_VERBS) : Cal P w K mg base 1 "consists_of" (spCons K) [] := by
  refine cal T.d_consists_of sc_consists_of (fun vs H Q E h => ?_) (fun f cdv A' outer s H vs Q E hr h => ?_)
  · obtain ⟨z, ch, m, rfl, _⟩ := h; rfl
  obtain ⟨z, ch, m, rfl, hz, q⟩ := h
  refine ⟨_, (pss_one (ps_ret (pe_and (pe_chain op_le op_le pe_int (pe_callB call_len_str (by rfl) T.z_len (by decide +kernel) (pa_cons (pv 0) pa_nil)) (pv 2)) (pe_one (pe_callB (cr_all rfl) (by rfl) T.z_all (by decide +kernel) (pa_cons (pe_lc (own := [("character", 3)]) (g := gName 3) (by rfl) sc_consists_of.nd (pi_str (pv 0)) (blkOk_by (own := [("character", 3)]) (N := ["word", "characters", "most", "character"]) (sc := defScope s_consists_of) (by decide +kernel)) (fun _ _ _ _ _ => pg_name (i := 3) sc_consists_of.nd rfl (Or.inl rfl)) (fun _ _ _ _ _ => pts_nil) (fun _ _ _ _ _ => (pe_cmpR op_inS (pv 3) (pv 1) (by rfl)))) pa_nil)))))), ?_⟩
  rw [len_tl] at q
  walk_at "rds"
  refine ite2 (fun e => ?_) (fun e => ?_)
  · have e : (1 : Int) ≤ (z.length : Int) := of_decide_eq_true e
    rw [decide_eq_true (show 1 ≤ z.length by omega), Bool.true_and] at q
    walk_at "rds"
    cases e2 : decide ((z.length : Int) ≤ m) with
    | false =>
      rw [e2] at q
      refine ifF rfl ?_
      exact q H (Same.refl H)
    | true =>
      rw [e2] at q
      refine ifT rfl ?_
      walk_at "rds"
      intro D hD
      refine lc_it walk_str (Pv := fun i H' => Same H H' ∧ H' D = some (.lst (((z.cps.toList.take i).map (fun c => decide (c ∈ ch.cps.toList))).map V.bl))) ⟨same_upd hD, upd_same⟩ (fun _ _ _ _ => trivial) (fun i x H6 H7 hi hp hy => ?_) (fun H6 hp => ?_)
      · obtain ⟨s6, hD6⟩ := hp
        obtain ⟨rfl, c, gc, rfl⟩ := hy
        have gc : z.cps.toList[i]? = some c := by rw [Array.getElem?_toList]; exact gc
        refine ⟨rfl, tyes ?_⟩
        walk_at "rds"
        refine ⟨_, hD6, by rw [List.length_map, List.length_map, List.length_take, len_tl]; exact sz1000' (by omega), same_mut s6 hD, ?_⟩
        rw [upd_same, List.take_add_one, gc, Option.toList_some, List.map_append, List.map_append]
        rfl
      · obtain ⟨s6, hD6⟩ := hp
        rw [List.take_of_length_le (by rw [Array.length_toList]; exact Nat.le_refl _)] at hD6
        walk_at "rds"
        refine ⟨D, _, rfl, sq hD6, ?_⟩
        have e3 : ((z.cps.toList.map (fun c => decide (c ∈ ch.cps.toList))).all id) = inL z.cps.toList ch.cps.toList := by
          unfold inL; rw [List.all_map]; rfl
        rw [e3]
        have q := q H6 s6
        rw [Bool.true_and] at q
        exact q
  · have e : ¬ (1 : Int) ≤ (z.length : Int) := fun h => e (decide_eq_true h)
    rw [decide_eq_false (show ¬ 1 ≤ z.length by omega)] at q
    refine ⟨false, rfl, ?_⟩
    exact q H (Same.refl H)
def lettersL : List Nat := (Str.ofString "abcdefghijklmnopqrstuvwxyz").cps.toList
def keysL : List Nat := (Str.ofString "abcdefghijklmnopqrstuvwxyz.0123456789").cps.toList
def nmL (l : List Nat) : Bool := decide (1 ≤ l.length) && decide ((l.length : Int) ≤ 12) && inL l lettersL
def kyL (l : List Nat) : Bool := decide (1 ≤ l.length) && decide ((l.length : Int) ≤ 20) && inL l keysL
def amL (l : List Nat) : Bool := decide ((l.length : Int) ≤ 12) && dcL l
def vlL (l : List Nat) : Bool := !l.isEmpty && !decide (32 ∈ l) && !decide (59 ∈ l) && (l.all prC && decide ((l.length : Int) ≤ 40))
theorem c_is_name {C_Accounts : Addr} {C_Sessions : Addr} {C_Store : Addr} {C_State : Addr} {C_BadText : Addr} {C_Refused : Addr} {C_BadCommand : Addr} {C_VERBS : Addr} (T : Txt K mg w C_Accounts C_Sessions C_Store C_State C_BadText C_Refused C_BadCommand C_VERBS) : Cal P w K mg base 2 "is_name" (spStrB K nmL) [] := by
  have c_consists_of := c_consists_of (P := P) (w := w) (base := base) T
  refine cal T.d_is_name sc_is_name (fun vs H Q E h => ?_) (fun f cdv A' outer s H vs Q E hr h => ?_)
  · obtain ⟨z, rfl, _⟩ := h; rfl
  obtain ⟨z, rfl, hz, q⟩ := h
  refine ⟨_, (pss_one (ps_ret (pe_c c_consists_of hr (by omega) (by rfl) (pa_cons (pv 0) (pa_cons (pe_gc (by rfl) T.c_LETTERS) (pa_cons (pe_gc (by rfl) T.c_MOST_NAME) pa_nil)))))), ?_⟩
  walk_at "rds"
  exact ⟨z, _, 12, rfl, hz, fun H' s => q H' s⟩
theorem c_is_key {C_Accounts : Addr} {C_Sessions : Addr} {C_Store : Addr} {C_State : Addr} {C_BadText : Addr} {C_Refused : Addr} {C_BadCommand : Addr} {C_VERBS : Addr} (T : Txt K mg w C_Accounts C_Sessions C_Store C_State C_BadText C_Refused C_BadCommand C_VERBS) : Cal P w K mg base 2 "is_key" (spStrB K kyL) [] := by
  have c_consists_of := c_consists_of (P := P) (w := w) (base := base) T
  refine cal T.d_is_key sc_is_key (fun vs H Q E h => ?_) (fun f cdv A' outer s H vs Q E hr h => ?_)
  · obtain ⟨z, rfl, _⟩ := h; rfl
  obtain ⟨z, rfl, hz, q⟩ := h
  refine ⟨_, (pss_one (ps_ret (pe_c c_consists_of hr (by omega) (by rfl) (pa_cons (pv 0) (pa_cons (pe_gc (by rfl) T.c_KEY_CHARACTERS) (pa_cons (pe_gc (by rfl) T.c_MOST_KEY) pa_nil)))))), ?_⟩
  walk_at "rds"
  exact ⟨z, _, 20, rfl, hz, fun H' s => q H' s⟩
theorem c_is_amount {C_Accounts : Addr} {C_Sessions : Addr} {C_Store : Addr} {C_State : Addr} {C_BadText : Addr} {C_Refused : Addr} {C_BadCommand : Addr} {C_VERBS : Addr} (T : Txt K mg w C_Accounts C_Sessions C_Store C_State C_BadText C_Refused C_BadCommand C_VERBS) : Cal P w K mg base 2 "is_amount" (spStrB K amL) [] := by
  have c_is_decimal := c_is_decimal (P := P) (w := w) (base := base) T
  refine cal T.d_is_amount sc_is_amount (fun vs H Q E h => ?_) (fun f cdv A' outer s H vs Q E hr h => ?_)
  · obtain ⟨z, rfl, _⟩ := h; rfl
  obtain ⟨z, rfl, hz, q⟩ := h
  refine ⟨_, (pss_one (ps_ret (pe_and (pe_cmpR op_le (pe_callB call_len_str (by rfl) T.z_len (by decide +kernel) (pa_cons (pv 0) pa_nil)) (pe_gc (by rfl) T.c_MOST_AMOUNT) (nomark _)) (pe_one (pe_c c_is_decimal hr (by omega) (by rfl) (pa_cons (pv 0) pa_nil)))))), ?_⟩
  unfold amL at q
  rw [len_tl] at q
  walk_at "rds"
  cases e : decide ((z.length : Int) ≤ 12) with
  | false =>
    rw [e] at q
    refine ifF rfl ?_
    exact q H (Same.refl H)
  | true =>
    rw [e] at q
    refine ifT rfl ?_
    walk_at "rds"
    exact ⟨hz, fun H' s => q H' s⟩
def spShortS (K : PySem.W.Frag) : Sp := fun vs H Q _ => ∃ (z : Str) (m : Int), vs = [.str z, .int m] ∧ z.length ≤ 10000 ∧ ∀ H', Same H H' → Q (.bl (isPr z && decide ((z.length : Int) ≤ m))) H'
theorem c_is_shortS {C_Accounts : Addr} {C_Sessions : Addr} {C_Store : Addr} {C_State : Addr} {C_BadText : Addr} {C_Refused : Addr} {C_BadCommand : Addr} {C_VERBS : Addr} (T : Txt K mg w C_Accounts C_Sessions C_Store C_State C_BadText C_Refused C_BadCommand C_VERBS) : Cal P w K mg base 2 "is_short" (spShortS K) [] := by
  have c_is_printable := c_is_printable (P := P) (w := w) (base := base) T
  refine cal T.d_is_short sc_is_short (fun vs H Q E h => ?_) (fun f cdv A' outer s H vs Q E hr h => ?_)
  · obtain ⟨z, m, rfl, _⟩ := h; rfl
  obtain ⟨z, m, rfl, hz, q⟩ := h
  refine ⟨_, (pss_one (ps_ret (pe_and (pe_c c_is_printable hr (by omega) (by rfl) (pa_cons (pv 0) pa_nil)) (pe_one (pe_cmpR op_le (pe_callB call_len_str (by rfl) T.z_len (by decide +kernel) (pa_cons (pv 0) pa_nil)) (pv 1) (nomark _)))))), ?_⟩
  refine ⟨_, rfl, .str z, rfl, .inl ⟨z, rfl, by omega, fun H' sm => ?_⟩⟩
  have q := q H' sm
  refine ⟨_, rfl, ?_⟩
  cases e : isPr z with
  | false =>
    rw [e] at q
    refine ifF rfl ?_
    exact q
  | true =>
    rw [e] at q
    refine ifT rfl ?_
    walk_at "rds"
    exact q
theorem c_is_value {C_Accounts : Addr} {C_Sessions : Addr} {C_Store : Addr} {C_State : Addr} {C_BadText : Addr} {C_Refused : Addr} {C_BadCommand : Addr} {C_VERBS : Addr} (T : Txt K mg w C_Accounts C_Sessions C_Store C_State C_BadText C_Refused C_BadCommand C_VERBS) : Cal P w K mg base 3 "is_value" (spStrB K vlL) [] := by
  have c_is_short := c_is_shortS (P := P) (w := w) (base := base) T
  refine cal T.d_is_value sc_is_value (fun vs H Q E h => ?_) (fun f cdv A' outer s H vs Q E hr h => ?_)
  · obtain ⟨z, rfl, _⟩ := h; rfl
  obtain ⟨z, rfl, hz, q⟩ := h
  refine ⟨_, (pss_one (ps_ret (pe_and (pe_cmpR op_ne (pv 0) pe_str (nomark _)) (pe_and (pe_cmpR op_notInS pe_str (pv 0) (by rfl)) (pe_and (pe_cmpR op_notInS pe_str (pv 0) (by rfl)) (pe_one (pe_c c_is_short hr (by omega) (by rfl) (pa_cons (pv 0) (pa_cons (pe_gc (by rfl) T.c_MOST_VALUE) pa_nil))))))))), ?_⟩
  have hlen := len_tl z
  have e1 : (!decide (V.str z = V.str (Str.ofString ""))) = !z.cps.toList.isEmpty := by
    by_cases h : z = Str.ofString ""
    · subst h; decide
    · rw [decide_eq_false (fun e => h (V.str.inj e))]
      cases e : z.cps.toList with
      | nil => exact absurd (str_eq_l.mpr (e.trans (by decide : [] = (Str.ofString "").cps.toList))) h
      | cons _ _ => rfl
  have s1 : (Str.ofString " ") = ⟨#[32]⟩ := by decide
  have s2 : (Str.ofString ";") = ⟨#[59]⟩ := by decide
  walk_at "rds"
  rw [e1]
  unfold vlL at q
  cases e1 : z.cps.toList.isEmpty with
  | true =>
    rw [e1] at q
    refine ifF rfl ?_
    exact q H (Same.refl H)
  | false =>
    rw [e1] at q
    refine ifT rfl ?_
    walk_at "rds"
    cases e2 : decide (32 ∈ z.cps.toList) with
    | true =>
      rw [e2] at q
      refine ifF (by show (!decide (32 ∈ z.cps.toList)) = false; rw [e2]; rfl) ?_
      exact q H (Same.refl H)
    | false =>
      rw [e2] at q
      refine ifT (by show (!decide (32 ∈ z.cps.toList)) = true; rw [e2]; rfl) ?_
      walk_at "rds"
      cases e3 : decide (59 ∈ z.cps.toList) with
      | true =>
        rw [e3] at q
        refine ifF (by show (!decide (59 ∈ z.cps.toList)) = false; rw [e3]; rfl) ?_
        exact q H (Same.refl H)
      | false =>
        rw [e3, hlen] at q
        refine ifT (by show (!decide (59 ∈ z.cps.toList)) = true; rw [e3]; rfl) ?_
        walk_at "rds"
        exact ⟨z, 40, rfl, hz, fun H' s => q H' s⟩
end

/-! ### numbers have one form -/
def prL (l : List Nat) : Bool := l.all prC
theorem dg_all {l : List Nat} (h : l.all dg = true) : PySem.NumText.AllDigits l := fun c hc => dg_lt (List.all_eq_true.mp h c hc)
theorem digitsVal_snoc (l : List Nat) (c : Nat) : PySem.NumText.digitsVal (l ++ [c]) = PySem.NumText.digitsVal l * 10 + (c - 48) := by
  unfold PySem.NumText.digitsVal
  rw [List.foldl_append]; rfl
theorem numL_back : ∀ (n : Nat) (l : List Nat), l.length = n → l ≠ [] → PySem.NumText.AllDigits l → (l = [48] ∨ l.head? ≠ some 48) → TL.numL (PySem.NumText.digitsVal l) = l := by
  intro n
  induction n with
  | zero => intro l h1 h2; exact absurd (List.length_eq_zero_iff.mp h1) h2
  | succ n ih =>
    intro l h1 h2 h3 h4
    obtain ⟨q, c, rfl⟩ : ∃ q c, l = q ++ [c] := ⟨_, _, (List.dropLast_concat_getLast h2).symm⟩
    have hc := h3 c (by simp)
    rw [digitsVal_snoc]
    cases q with
    | nil =>
      show TL.numL (0 * 10 + (c - 48)) = [c]
      rw [TL.numL_lt (by omega)]
      exact congrArg (· :: []) (by omega)
    | cons a r =>
      have ha := h3 a (by simp)
      have hd : a ≠ 48 := by
        rintro rfl
        rcases h4 with h4 | h4
        · simp at h4
        · exact h4 rfl
      have ih := ih (a :: r) (by simpa using h1) (by simp) (fun d m => h3 d (by simp only [List.mem_append]; exact .inl m)) (.inr (by simpa using hd))
      have hp : 1 ≤ PySem.NumText.digitsVal (a :: r) := by
        cases e : PySem.NumText.digitsVal (a :: r) with
        | zero =>
          rw [e, TL.numL_lt (by omega)] at ih
          injection ih with e1 _
          omega
        | succ k => omega
      rw [TL.numL_step (by omega)]
      rw [show (PySem.NumText.digitsVal (a :: r) * 10 + (c - 48)) / 10 = PySem.NumText.digitsVal (a :: r) by omega, ih,
        show 48 + (PySem.NumText.digitsVal (a :: r) * 10 + (c - 48)) % 10 = c by omega]
theorem dcL_iff {l : List Nat} : dcL l = true ↔ l ≠ [] ∧ PySem.NumText.AllDigits l ∧ (l = [48] ∨ l.head? ≠ some 48) := by
  unfold dcL
  rw [Bool.and_eq_true, Bool.and_eq_true, Bool.or_eq_true]
  constructor
  · rintro ⟨⟨a, b⟩, c⟩
    refine ⟨fun z => (by rw [z] at a; cases a), dg_all b, c.imp (fun z => eq_of_beq z) (fun z y => by rw [y] at z; simp at z)⟩
  · rintro ⟨a, b, c⟩
    refine ⟨⟨by cases l; exact absurd rfl a; rfl, List.all_eq_true.mpr fun x hx => by have := b x hx; unfold dg; rw [decide_eq_true this.1, decide_eq_true this.2]; rfl⟩, ?_⟩
    rcases c with c | c
    · exact .inl (by rw [c]; rfl)
    · exact .inr (by simpa using c)
theorem dcL_num {l : List Nat} (h : dcL l = true) : TL.numL (PySem.NumText.digitsVal l) = l := by
  obtain ⟨a, b, c⟩ := dcL_iff.mp h
  exact numL_back _ l rfl a b c
theorem numL_head {n : Nat} (h : 10 ≤ n) : ∃ a r, TL.numL n = a :: r ∧ a ≠ 48 := by
  induction n using Nat.strongRecOn with
  | _ n ih =>
    rw [TL.numL_step h]
    by_cases g : n / 10 < 10
    · rw [TL.numL_lt g]
      exact ⟨_, _, rfl, by omega⟩
    · obtain ⟨a, r, e, ha⟩ := ih (n / 10) (by omega) (by omega)
      rw [e]
      exact ⟨a, _, rfl, ha⟩
theorem num_dcL (n : Nat) : dcL (TL.numL n) = true := by
  refine dcL_iff.mpr ⟨TL.numL_ne n, TL.numL_digits n, ?_⟩
  by_cases h : n < 10
  · rw [TL.numL_lt h]
    by_cases z : n = 0
    · subst z; exact .inl rfl
    · exact .inr (by simpa using z)
  · obtain ⟨a, r, e, ha⟩ := numL_head (n := n) (by omega)
    rw [e]
    exact .inr (by simpa using ha)

/-! ### BadCommand(reason, statement) -/
section
variable {P : Program} {w : World} {K : PySem.W.Frag} {mg : Str → Option Value} {base : Heap}
theorem i_BadCommand {C_Accounts : Addr} {C_Sessions : Addr} {C_Store : Addr} {C_State : Addr} {C_BadText : Addr} {C_Refused : Addr} {C_BadCommand : Addr} {C_VERBS : Addr} (T : Txt K mg w C_Accounts C_Sessions C_Store C_State C_BadText C_Refused C_BadCommand C_VERBS) : ExMk P w K mg base 1 "BadCommand" C_BadCommand (spInit2 C_BadCommand "reason" "statement") := by
  refine exmk T.x_BadCommand T.ei_BadCommand sc_BadCommand____init__ (fun vs H Q E h => ?_) (fun f cdv A' outer s H vs Q E hr h => ?_)
  · obtain ⟨a, r, t, rfl, _⟩ := h; rfl
  obtain ⟨a, r, t, rfl, ha, q⟩ := h
  refine ⟨_, (pss_cons (ps_ost (pv 0) (pv 1))
      (pss_one (ps_ost (pv 0) (pv 2)))), ?_⟩
  walk_at "rds"
  refine ⟨a, C_BadCommand, rfl, T.x_BadCommand.ox, T.xn_BadCommand_reason, .inl ⟨ha, fun d hd hne => ?_⟩⟩
  walk_at "rds"
  refine ⟨a, C_BadCommand, rfl, T.x_BadCommand.ox, T.xn_BadCommand_statement, .inr ⟨d, _, upd_same, by rw [upd_ne hne]; exact upd_same, (by show 1 ≤ 900; decide), ?_⟩⟩
  exact q d hd hne
end

/-! ### split by one sign, by codes -/
def cutsN (c : Nat) : Nat → Nat → List Nat → List Nat
  | 0, _, _ => []
  | _ + 1, _, [] => []
  | n + 1, p, a :: r => if a = c then p :: cutsN c n (p + 1) r else cutsN c (n + 1) (p + 1) r
theorem cutsN_zero (c p : Nat) (l : List Nat) : cutsN c 0 p l = [] := by simp [cutsN]
theorem cutsN_nil (c n p : Nat) : cutsN c n p [] = [] := by cases n <;> simp [cutsN]
open PySem.StrLaws in
theorem occ_run (x : Str) (c lim : Nat) : ∀ (n a free : Nat) (arr : Array Nat), free ≤ a → a + n = x.length + 1 →
    (forIn (List.range' a n) (arr, free) (occBody x ⟨#[c]⟩ x.length lim)).run.fst.toList = arr.toList ++ cutsN c (lim - arr.size) a (x.cps.toList.drop a)
  | 0, a, free, arr, _, h => by
    rw [List.drop_eq_nil_of_le (by rw [len_tl]; omega), cutsN_nil, List.append_nil]; rfl
  | n + 1, a, free, arr, hf, h => by
    rw [List.range'_succ, List.forIn_cons]
    have one := subAt_one x c a
    have l1 : (⟨#[c]⟩ : Str).length = 1 := rfl
    by_cases e : a = x.length
    · have c2 : ¬ ((((arr, free).fst.size < lim ∧ (arr, free).snd ≤ a) ∧ a + (⟨#[c]⟩ : Str).length ≤ x.length) ∧ PySem.Builtin.Str.subAt x ⟨#[c]⟩ a = true) := fun h => by have := h.1.2; omega
      unfold occBody
      rw [if_neg c2]
      have ih := occ_run x c lim n (a + 1) free arr (by omega) (by omega)
      unfold occBody at ih
      refine ih.trans ?_
      rw [List.drop_eq_nil_of_le (by rw [len_tl]; omega), List.drop_eq_nil_of_le (by rw [len_tl]; omega), cutsN_nil, cutsN_nil]
    · have ha : a < x.cps.toList.length := by rw [len_tl]; omega
      have dr := List.drop_eq_getElem_cons ha
      by_cases ec : x.cps.toList[a] = c
      · by_cases hs : arr.size < lim
        · have hc := one.mpr (by rw [List.getElem?_eq_getElem ha, ec])
          have c1 : (((arr, free).fst.size < lim ∧ (arr, free).snd ≤ a) ∧ a + (⟨#[c]⟩ : Str).length ≤ x.length) ∧ PySem.Builtin.Str.subAt x ⟨#[c]⟩ a = true := ⟨⟨⟨hs, hf⟩, hc.1⟩, hc.2⟩
          unfold occBody
          rw [if_pos c1]
          have ih := occ_run x c lim n (a + 1) (a + (⟨#[c]⟩ : Str).length) (arr.push a) (by omega) (by omega)
          unfold occBody at ih
          refine ih.trans ?_
          rw [dr, ec, show lim - arr.size = (lim - (arr.push a).size) + 1 by rw [Array.size_push]; omega, cutsN, if_pos rfl, Array.toList_push, List.append_assoc]; rfl
        · have c2 : ¬ ((((arr, free).fst.size < lim ∧ (arr, free).snd ≤ a) ∧ a + (⟨#[c]⟩ : Str).length ≤ x.length) ∧ PySem.Builtin.Str.subAt x ⟨#[c]⟩ a = true) := fun h => hs h.1.1.1
          unfold occBody
          rw [if_neg c2]
          have ih := occ_run x c lim n (a + 1) free arr (by omega) (by omega)
          unfold occBody at ih
          refine ih.trans ?_
          rw [show lim - arr.size = 0 by omega, cutsN_zero, cutsN_zero]
      · have c2 : ¬ ((((arr, free).fst.size < lim ∧ (arr, free).snd ≤ a) ∧ a + (⟨#[c]⟩ : Str).length ≤ x.length) ∧ PySem.Builtin.Str.subAt x ⟨#[c]⟩ a = true) := fun h => by
          have := one.mp ⟨h.1.2, h.2⟩
          rw [List.getElem?_eq_getElem ha] at this
          exact ec (Option.some.inj this)
        unfold occBody
        rw [if_neg c2]
        have ih := occ_run x c lim n (a + 1) free arr (by omega) (by omega)
        unfold occBody at ih
        refine ih.trans ?_
        rw [dr]
        cases lim - arr.size with
        | zero => rw [cutsN_zero, cutsN_zero]
        | succ m => rw [cutsN, if_neg ec]
def hdL (u : List Nat) : List (List Nat) → List (List Nat)
  | [] => [u]
  | p :: q => (u ++ p) :: q
def spN (c : Nat) : Nat → List Nat → List (List Nat)
  | 0, l => [l]
  | _ + 1, [] => [[]]
  | n + 1, a :: r => if a = c then [] :: spN c n r else hdL [a] (spN c (n + 1) r)
theorem spN_zero (c : Nat) (l : List Nat) : spN c 0 l = [l] := by simp [spN]
theorem spN_nil (c : Nat) : ∀ n : Nat, spN c n [] = [[]]
  | 0 => spN_zero c []
  | n + 1 => by simp [spN]
theorem spN_ne (c : Nat) : ∀ (n : Nat) (l : List Nat), ∃ p q, spN c n l = p :: q
  | 0, l => ⟨_, _, spN_zero c l⟩
  | n + 1, [] => ⟨_, _, spN_nil c (n + 1)⟩
  | n + 1, a :: r => by
    rw [spN]
    split
    · exact ⟨_, _, rfl⟩
    · obtain ⟨p, q, e⟩ := spN_ne c (n + 1) r
      rw [e]; exact ⟨_, _, rfl⟩
theorem hdL_nil {l : List (List Nat)} (h : ∃ p q, l = p :: q) : hdL [] l = l := by
  obtain ⟨p, q, rfl⟩ := h; rfl
theorem hdL_app {l : List (List Nat)} {u v : List Nat} (h : ∃ p q, l = p :: q) : hdL (u ++ v) l = hdL u (hdL v l) := by
  obtain ⟨p, q, rfl⟩ := h; show (u ++ v ++ p) :: q = (u ++ (v ++ p)) :: q; rw [List.append_assoc]
open PySem.StrLaws in
theorem parts_spN (x : Str) (c : Nat) : ∀ (m n s p : Nat), s ≤ p → p + m = x.length →
    (partsFrom x 1 s (cutsN c n p (x.cps.toList.drop p))).map (fun z : Str => z.cps.toList) = hdL ((x.cps.toList.drop s).take (p - s)) (spN c n (x.cps.toList.drop p)) := by
  have base : ∀ s p : Nat, s ≤ p → p ≤ x.length → ((PySem.Builtin.Str.strSub x s x.length).cps.toList : List Nat) = (x.cps.toList.drop s).take (p - s) ++ x.cps.toList.drop p := by
    intro s p hs hp
    rw [strSub_toList, List.take_of_length_le (by rw [List.length_drop, len_tl]; omega)]
    conv => lhs; rw [← List.take_append_drop (p - s) (x.cps.toList.drop s), List.drop_drop, show s + (p - s) = p by omega]
  intro m
  induction m with
  | zero =>
    intro n s p hs hp
    have e : x.cps.toList.drop p = [] := List.drop_eq_nil_of_le (by rw [len_tl]; omega)
    have b := base s p hs (by omega)
    rw [e] at b ⊢
    rw [cutsN_nil, spN_nil]
    show [(PySem.Builtin.Str.strSub x s x.length).cps.toList] = _
    rw [b]
    rfl
  | succ m ih =>
    intro n s p hs hp
    have b := base s p hs (by omega)
    cases n with
    | zero =>
      rw [cutsN_zero, spN_zero]
      show [(PySem.Builtin.Str.strSub x s x.length).cps.toList] = [_ ++ _]
      rw [b]
    | succ n =>
      have ha : p < x.cps.toList.length := by rw [len_tl]; omega
      have dr := List.drop_eq_getElem_cons ha
      rw [dr, cutsN, spN]
      by_cases ec : x.cps.toList[p] = c
      · rw [if_pos ec, if_pos ec]
        show (PySem.Builtin.Str.strSub x s p).cps.toList :: (partsFrom x 1 (p + 1) _).map _ = (_ ++ []) :: _
        rw [ih n (p + 1) (p + 1) (Nat.le_refl _) (by omega), Nat.sub_self, List.take_zero, hdL_nil (spN_ne ..), strSub_toList, List.append_nil]
      · rw [if_neg ec, if_neg ec, ih (n + 1) s (p + 1) (by omega) (by omega), ← hdL_app (spN_ne ..)]
        congr 1
        rw [show p + 1 - s = (p - s) + 1 by omega, List.take_add_one, List.getElem?_drop, show s + (p - s) = p by omega, List.getElem?_eq_getElem ha]
        rfl
theorem spN_free {c : Nat} : ∀ {l : List Nat} {n : Nat}, c ∉ l → spN c n l = [l]
  | _, 0, _ => spN_zero ..
  | [], n + 1, _ => spN_nil c (n + 1)
  | a :: r, n + 1, h => by
    rw [spN, if_neg (fun e => h (by rw [e]; exact List.mem_cons_self)), spN_free (fun m => h (List.mem_cons_of_mem _ m))]; rfl
open PySem.StrLaws in
theorem splitMax_tl (x : Str) (c : Nat) (k : Int) : (Txt.splitMax x ⟨#[c]⟩ k).map (fun z : Str => z.cps.toList) = spN c (PySem.limitOf x k) x.cps.toList := by
  have key : (PySem.Builtin.Str.partsBetween x (PySem.Builtin.Str.occurrences x ⟨#[c]⟩ 0 x.length (PySem.limitOf x k)) (⟨#[c]⟩ : Str).length).map (fun z : Str => z.cps.toList) = spN c (PySem.limitOf x k) x.cps.toList := by
    rw [partsBetween_eq, occ_eq, occ_run x c (PySem.limitOf x k) _ 0 0 #[] (Nat.le_refl _) (by omega)]
    have h := parts_spN x c x.length (PySem.limitOf x k) 0 0 (Nat.le_refl _) (by omega)
    rw [List.drop_zero, Nat.sub_self, List.take_zero, hdL_nil (spN_ne ..)] at h
    exact h
  unfold Txt.splitMax
  split
  · rename_i h
    rw [Bool.or_eq_true, decide_eq_true_eq, decide_eq_true_eq] at h
    show [x.cps.toList] = _
    rw [spN_free]
    rcases h with h | h
    · have h : x.length < 1 := h
      rw [List.eq_nil_of_length_eq_zero (l := x.cps.toList) (by rw [len_tl]; omega)]; simp
    · exact kind_free x c h
  · split
    · rename_i he
      rw [List.isEmpty_iff.mp he, partsBetween_eq] at key
      rw [← key]
      show [x.cps.toList] = [(PySem.Builtin.Str.strSub x 0 x.length).cps.toList]
      rw [sub_whole]
    · exact key
theorem split_tl (x : Str) (c : Nat) : (Txt.split x ⟨#[c]⟩).map (fun z : Str => z.cps.toList) = spN c (x.length + 1) x.cps.toList := by
  have h := splitMax_tl x c (-1)
  have e : PySem.limitOf x (-1) = x.length + 1 := if_pos (by decide)
  unfold Txt.splitMax at h
  rw [e] at h
  unfold Txt.split
  exact h
/-- without a limit -/
def spA (c : Nat) : List Nat → List (List Nat)
  | [] => [[]]
  | a :: r => if a = c then [] :: spA c r else hdL [a] (spA c r)
theorem spA_ne (c : Nat) : ∀ (l : List Nat), ∃ p q, spA c l = p :: q
  | [] => ⟨_, _, rfl⟩
  | a :: r => by
    rw [spA]
    split
    · exact ⟨_, _, rfl⟩
    · obtain ⟨p, q, e⟩ := spA_ne c r
      rw [e]; exact ⟨_, _, rfl⟩
theorem spN_all {c : Nat} : ∀ {l : List Nat} {n : Nat}, l.length < n → spN c n l = spA c l
  | [], n + 1, _ => spN_nil c (n + 1)
  | a :: r, n + 1, h => by
    rw [spN, spA]
    simp only [List.length_cons] at h
    split
    · cases n with
      | zero => omega
      | succ n => rw [spN_all (by omega)]
    · rw [spN_all (by omega)]
def jnL (c : Nat) : List (List Nat) → List Nat
  | [] => []
  | [x] => x
  | x :: y :: r => x ++ c :: jnL c (y :: r)
theorem jnL_hd {c a : Nat} {l : List (List Nat)} (h : ∃ p q, l = p :: q) : jnL c (hdL [a] l) = a :: jnL c l := by
  obtain ⟨p, q, rfl⟩ := h
  cases q <;> rfl
theorem jnL_spA (c : Nat) : ∀ l : List Nat, jnL c (spA c l) = l
  | [] => rfl
  | a :: r => by
    rw [spA]
    have ih := jnL_spA c r
    obtain ⟨p, q, e⟩ := spA_ne c r
    split
    · rename_i h
      rw [e] at ih ⊢
      show c :: jnL c (p :: q) = _
      rw [ih, h]
    · rw [jnL_hd ⟨_, _, e⟩, ih]
def limL (c : Nat) : Nat → List (List Nat) → List (List Nat)
  | 0, l => [jnL c l]
  | _ + 1, [] => []
  | _ + 1, [x] => [x]
  | n + 1, x :: y :: r => x :: limL c n (y :: r)
theorem lim_hd {c a : Nat} : ∀ {n : Nat} {l : List (List Nat)}, (∃ p q, l = p :: q) → limL c n (hdL [a] l) = hdL [a] (limL c n l)
  | 0, l, h => by show [jnL c (hdL [a] l)] = _; rw [jnL_hd h]; rfl
  | n + 1, l, h => by
    obtain ⟨p, q, rfl⟩ := h
    cases q <;> rfl
theorem spN_lim (c : Nat) : ∀ (n : Nat) (l : List Nat), spN c n l = limL c n (spA c l)
  | 0, l => by rw [spN_zero, limL, jnL_spA]
  | n + 1, [] => by rw [spN_nil]; rfl
  | n + 1, a :: r => by
    rw [spN, spA]
    split
    · obtain ⟨p, q, e⟩ := spA_ne c r
      rw [spN_lim c n r, e]
      rfl
    · rw [spN_lim c (n + 1) r, lim_hd (spA_ne c r)]
theorem spA_word {c : Nat} : ∀ {u : List Nat} (r : List Nat), c ∉ u → spA c (u ++ c :: r) = u :: spA c r
  | [], r, _ => by rw [List.nil_append, spA, if_pos rfl]
  | a :: u, r, h => by
    rw [List.cons_append, spA, if_neg (fun e => h (by rw [e]; exact List.mem_cons_self)), spA_word r (fun m => h (List.mem_cons_of_mem _ m))]; rfl
theorem spA_free {c : Nat} {u : List Nat} (h : c ∉ u) : spA c u = [u] := by
  rw [← spN_all (Nat.lt_succ_self _), spN_free h]
theorem spA_len (c : Nat) : ∀ l : List Nat, (spA c l).length ≤ l.length + 1
  | [] => Nat.le_refl _
  | a :: r => by
    have ih := spA_len c r
    obtain ⟨p, q, e⟩ := spA_ne c r
    rw [spA, List.length_cons]
    split
    · rw [List.length_cons]; omega
    · rw [e] at ih ⊢
      show ((p :: q).length) ≤ _
      omega
theorem spA_short (c : Nat) : ∀ (l : List Nat), ∀ p ∈ spA c l, p.length ≤ l.length
  | [], p, hp => by rw [List.mem_singleton.mp hp]; exact Nat.le_refl _
  | a :: r, p, hp => by
    have ih := spA_short c r
    rw [spA] at hp
    rw [List.length_cons]
    split at hp
    · rcases List.mem_cons.mp hp with rfl | hp
      · exact Nat.zero_le _
      · have := ih p hp; omega
    · obtain ⟨u, q, e⟩ := spA_ne c r
      rw [e] at hp ih
      rcases List.mem_cons.mp hp with rfl | hp
      · have := ih u List.mem_cons_self
        simp only [List.length_append, List.length_cons, List.length_nil]; omega
      · have := ih p (List.mem_cons_of_mem _ hp); omega
theorem jnL_len_sum (c : Nat) : ∀ (l : List (List Nat)), (l.map (·.length)).sum ≤ (jnL c l).length
  | [] => Nat.le_refl _
  | [x] => by simp [jnL]
  | x :: y :: r => by
    have ih := jnL_len_sum c (y :: r)
    rw [List.map_cons, List.sum_cons, jnL, List.length_append, List.length_cons]; omega
theorem strjoin_tl (c : Nat) : ∀ ls : List (List Nat), (Str.join ⟨#[c]⟩ (ls.map fun l => (⟨l.toArray⟩ : Str))).cps.toList = jnL c ls
  | [] => rfl
  | [x] => rfl
  | x :: y :: r => by
    have ih := strjoin_tl c (y :: r)
    show ((⟨x.toArray⟩ : Str) ++ ⟨#[c]⟩ ++ Str.join ⟨#[c]⟩ ((y :: r).map fun l => (⟨l.toArray⟩ : Str))).cps.toList = _
    rw [app_tl, app_tl, ih, List.append_assoc]; rfl
theorem txtjoin_tl (c : Nat) (ls : List (List Nat)) : Txt.join ⟨#[c]⟩ (ls.map fun l => (⟨l.toArray⟩ : Str)) = ⟨(jnL c ls).toArray⟩ := by
  rw [eq_of_beq (join_closes (sep' := (⟨#[c]⟩ : Str)) rfl)]
  exact str_eq_l.mpr (strjoin_tl c ls)
theorem of_tl {ys : List Str} {ls : List (List Nat)} (h : ys.map (fun z : Str => z.cps.toList) = ls) : ys = ls.map fun l => (⟨l.toArray⟩ : Str) := by
  rw [← h, List.map_map]
  conv => lhs; rw [← List.map_id ys]
  exact List.map_congr_left fun z _ => rfl
theorem limL_len (c : Nat) : ∀ (n : Nat) (l : List (List Nat)), (limL c n l).length ≤ n + 1
  | 0, l => Nat.le_refl _
  | n + 1, [] => Nat.zero_le _
  | n + 1, [x] => by show 1 ≤ _; omega
  | n + 1, x :: y :: r => by
    have := limL_len c n (y :: r)
    show (limL c n (y :: r)).length + 1 ≤ _
    omega
theorem limL_short (c : Nat) : ∀ (n : Nat) (l : List (List Nat)), ∀ p ∈ limL c n l, p.length ≤ (jnL c l).length
  | 0, l, p, hp => by rw [List.mem_singleton.mp hp]; exact Nat.le_refl _
  | n + 1, [], p, hp => nomatch hp
  | n + 1, [x], p, hp => by rw [List.mem_singleton.mp hp]; exact Nat.le_refl _
  | n + 1, x :: y :: r, p, hp => by
    rw [jnL, List.length_append, List.length_cons]
    rcases List.mem_cons.mp hp with rfl | hp
    · omega
    · have := limL_short c n (y :: r) p hp
      omega

/-! ### data whose lists are none of a list that changes -/
section
variable {K : PySem.W.Frag}
mutual
theorem Dt.chg {H H' : Hp} {D : Addr} {zs : List V} (e : H D = some (.lst zs)) (s : ∀ b o, b ≠ D → H b = some o → H' b = some o) : ∀ (d : PyData) (v : V), Dt K H (some D) v d → Dt K H' (some D) v d
  | .none, _, h => by cases h; exact .non
  | .bool b, _, h => by cases h; exact .bl b
  | .int i, _, h => by cases h; exact .int i
  | .str z, _, h => by cases h with | str _ hz => exact .str z hz
  | .list ds, _, h => by cases h with | lst hn ha hd => exact .lst hn (s _ _ hn ha) (DtAll.chg e s ds _ hd)
  | .tuple ds, _, h => by cases h with | tup ha hd => exact .tup (ha.imp (fun ha => s _ _ (ne_of ha e (by intro z; cases z)) ha) id) (DtAll.chg e s ds _ hd)
  | .dict _, _, h => by cases h
theorem DtAll.chg {H H' : Hp} {D : Addr} {zs : List V} (e : H D = some (.lst zs)) (s : ∀ b o, b ≠ D → H b = some o → H' b = some o) : ∀ (ds : List PyData) (xs : List V), DtAll K H (some D) xs ds → DtAll K H' (some D) xs ds
  | [], _, h => by cases h; exact .nil
  | d :: ds, _, h => by cases h with | cons h1 h2 => exact .cons (Dt.chg e s d _ h1) (DtAll.chg e s ds _ h2)
end
mutual
theorem Dt.frees {H : Hp} {A : Option Addr} : ∀ (d : PyData) (v : V), Dt K H A v d → Dt K H none v d
  | .none, _, h => by cases h; exact .non
  | .bool b, _, h => by cases h; exact .bl b
  | .int i, _, h => by cases h; exact .int i
  | .str z, _, h => by cases h with | str _ hz => exact .str z hz
  | .list ds, _, h => by cases h with | lst hn ha hd => exact .lst trivial ha (DtAll.frees ds _ hd)
  | .tuple ds, _, h => by cases h with | tup ha hd => exact .tup ha (DtAll.frees ds _ hd)
  | .dict _, _, h => by cases h
theorem DtAll.frees {H : Hp} {A : Option Addr} : ∀ (ds : List PyData) (xs : List V), DtAll K H A xs ds → DtAll K H none xs ds
  | [], _, h => by cases h; exact .nil
  | d :: ds, _, h => by cases h with | cons h1 h2 => exact .cons (Dt.frees d _ h1) (DtAll.frees ds _ h2)
end
theorem DtAll.snoc2 {H : Hp} {A : Option Addr} {v : V} {d : PyData} : ∀ {xs : List V} {ds : List PyData}, DtAll K H A xs ds → Dt K H A v d → DtAll K H A (xs ++ [v]) (ds ++ [d])
  | _, _, .nil, h => .cons h .nil
  | _, _, .cons h1 h2, h => .cons h1 (DtAll.snoc2 h2 h)
end

def wrd (l : List Nat) : V := .str ⟨l.toArray⟩
def BadAt (H : Hp) (d : Addr) (r : Str) (k : Nat) : Prop := H d = some (.xd [("statement", .int k), ("reason", .str r)])
def spPartsOf (C : Addr) : Sp := fun vs H Q E => ∃ (z : Str), vs = [.str z] ∧ z.length ≤ 10000 ∧
  (z.length ≤ 240 → isPr z = true → ∀ H' b, Same H H' → H' b = some (.lst ((spA 59 z.cps.toList).map wrd)) → Q (.ref b) H') ∧
  (240 < z.length → ∀ H' d, Same H H' → BadAt H' d "long" 0 → E (.ref C) (some d) H') ∧ (z.length ≤ 240 → isPr z = false → ∀ H' d, Same H H' → BadAt H' d "character" 0 → E (.ref C) (some d) H')
def spWordsOf (C : Addr) : Sp := fun vs H Q E => ∃ (p : List Nat) (i : Nat), vs = [wrd p, .int i] ∧ p.length ≤ 1000 ∧
  (p ≠ [] → [] ∉ spA 32 p → ∀ H' b, Same H H' → H b = none → H' b = some (.lst ((spA 32 p).map wrd)) → Q (.ref b) H') ∧
  (p = [] → ∀ H' d, Same H H' → BadAt H' d "empty" i → E (.ref C) (some d) H') ∧ (p ≠ [] → [] ∈ spA 32 p → ∀ H' d, Same H H' → BadAt H' d "space" i → E (.ref C) (some d) H')
theorem split_wrdC (c : Nat) (z : Str) : ((Txt.split z ⟨#[c]⟩).map V.str) = (spA c z.cps.toList).map wrd := by
  have h := of_tl ((split_tl z c).trans (spN_all (by rw [len_tl]; omega)))
  rw [h, List.map_map]; rfl
theorem sgn1 : Str.ofString " " = ⟨#[32]⟩ ∧ Str.ofString ";" = ⟨#[59]⟩ := ⟨by decide, by decide⟩
theorem wl (l : List Nat) : (⟨l.toArray⟩ : Str).length = l.length := by show l.toArray.size = _; rw [List.size_toArray]
theorem in_wrd (ls : List (List Nat)) : inV (.str (Str.ofString "")) (ls.map wrd) = decide ([] ∈ ls) := by
  unfold inV
  induction ls with
  | nil => rfl
  | cons l r ih =>
    rw [List.map_cons, List.any_cons, ih]
    have e : eqV (wrd l) (.str (Str.ofString "")) = decide ([] = l) := by
      show ((⟨l.toArray⟩ : Str) == Str.ofString "") = _
      by_cases h : [] = l
      · subst h; rfl
      · rw [decide_eq_false h]
        exact beq_eq_false_iff_ne.mpr fun z => h (congrArg (fun s : Str => s.cps.toList) z).symm
    rw [e, ← Bool.decide_or]
    exact decide_eq_decide.mpr List.mem_cons.symm
theorem flat_wrd (ls : List (List Nat)) : (ls.map wrd).all flatV = true := by
  rw [List.all_map]; exact List.all_eq_true.mpr fun _ _ => rfl
theorem row_dt {K : PySem.W.Frag} {H : Hp} {A : Option Addr} : ∀ (ls : List (List Nat)), (∀ l ∈ ls, l.length ≤ 1000000) → DtAll K H A (ls.map wrd) (ls.map fun l => PyData.str ⟨l.toArray⟩)
  | [], _ => .nil
  | l :: r, h => .cons (.str _ (by rw [wl]; exact h l List.mem_cons_self)) (row_dt r fun x m => h x (List.mem_cons_of_mem _ m))
section
variable {P : Program} {w : World} {K : PySem.W.Frag} {mg : Str → Option Value} {base : Heap}
theorem c_parts_of {C_Accounts : Addr} {C_Sessions : Addr} {C_Store : Addr} {C_State : Addr} {C_BadText : Addr} {C_Refused : Addr} {C_BadCommand : Addr} {C_VERBS : Addr} (T : Txt K mg w C_Accounts C_Sessions C_Store C_State C_BadText C_Refused C_BadCommand C_VERBS) : CalX P w K mg base 3 "parts_of" (spPartsOf C_BadCommand) := by
  have c_is_printable := c_is_printable (P := P) (w := w) (base := base) T
  have i_BadCommand := i_BadCommand (P := P) (w := w) (base := base) T
  refine calX T.d_parts_of sc_parts_of (fun vs H Q E h => ?_) (fun f cdv A' outer s H vs Q E hr h => ?_)
  · obtain ⟨z, rfl, _⟩ := h; rfl
  obtain ⟨z, rfl, hz, q, e1, e2⟩ := h
  refine ⟨_, (pss_cons (ps_if (pt_cmpR op_gt (pe_callB call_len_str (by rfl) T.z_len (by decide +kernel) (pa_cons (pv 0) pa_nil)) (pe_gc (by rfl) T.c_MOST_TEXT) (nomark _)) (pss_one (ps_raise rfl (takes_of rfl rfl rfl rfl) (pmk_ei i_BadCommand hr (by decide) (by rfl) (pa_cons pe_str (pa_cons pe_int pa_nil))))) pss_nil)
      (pss_cons (ps_if (pt_not (pt_val (pe_c c_is_printable hr (by omega) (by rfl) (pa_cons (pv 0) pa_nil)))) (pss_one (ps_raise rfl (takes_of rfl rfl rfl rfl) (pmk_ei i_BadCommand hr (by decide) (by rfl) (pa_cons pe_str (pa_cons pe_int pa_nil))))) pss_nil)
      (pss_one (ps_ret (pe_split (pv 0) pe_str))))), ?_⟩
  walk_at "rds"
  by_cases h240 : 240 < z.length
  · refine ifT (decide_eq_true (by omega)) ?_
    walk_at "rds"
    exact mk_two fun H' d s1 _ hd => e1 h240 H' d s1 hd
  refine ifF (decide_eq_false (by omega)) ?_
  walk_at "rds"
  refine .inl ⟨z, rfl, by omega, fun H1 s1 => ?_⟩
  walk_at "rds"
  cases hp : isPr z with
  | false =>
    refine ifT rfl ?_
    walk_at "rds"
    exact mk_two fun H' d s2 _ hd => e2 (by omega) hp H' d (s1.trans s2) hd
  | true =>
  refine ifF rfl ?_
  walk_at "rds"
  have sl := sizeLine_eq
  refine ⟨_, _, rfl, rfl, rfl, by omega, fun p hp2 => ?_⟩
  rw [sgn1.2, split_wrdC]
  exact q (by omega) hp _ _ (s1.trans (same_upd hp2)) upd_same
theorem c_words_of {C_Accounts : Addr} {C_Sessions : Addr} {C_Store : Addr} {C_State : Addr} {C_BadText : Addr} {C_Refused : Addr} {C_BadCommand : Addr} {C_VERBS : Addr} (T : Txt K mg w C_Accounts C_Sessions C_Store C_State C_BadText C_Refused C_BadCommand C_VERBS) : CalX P w K mg base 3 "words_of" (spWordsOf C_BadCommand) := by
  have i_BadCommand := i_BadCommand (P := P) (w := w) (base := base) T
  refine calX T.d_words_of sc_words_of (fun vs H Q E h => ?_) (fun f cdv A' outer s H vs Q E hr h => ?_)
  · obtain ⟨z, i, rfl, _⟩ := h; rfl
  obtain ⟨z, i, rfl, hz, q, e1, e2⟩ := h
  refine ⟨_, (pss_cons (ps_if (pt_cmpR op_eq (pv 0) pe_str (nomark _)) (pss_one (ps_raise rfl (takes_of rfl rfl rfl rfl) (pmk_ei i_BadCommand hr (by decide) (by rfl) (pa_cons pe_str (pa_cons (pv 1) pa_nil))))) pss_nil)
      (pss_cons (ps_set (i := 2) sc_words_of.nd rfl (Or.inl rfl) (pe_split (pv 0) pe_str))
      (pss_cons (ps_if (pt_cmpR (kin (K := K)) pe_str (pv 2) (by rfl)) (pss_one (ps_raise rfl (takes_of rfl rfl rfl rfl) (pmk_ei i_BadCommand hr (by decide) (by rfl) (pa_cons pe_str (pa_cons (pv 1) pa_nil))))) pss_nil)
      (pss_one (ps_ret (pv 2)))))), ?_⟩
  walk_at "rds"
  have ez : decide (wrd z = V.str (Str.ofString "")) = decide (z = []) := by
    apply decide_eq_decide.mpr
    exact ⟨fun h => congrArg (fun v => match v with | V.str s => s.cps.toList | _ => []) h, fun h => by rw [h]; rfl⟩
  rw [ez]
  by_cases h0 : z = []
  · refine ifT (decide_eq_true h0) ?_
    walk_at "rds"
    exact mk_two fun H' d s1 _ hd => e1 h0 H' d s1 hd
  refine ifF (decide_eq_false h0) ?_
  walk_at "rds"
  have sl := sizeLine_eq
  refine ⟨⟨z.toArray⟩, _, rfl, rfl, rfl, by rw [wl]; omega, fun p hp2 => ?_⟩
  rw [sgn1.1, split_wrdC]
  have s1 : Same H (upd H p (.lst ((spA 32 (⟨z.toArray⟩ : Str).cps.toList).map wrd))) := same_upd hp2
  have hp3 : upd H p (.lst ((spA 32 (⟨z.toArray⟩ : Str).cps.toList).map wrd)) p = some (.lst ((spA 32 z).map wrd)) := upd_same
  generalize upd H p (.lst ((spA 32 (⟨z.toArray⟩ : Str).cps.toList).map wrd)) = H1 at s1 hp3 ⊢
  walk_at "rds"
  refine ⟨p, _, rfl, .inl (sq hp3), rfl, flat_wrd _, ?_⟩
  walk_at "rds"
  rw [if_neg Bool.false_ne_true, in_wrd]
  by_cases hb : [] ∈ spA 32 z
  · refine ifT (decide_eq_true hb) ?_
    walk_at "rds"
    exact mk_two fun H' d s2 _ hd => e2 h0 hb H' d (s1.trans s2) hd
  refine ifF (decide_eq_false hb) ?_
  walk_at "rds"
  exact q h0 hb _ _ s1 hp2 hp3
end

/-! ### commands, without Python -/
def verbT : List (Str × List Str) := [("open", ["name"]), ("close", ["name"]), ("issue", ["name", "amount"]), ("burn", ["name", "amount"]), ("pay", ["name", "name", "amount"]), ("balance", ["name"]), ("atleast", ["name", "amount"]), ("hold", ["name", "name", "amount", "key"]), ("settle", ["key"]), ("release", ["key"]), ("put", ["key", "value"]), ("get", ["key"]), ("drop", ["key"]), ("swap", ["key", "value", "value"]), ("same", ["key", "value"]), ("keys", ["key"])]
def kindOk (k : Str) (l : List Nat) : Bool := if k = "name" then nmL l else if k = "amount" then amL l else if k = "key" then kyL l else vlL l
def dvL (l : List Nat) : Nat := PySem.NumText.digitsVal l
def argV (k : Str) (l : List Nat) : V := if k = "amount" then .int (dvL l) else .str ⟨l.toArray⟩
def argD (k : Str) (l : List Nat) : PyData := if k = "amount" then .int (dvL l) else .str ⟨l.toArray⟩
/-- the first argument that is none of its kind -/
def argBad : List Str → List (List Nat) → Option Str
  | k :: ks, l :: ls => if kindOk k l = true then argBad ks ls else some k
  | _, _ => none
def argsV : List Str → List (List Nat) → List V
  | k :: ks, l :: ls => argV k l :: argsV ks ls
  | _, _ => []
/-- a statement of words -/
def psW (i : Nat) : List (List Nat) → (Str × Nat) ⊕ List V
  | v :: ws => match verbT.lookup ⟨v.toArray⟩ with
    | none => .inl (Str.ofString "verb", i)
    | some ks => if ws.length = ks.length then (match argBad ks ws with
      | some k => .inl (k, i)
      | none => .inr (.str ⟨v.toArray⟩ :: argsV ks ws)) else .inl (Str.ofString "count", i)
  | [] => .inr []
theorem psW_some {i : Nat} {v : List Nat} {ws : List (List Nat)} {ks : List Str} (h : verbT.lookup (⟨v.toArray⟩ : Str) = some ks) : psW i (v :: ws) = if ws.length = ks.length then (match argBad ks ws with
      | some k => .inl (k, i)
      | none => .inr (.str ⟨v.toArray⟩ :: argsV ks ws)) else .inl (Str.ofString "count", i) := by
  simp only [psW, h]
theorem psW_none {i : Nat} {v : List Nat} {ws : List (List Nat)} (h : verbT.lookup (⟨v.toArray⟩ : Str) = none) : psW i (v :: ws) = .inl (Str.ofString "verb", i) := by
  simp only [psW, h]
def psR (i : Nat) (p : List Nat) : (Str × Nat) ⊕ List V := if p = [] then .inl (Str.ofString "empty", i) else if [] ∈ spA 32 p then .inl (Str.ofString "space", i) else psW i (spA 32 p)

def spKind (K : PySem.W.Frag) : Sp := fun vs H Q _ => ∃ (k : Str) (l : List Nat), vs = [.str k, wrd l] ∧ l.length ≤ 1000 ∧ ∀ H', Same H H' → Q (.bl (kindOk k l)) H'
def spArg (C : Addr) : Sp := fun vs H Q E => ∃ (k : Str) (l : List Nat) (i : Nat), vs = [.str k, wrd l, .int i] ∧ l.length ≤ 1000 ∧ (kindOk k l = true → ∀ H', Same H H' → Q (argV k l) H') ∧ (kindOk k l = false → ∀ H' d, Same H H' → BadAt H' d k i → E (.ref C) (some d) H')
theorem cutV_from {xs : List V} {i : Nat} : cutV xs (some (i : Int)) none = xs.drop i := by
  unfold cutV
  rw [HT.sIx_none, HT.sIx_nat]
  by_cases g : i ≤ xs.length
  · rw [Nat.min_eq_left g, List.take_of_length_le (by rw [List.length_drop]; omega)]
  · rw [show min i xs.length = xs.length from Nat.min_eq_right (by omega), List.drop_of_length_le (Nat.le_refl _), List.drop_of_length_le (by omega), List.take_nil]
theorem amt_int {l : List Nat} (h : amL l = true) : PySem.intText? (⟨l.toArray⟩ : Str) = some (dvL l : Int) ∧ (⟨l.toArray⟩ : Str).length ≤ 640 := by
  unfold amL at h
  rw [Bool.and_eq_true] at h
  have hl := of_decide_eq_true h.1
  obtain ⟨d1, d2, d3⟩ := dcL_iff.mp h.2
  exact ⟨PySem.intText_digits (x := ⟨l.toArray⟩) d2 d1 (by rw [wl]; omega), by rw [wl]; omega⟩
theorem lookup_mem {α : Type} : ∀ {l : List (Str × α)} {z : Str} {x : α}, l.lookup z = some x → (z, x) ∈ l
  | (k, y) :: r, z, x, h => by
    rw [List.lookup_cons] at h
    split at h
    · rename_i e
      have e : z = k := by simpa using e
      cases h
      rw [e]; exact List.mem_cons_self
    · exact List.mem_cons_of_mem _ (lookup_mem h)
theorem argBad_step {ks : List Str} {ws : List (List Nat)} {i : Nat} {k : Str} {l : List Nat} (h1 : ks[i]? = some k) (h2 : ws[i]? = some l) :
    argBad (ks.drop i) (ws.drop i) = (if kindOk k l = true then argBad (ks.drop (i + 1)) (ws.drop (i + 1)) else some k) ∧ argsV (ks.drop i) (ws.drop i) = argV k l :: argsV (ks.drop (i + 1)) (ws.drop (i + 1)) := by
  obtain ⟨a1, b1⟩ := List.getElem?_eq_some_iff.mp h1
  obtain ⟨a2, b2⟩ := List.getElem?_eq_some_iff.mp h2
  rw [List.drop_eq_getElem_cons a1, List.drop_eq_getElem_cons a2, b1, b2]
  exact ⟨rfl, rfl⟩
theorem argBad_end {ks : List Str} {ws : List (List Nat)} {i : Nat} (h : ks.length ≤ i) : argBad (ks.drop i) (ws.drop i) = none ∧ argsV (ks.drop i) (ws.drop i) = [] := by
  rw [List.drop_eq_nil_of_le h]; exact ⟨rfl, rfl⟩
section
variable {P : Program} {w : World} {K : PySem.W.Frag} {mg : Str → Option Value} {base : Heap}
theorem verbs_in {C_Accounts : Addr} {C_Sessions : Addr} {C_Store : Addr} {C_State : Addr} {C_BadText : Addr} {C_Refused : Addr} {C_BadCommand : Addr} {C_VERBS : Addr} (T : Txt K mg w C_Accounts C_Sessions C_Store C_State C_BadText C_Refused C_BadCommand C_VERBS) {z : Str} {ks : List Str} (h : (z, ks) ∈ verbT) : ∃ a, KDct K w C_VERBS z (.ref a) ∧ KTup K a (ks.map V.str) := by
  simp only [verbT, List.mem_cons, List.not_mem_nil, or_false, Prod.mk.injEq] at h
  rcases h with ⟨rfl, rfl⟩ | ⟨rfl, rfl⟩ | ⟨rfl, rfl⟩ | ⟨rfl, rfl⟩ | ⟨rfl, rfl⟩ | ⟨rfl, rfl⟩ | ⟨rfl, rfl⟩ | ⟨rfl, rfl⟩ | ⟨rfl, rfl⟩ | ⟨rfl, rfl⟩ | ⟨rfl, rfl⟩ | ⟨rfl, rfl⟩ | ⟨rfl, rfl⟩ | ⟨rfl, rfl⟩ | ⟨rfl, rfl⟩ | ⟨rfl, rfl⟩
  · exact T.ki_VERBS_0
  · exact T.ki_VERBS_1
  · exact T.ki_VERBS_2
  · exact T.ki_VERBS_3
  · exact T.ki_VERBS_4
  · exact T.ki_VERBS_5
  · exact T.ki_VERBS_6
  · exact T.ki_VERBS_7
  · exact T.ki_VERBS_8
  · exact T.ki_VERBS_9
  · exact T.ki_VERBS_10
  · exact T.ki_VERBS_11
  · exact T.ki_VERBS_12
  · exact T.ki_VERBS_13
  · exact T.ki_VERBS_14
  · exact T.ki_VERBS_15
end
section
variable {P : Program} {w : World} {K : PySem.W.Frag} {mg : Str → Option Value} {base : Heap}
theorem c_is_of_kind {C_Accounts : Addr} {C_Sessions : Addr} {C_Store : Addr} {C_State : Addr} {C_BadText : Addr} {C_Refused : Addr} {C_BadCommand : Addr} {C_VERBS : Addr} (T : Txt K mg w C_Accounts C_Sessions C_Store C_State C_BadText C_Refused C_BadCommand C_VERBS) : Cal P w K mg base 4 "is_of_kind" (spKind K) [] := by
  have c_is_name := c_is_name (P := P) (w := w) (base := base) T
  have c_is_amount := c_is_amount (P := P) (w := w) (base := base) T
  have c_is_key := c_is_key (P := P) (w := w) (base := base) T
  have c_is_value := c_is_value (P := P) (w := w) (base := base) T
  refine cal T.d_is_of_kind sc_is_of_kind (fun vs H Q E h => ?_) (fun f cdv A' outer s H vs Q E hr h => ?_)
  · obtain ⟨k, l, rfl, _⟩ := h; rfl
  obtain ⟨k, l, rfl, hl, q⟩ := h
  refine ⟨_, (pss_cons (ps_if (pt_cmpR op_eq (pv 0) pe_str (nomark _)) (pss_one (ps_ret (pe_c c_is_name hr (by omega) (by rfl) (pa_cons (pv 1) pa_nil)))) pss_nil)
      (pss_cons (ps_if (pt_cmpR op_eq (pv 0) pe_str (nomark _)) (pss_one (ps_ret (pe_c c_is_amount hr (by omega) (by rfl) (pa_cons (pv 1) pa_nil)))) pss_nil)
      (pss_cons (ps_if (pt_cmpR op_eq (pv 0) pe_str (nomark _)) (pss_one (ps_ret (pe_c c_is_key hr (by omega) (by rfl) (pa_cons (pv 1) pa_nil)))) pss_nil)
      (pss_one (ps_ret (pe_c c_is_value hr (by omega) (by rfl) (pa_cons (pv 1) pa_nil))))))), ?_⟩
  have ek : ∀ z : Str, decide (V.str k = V.str z) = decide (k = z) := fun z => decide_eq_decide.mpr ⟨fun h => V.str.inj h, fun h => by rw [h]⟩
  walk_at "rds"
  unfold kindOk at q
  by_cases h1 : k = "name"
  · rw [if_pos h1] at q
    refine ifT ((ek _).trans (decide_eq_true h1)) ?_
    walk_at "rds"
    exact ⟨by rw [wl]; omega, q⟩
  rw [if_neg h1] at q
  refine ifF ((ek _).trans (decide_eq_false h1)) ?_
  walk_at "rds"
  by_cases h2 : k = "amount"
  · rw [if_pos h2] at q
    refine ifT ((ek _).trans (decide_eq_true h2)) ?_
    walk_at "rds"
    exact ⟨by rw [wl]; omega, q⟩
  rw [if_neg h2] at q
  refine ifF ((ek _).trans (decide_eq_false h2)) ?_
  walk_at "rds"
  by_cases h3 : k = "key"
  · rw [if_pos h3] at q
    refine ifT ((ek _).trans (decide_eq_true h3)) ?_
    walk_at "rds"
    exact ⟨by rw [wl]; omega, q⟩
  rw [if_neg h3] at q
  refine ifF ((ek _).trans (decide_eq_false h3)) ?_
  walk_at "rds"
  exact ⟨by rw [wl]; omega, q⟩
theorem c_parse_argument {C_Accounts : Addr} {C_Sessions : Addr} {C_Store : Addr} {C_State : Addr} {C_BadText : Addr} {C_Refused : Addr} {C_BadCommand : Addr} {C_VERBS : Addr} (T : Txt K mg w C_Accounts C_Sessions C_Store C_State C_BadText C_Refused C_BadCommand C_VERBS) : CalX P w K mg base 5 "parse_argument" (spArg C_BadCommand) := by
  have c_is_of_kind := c_is_of_kind (P := P) (w := w) (K := K) (base := base) T
  have i_BadCommand := i_BadCommand (P := P) (w := w) (base := base) T
  refine calX T.d_parse_argument sc_parse_argument (fun vs H Q E h => ?_) (fun f cdv A' outer s H vs Q E hr h => ?_)
  · obtain ⟨k, l, i, rfl, _⟩ := h; rfl
  obtain ⟨k, l, i, rfl, hl, q, e⟩ := h
  refine ⟨_, (pss_cons (ps_if (pt_not (pt_val (pe_c c_is_of_kind hr (by omega) (by rfl) (pa_cons (pv 0) (pa_cons (pv 1) pa_nil))))) (pss_one (ps_raise rfl (takes_of rfl rfl rfl rfl) (pmk_ei i_BadCommand hr (by decide) (by rfl) (pa_cons (pv 0) (pa_cons (pv 2) pa_nil))))) pss_nil)
      (pss_cons (ps_if (pt_cmpR op_eq (pv 0) pe_str (nomark _)) (pss_one (ps_ret (pe_callTy call_int_str (by rfl) T.z_int (by decide +kernel) (pa_cons (pv 1) pa_nil)))) pss_nil)
      (pss_one (ps_ret (pv 1))))), ?_⟩
  walk_at "rds"
  delta tNil
  refine ⟨k, l, rfl, hl, fun H1 s1 => ?_⟩
  walk_at "rds"
  cases hk : kindOk k l with
  | false =>
    refine ifT rfl ?_
    walk_at "rds"
    exact mk_two fun H' d s2 _ hd => e hk H' d (s1.trans s2) hd
  | true =>
  have q := q hk H1 s1
  unfold argV at q
  refine ifF rfl ?_
  walk_at "rds"
  by_cases h2 : k = "amount"
  · rw [if_pos h2] at q
    refine ifT (decide_eq_true (by rw [h2])) ?_
    walk_at "rds"
    have ha : amL l = true := by
      unfold kindOk at hk
      rw [if_neg (by rw [h2]; decide +kernel), if_pos h2] at hk
      exact hk
    obtain ⟨a1, a2⟩ := amt_int ha
    exact ⟨_, _, rfl, a1, a2, q⟩
  rw [if_neg h2] at q
  refine ifF (decide_eq_false (fun z => h2 (V.str.inj z))) ?_
  walk_at "rds"
  exact q
theorem c_parse_statement {C_Accounts : Addr} {C_Sessions : Addr} {C_Store : Addr} {C_State : Addr} {C_BadText : Addr} {C_Refused : Addr} {C_BadCommand : Addr} {C_VERBS : Addr} (T : Txt K mg w C_Accounts C_Sessions C_Store C_State C_BadText C_Refused C_BadCommand C_VERBS) : CalX P w K mg base 6 "parse_statement" (fun vs H Q E => ∃ (p : List Nat) (i : Nat), vs = [wrd p, .int i] ∧ p.length ≤ 1000 ∧
    (∀ v ws, spA 32 p = v :: ws → verbT.lookup ⟨v.toArray⟩ = none → PySem.W.nsIn K C_VERBS ⟨v.toArray⟩ = some none) ∧
    (∀ xs, psR i p = .inr xs → ∀ H' b, Same H H' → H b = none → H' b = some (.tup xs) → Q (.ref b) H') ∧ (∀ r k, psR i p = .inl (r, k) → ∀ H' d, Same H H' → BadAt H' d r k → E (.ref C_BadCommand) (some d) H')) := by
  have c_words_of := c_words_of (P := P) (w := w) (K := K) (base := base) T
  have c_parse_argument := c_parse_argument (P := P) (w := w) (K := K) (base := base) T
  have i_BadCommand := i_BadCommand (P := P) (w := w) (base := base) T
  refine calX T.d_parse_statement sc_parse_statement (fun vs H Q E h => ?_) (fun f cdv A' outer s H vs Q E hr h => ?_)
  · obtain ⟨k, l, rfl, _⟩ := h; rfl
  obtain ⟨p, i, rfl, hl, hv, q, e⟩ := h
  refine ⟨_, (pss_cons (ps_set (i := 2) sc_parse_statement.nd rfl (Or.inl rfl) (pe_cX c_words_of hr (by omega) (by rfl) (fun σ => passAt (takes_of rfl rfl rfl rfl) σ) (pa_cons (pv 0) (pa_cons (pv 1) pa_nil))))
      (pss_cons (ps_if (pt_cmpR (kdnin T.kd_VERBS) (pe_ix (kixl (K := K)) (pv 2) pe_int (fun _ _ => rfl)) (pe_gc (v := .ref C_VERBS) (by rfl) ⟨_, T.g_VERBS, rfl⟩) (by rfl)) (pss_one (ps_raise rfl (takes_of rfl rfl rfl rfl) (pmk_ei i_BadCommand hr (by decide) (by rfl) (pa_cons pe_str (pa_cons (pv 1) pa_nil))))) pss_nil)
      (pss_cons (ps_set (i := 3) sc_parse_statement.nd rfl (Or.inl rfl) (pe_ix ix_kdict (pe_gc (v := .ref C_VERBS) (by rfl) ⟨_, T.g_VERBS, rfl⟩) (pe_ix (kixl (K := K)) (pv 2) pe_int (fun _ _ => rfl)) (fun _ _ => rfl)))
      (pss_cons (ps_if (pt_cmpR op_ne (pe_callB (klen (K := K)) (by rfl) T.z_len (by decide +kernel) (pa_cons (pv 2) pa_nil)) (pe_op op_add (pe_callB (klen (K := K)) (by rfl) T.z_len (by decide +kernel) (pa_cons (pv 3) pa_nil)) pe_int) (nomark _)) (pss_one (ps_raise rfl (takes_of rfl rfl rfl rfl) (pmk_ei i_BadCommand hr (by decide) (by rfl) (pa_cons pe_str (pa_cons (pv 1) pa_nil))))) pss_nil)
      (pss_cons (ps_setLcX (i := 4) (own := [("kind", 5), ("word", 6)]) (g := _) rfl sc_parse_statement.nd rfl rfl (sw_true rfl rfl rfl (by decide +kernel)) rfl rfl (takes_of rfl rfl rfl rfl) (pi_zipM (by rfl) T.z_zip (pa_cons (pv 3) (pa_cons (pe_slice (ksll (K := K)) (pv 2) (po_some pe_int) po_none) pa_nil))) (blkOk_by (own := [("kind", 5), ("word", 6)]) (N := ["part", "index", "words", "kinds", "arguments", "kind", "word"]) (sc := defScope s_parse_statement) (by decide +kernel)) (fun _ _ _ _ _ _ => kgtup (K := K) (n := 2) (by rfl) (pgs_cons (pg_name (i := 5) sc_parse_statement.nd rfl (Or.inl rfl)) (pgs_cons (pg_name (i := 6) sc_parse_statement.nd rfl (Or.inl rfl)) pgs_nil))) (fun _ _ _ _ _ _ => pts_nil) (fun _ _ _ _ _ _ hx => (pe_cX c_parse_argument hr (by omega) (by rfl) (fun σ => hx σ) (pa_cons (pv 5) (pa_cons (pv 6) (pa_cons (pv 1) pa_nil))))))
      (pss_one (ps_ret (pe_callTy call_tuple_of (by rfl) T.z_tuple (by decide +kernel) (pa_cons (pe_op op_cat (pe_lst (pa_cons (pe_ix (kixl (K := K)) (pv 2) pe_int (fun _ _ => rfl)) pa_nil)) (pv 4)) pa_nil))))))))), ?_⟩
  walk_at "rds"
  delta tNil
  unfold psR at q e
  refine ⟨p, i, rfl, hl, fun h1 h2 H1 b s1 nb hb => ?_, fun h1 H' d s1 hd => e _ _ (by rw [if_pos h1]) H' d s1 hd, fun h1 h2 H' d s1 hd => e _ _ (by rw [if_neg h1, if_pos h2]) H' d s1 hd⟩
  rw [if_neg h1, if_neg h2] at q e
  have sh := spA_short 32 p
  have sn := spA_len 32 p
  obtain ⟨v, ws, ev⟩ := spA_ne 32 p
  have hv := hv v ws ev
  rw [ev] at hb q e sh sn
  walk_at "rds"
  refine ⟨b, _, ((0 : Nat) : Int), _, rfl, rfl, sq hb, atI_nat (by rfl), ?_⟩
  walk_at "rds"
  cases hlk : verbT.lookup (⟨v.toArray⟩ : Str) with
  | none =>
    refine ⟨_, none, rfl, rfl, hv hlk, ?_⟩
    walk_at "rds"
    exact mk_two fun H' d s2 _ hd => e _ _ (psW_none hlk) H' d (s1.trans s2) hd
  | some ks =>
  rw [psW_some hlk] at q e
  obtain ⟨a, hka, hkt⟩ := verbs_in T (lookup_mem hlk)
  obtain ⟨es, n0, u0, kd1, kd2, kd3, kd4⟩ := id hka
  refine ⟨_, some u0, rfl, rfl, kd3, ?_⟩
  walk_at "rds"
  refine ⟨b, _, ((0 : Nat) : Int), _, rfl, rfl, sq hb, atI_nat (by rfl), ?_⟩
  walk_at "rds"
  refine ⟨_, _, _, rfl, rfl, hka, ?_⟩
  walk_at "rds"
  refine ⟨b, _, rfl, .inl (sq hb), ?_⟩
  walk_at "rds"
  refine ⟨a, _, rfl, .inr (.inr hkt), ?_⟩
  walk_at "rds"
  rw [List.length_map, List.length_map]
  by_cases hlen : ¬ ws.length = ks.length
  · rw [if_neg hlen] at e
    refine ifT (by rw [decide_eq_false (fun z => hlen (by injection z with z; rw [List.length_cons] at z; omega))]; rfl) ?_
    walk_at "rds"
    exact mk_two fun H' d s2 _ hd => e _ _ rfl H' d (s1.trans s2) hd
  have hlen := Classical.byContradiction hlen
  rw [if_pos hlen] at q e
  refine ifF (by rw [decide_eq_true (congrArg V.int (by rw [List.length_cons]; omega))]; rfl) ?_
  walk_at "rds"
  refine ⟨b, _, rfl, sq hb, fun c hc => ?_⟩
  have hcv : cutV ((v :: ws).map wrd) (some (1 : Nat)) none = ws.map wrd := cutV_from
  have s2 := s1.trans (same_upd (o := .lst (cutV ((v :: ws).map wrd) (some (1 : Nat)) none)) hc)
  have hb2 := same_upd (o := .lst (cutV ((v :: ws).map wrd) (some (1 : Nat)) none)) hc _ _ hb
  have hc2 : upd H1 c (.lst (cutV ((v :: ws).map wrd) (some (1 : Nat)) none)) c = some (.lst (ws.map wrd)) := by rw [upd_same, hcv]
  generalize upd H1 c (.lst (cutV ((v :: ws).map wrd) (some (1 : Nat)) none)) = H2 at s2 hb2 hc2 ⊢
  walk_at "rds"
  refine ⟨a, c, _, _, rfl, .inr hkt, sq hc2, fun D hD => ?_⟩
  refine lc_it (walk_zipM (K := K) (a := a) (b := c) (xs := ks.map V.str) (ys := ws.map wrd) rfl) (Pv := fun i H' => ∃ ys, Same H2 H' ∧ H' D = some (.lst ys) ∧ argsV ks ws = ys ++ argsV (ks.drop i) (ws.drop i) ∧ argBad ks ws = argBad (ks.drop i) (ws.drop i) ∧ ys.length = i) ⟨[], same_upd hD, upd_same, rfl, rfl, rfl⟩ (fun _ _ _ h => by obtain ⟨_, h, _⟩ := h; exact ⟨.inr hkt, sq (h _ _ hc2)⟩) (fun j x H6 H7 hj hp2 hy => ?_) (fun H6 hp2 => ?_)
  · obtain ⟨ys, s6, hD6, av, ab, ly⟩ := hp2
    obtain ⟨t, v1, v2, e1, e2, e3, e4, e5⟩ := hy
    subst e1
    subst e3
    have e4 : (ks.map V.str)[j]? = some v1 := e4
    have e5 : (ws.map wrd)[j]? = some v2 := e5
    rw [List.length_map, List.length_map] at hj
    have j1 : j < ks.length := by omega
    have j2 : j < ws.length := by omega
    have g1 : ks[j]? = some ks[j] := List.getElem?_eq_getElem j1
    have g2 : ws[j]? = some ws[j] := List.getElem?_eq_getElem j2
    have x1 : v1 = .str ks[j] := by rw [List.getElem?_map, g1] at e4; exact (Option.some.inj e4).symm
    have x2 : v2 = wrd ws[j] := by rw [List.getElem?_map, g2] at e5; exact (Option.some.inj e5).symm
    subst x1; subst x2
    obtain ⟨st1, st2⟩ := argBad_step g1 g2
    have lw := sh ws[j] (List.mem_cons_of_mem _ (List.getElem_mem j2))
    have s7 : Same H6 (upd H6 t (.tup [.str ks[j], wrd ws[j]])) := same_upd e2
    have hD7 := s7 _ _ hD6
    refine ⟨t, _, rfl, .inl (.inl upd_same), rfl, ?_⟩
    generalize upd H6 t (.tup [.str ks[j], wrd ws[j]]) = H7 at s7 hD7
    refine ⟨_, _, rfl, _, _, rfl, rfl, rfl, tyes ?_⟩
    walk_at "rds"
    generalize ks[j] = k at st1 st2
    generalize ws[j] = l at st1 st2 lw
    refine ⟨k, l, i, rfl, by omega, fun hk H8 s8 => ?_, fun hk H8 d s8 hd => ?_⟩
    · refine ⟨ys, s8 _ _ hD7, by rw [ly]; exact sz1000' (by rw [List.length_cons] at sn; omega), ys ++ [argV k l], ?_, upd_same, ?_, ?_, by rw [List.length_append, ly]; rfl⟩
      · exact same_mut (s6.trans (s7.trans s8)) hD
      · rw [av, st2, List.append_assoc]; rfl
      · rw [ab, st1, if_pos hk]
    · rw [ab, st1, if_neg (by rw [hk]; decide)] at e
      exact e _ _ rfl _ _ (s2.trans (s6.trans (s7.trans s8))) hd
  obtain ⟨ys, s6, hD6, av, ab, ly⟩ := hp2
  obtain ⟨n1, n2⟩ := argBad_end (ks := ks) (ws := ws) (i := min (ks.map V.str).length (ws.map wrd).length) (by rw [List.length_map, List.length_map]; omega)
  rw [n2, List.append_nil] at av
  rw [ab, n1] at q
  have q := q _ rfl
  rw [av] at q
  have hb6 := s6 _ _ hb2
  have s16 := s2.trans s6
  walk_at "rds"
  refine ⟨b, _, ((0 : Nat) : Int), _, rfl, rfl, sq hb6, atI_nat (by rfl), ?_⟩
  walk_at "rds"
  intro t1 ht1
  have s17 := s16.trans (same_upd (o := .lst [wrd v]) ht1)
  have hD7 := same_upd (o := .lst [wrd v]) ht1 _ _ hD6
  have ht7 : upd H6 t1 (.lst [wrd v]) t1 = some (.lst [wrd v]) := upd_same
  generalize upd H6 t1 (.lst [wrd v]) = H7 at s17 hD7 ht7 ⊢
  walk_at "rds"
  have lys : ys.length ≤ 1001 := by
    rw [ly, List.length_map, List.length_map]
    rw [List.length_cons] at sn
    omega
  have sl := sizeLine_eq
  refine ⟨t1, D, _, _, rfl, rfl, ht7, hD7, by show 1 + ys.length ≤ sizeLine; omega, fun t2 ht2 => ?_⟩
  have s18 := s17.trans (same_upd (o := .lst ([wrd v] ++ ys)) ht2)
  have ht8 : upd H7 t2 (.lst ([wrd v] ++ ys)) t2 = some (.lst ([wrd v] ++ ys)) := upd_same
  generalize upd H7 t2 (.lst ([wrd v] ++ ys)) = H8 at s18 ht8 ⊢
  refine ⟨t2, _, rfl, .inl ⟨sq ht8, fun t3 ht3 => ?_⟩⟩
  exact q _ _ (s18.trans (same_upd ht3)) (same_none s18 ht3) upd_same
end

def vD : V → PyData
  | .int n => .int n
  | .str z => .str z
  | _ => .none
def rowT (xs : List V) : PyData := .tuple (xs.map vD)
def ScV (v : V) : Prop := (∃ z : Str, v = .str z ∧ z.length ≤ 1000) ∨ ∃ n, v = .int n
def pcL : Nat → List (List Nat) → (Str × Nat) ⊕ List (List V)
  | _, [] => .inr []
  | k, p :: ps => match psR k p with
    | .inl e => .inl e
    | .inr xs => match pcL (k + 1) ps with
      | .inl e => .inl e
      | .inr r => .inr (xs :: r)
def pcAll (cs : List Nat) : (Str × Nat) ⊕ List (List V) := if 240 < cs.length then .inl (Str.ofString "long", 0) else if cs.all prC = true then pcL 0 (spA 59 cs) else .inl (Str.ofString "character", 0)
theorem argsV_sc : ∀ {ks : List Str} {ws : List (List Nat)}, (∀ l ∈ ws, l.length ≤ 1000) → ∀ x ∈ argsV ks ws, ScV x
  | [], _, _, x, h => nomatch h
  | _ :: _, [], _, x, h => nomatch h
  | k :: ks, l :: ls, hl, x, h => by
    rcases List.mem_cons.mp h with rfl | h
    · unfold argV
      split
      · exact .inr ⟨_, rfl⟩
      · exact .inl ⟨_, rfl, by rw [wl]; exact hl l List.mem_cons_self⟩
    · exact argsV_sc (fun l m => hl l (List.mem_cons_of_mem _ m)) x h
theorem psR_sc {i : Nat} {p : List Nat} {xs : List V} (hp : p.length ≤ 1000) (h : psR i p = .inr xs) : ∀ x ∈ xs, ScV x := by
  unfold psR at h
  split at h
  · cases h
  split at h
  · cases h
  have sh := spA_short 32 p
  obtain ⟨v, ws, e⟩ := spA_ne 32 p
  rw [e] at h sh
  cases hlk : verbT.lookup (⟨v.toArray⟩ : Str) with
  | none => rw [psW_none hlk] at h; cases h
  | some ks =>
    rw [psW_some hlk] at h
    split at h
    · cases hb : argBad ks ws with
      | some k => rw [hb] at h; cases h
      | none =>
        rw [hb] at h
        injection h with h
        subst h
        intro x hx
        rcases List.mem_cons.mp hx with rfl | hx
        · exact .inl ⟨_, rfl, by rw [wl]; have := sh v List.mem_cons_self; omega⟩
        · exact argsV_sc (fun l m => by have := sh l (List.mem_cons_of_mem _ m); omega) x hx
    · cases h
theorem sc_dt {K : PySem.W.Frag} {H : Hp} {A : Option Addr} : ∀ {xs : List V}, (∀ x ∈ xs, ScV x) → DtAll K H A xs (xs.map vD)
  | [], _ => .nil
  | x :: r, h => by
    refine .cons ?_ (sc_dt fun y m => h y (List.mem_cons_of_mem _ m))
    rcases h x List.mem_cons_self with ⟨z, rfl, hz⟩ | ⟨n, rfl⟩
    · exact .str z (by omega)
    · exact .int n
section
variable {P : Program} {w : World} {K : PySem.W.Frag} {mg : Str → Option Value} {base : Heap}
theorem c_parse_command {C_Accounts : Addr} {C_Sessions : Addr} {C_Store : Addr} {C_State : Addr} {C_BadText : Addr} {C_Refused : Addr} {C_BadCommand : Addr} {C_VERBS : Addr} (T : Txt K mg w C_Accounts C_Sessions C_Store C_State C_BadText C_Refused C_BadCommand C_VERBS) : CalX P w K mg base 7 "parse_command" (fun vs H Q E => ∃ (z : Str), vs = [.str z] ∧ z.length ≤ 10000 ∧
    (∀ p ∈ spA 59 z.cps.toList, ∀ v ws, spA 32 p = v :: ws → verbT.lookup ⟨v.toArray⟩ = none → PySem.W.nsIn K C_VERBS ⟨v.toArray⟩ = some none) ∧
    (∀ rs, pcAll z.cps.toList = .inr rs → ∀ H' b, Same H H' → H b = none → Dt K H' none (.ref b) (.list (rs.map rowT)) → Q (.ref b) H') ∧ (∀ r k, pcAll z.cps.toList = .inl (r, k) → ∀ H' d, Same H H' → BadAt H' d r k → E (.ref C_BadCommand) (some d) H')) := by
  have c_parts_of := c_parts_of (P := P) (w := w) (K := K) (base := base) T
  have c_parse_statement := c_parse_statement (P := P) (w := w) (K := K) (base := base) T
  refine calX T.d_parse_command sc_parse_command (fun vs H Q E h => ?_) (fun f cdv A' outer s H vs Q E hr h => ?_)
  · obtain ⟨z, rfl, _⟩ := h; rfl
  obtain ⟨z, rfl, hz, hv, q, e⟩ := h
  refine ⟨_, (pss_one (ps_ret (pe_lcX (own := [("index", 1), ("part", 2)]) (g := _) (by rfl) sc_parse_command.nd rfl rfl (takes_of rfl rfl rfl rfl) (pi_enum (by rfl) T.z_enumerate (pa_cons (pe_cX c_parts_of hr (by omega) (by rfl) (fun σ => passAt (takes_of rfl rfl rfl rfl) σ) (pa_cons (pv 0) pa_nil)) pa_nil)) (blkOk_by (own := [("index", 1), ("part", 2)]) (N := ["text", "index", "part"]) (sc := defScope s_parse_command) (by decide +kernel)) (fun _ _ _ _ _ _ => kgtup (K := K) (n := 2) (by rfl) (pgs_cons (pg_name (i := 1) sc_parse_command.nd rfl (Or.inl rfl)) (pgs_cons (pg_name (i := 2) sc_parse_command.nd rfl (Or.inl rfl)) pgs_nil))) (fun _ _ _ _ _ _ => pts_nil) (fun _ _ _ _ _ _ hx => (pe_cX c_parse_statement hr (by omega) (by rfl) (fun σ => hx σ) (pa_cons (pv 2) (pa_cons (pv 1) pa_nil))))))), ?_⟩
  walk_at "rds"
  have lz := len_tl z
  unfold pcAll at q e
  refine ⟨by omega, fun h240 hp H1 b s1 hb => ?_, fun h H' d s1 hd => e _ _ (by rw [if_pos (by omega)]) H' d s1 hd, fun h hp H' d s1 hd => e _ _ (by rw [if_neg (by omega), if_neg (by show ¬ isPr z = true; rw [hp]; simp)]) H' d s1 hd⟩
  rw [if_neg (by omega), if_pos (show z.cps.toList.all prC = true from hp)] at q e
  have sh := spA_short 59 z.cps.toList
  have sn := spA_len 59 z.cps.toList
  generalize spA 59 z.cps.toList = ps at hb q e sh sn hv
  walk_at "rds"
  refine ⟨b, _, rfl, sq hb, fun D hD => ?_⟩
  refine lc_it (walk_enum (K := K) (a := b) (xs := ps.map wrd)) (Pv := fun i H' => ∃ xs rows, Same H1 H' ∧ H' D = some (.lst xs) ∧ DtAll K H' (some D) xs (rows.map rowT) ∧ rows.length = i ∧
      pcL 0 ps = (match pcL i (ps.drop i) with | .inl e => .inl e | .inr r => .inr (rows ++ r))) ⟨[], [], same_upd hD, upd_same, .nil, rfl, by rw [List.drop_zero]; cases pcL 0 ps <;> rfl⟩ (fun _ _ _ h => by obtain ⟨_, _, h, _⟩ := h; exact sq (h _ _ hb)) (fun i x H6 H7 hi hp2 hy => ?_) (fun H6 hp2 => ?_)
  · obtain ⟨xs, rows, s6, hD6, dt, lr, pre⟩ := hp2
    obtain ⟨t, v1, v2, e1, e2, e3, e4, e5⟩ := hy
    subst e1
    subst e3
    have e5 : (ps.map wrd)[i]? = some v2 := e5
    rw [List.getElem?_map] at e5
    have hi' : i < ps.length := by rw [List.length_map] at hi; exact hi
    have gp : ps[i]? = some ps[i] := List.getElem?_eq_getElem hi'
    have ex : v2 = wrd ps[i] := by rw [gp] at e5; exact (Option.some.inj e5).symm
    have ei : v1 = .int (i : Nat) := (Option.some.inj e4).symm
    subst ex
    subst ei
    have hT : H6 t = none := e2
    have s7 : Same H6 (upd H6 t (.tup [.int (i : Nat), wrd ps[i]])) := same_upd hT
    have hD7 := s7 _ _ hD6
    have lp : ps[i].length ≤ 1000 := by have := sh ps[i] (List.getElem_mem hi'); omega
    have hvi := hv ps[i] (List.getElem_mem hi')
    rw [List.drop_eq_getElem_cons hi', pcL] at pre
    refine ⟨t, _, rfl, .inl (.inl upd_same), rfl, ?_⟩
    generalize upd H6 t (.tup [.int (i : Nat), wrd ps[i]]) = H7 at s7 hD7
    refine ⟨_, _, rfl, _, _, rfl, rfl, rfl, tyes ?_⟩
    walk_at "rds"
    generalize ps[i] = p at lp hvi pre
    refine ⟨p, i, rfl, lp, hvi, fun ys hps H8 r s8 nr hr => ?_, fun r k hps H8 d s8 hd => ?_⟩
    · rw [hps] at pre
      have hD8 := s8 _ _ hD7
      refine ⟨xs, hD8, by have := dt.length; rw [this, List.length_map, lr]; exact sz1000' (by omega), xs ++ [.ref r], rows ++ [ys], ?_, upd_same, ?_, by rw [List.length_append, lr]; rfl, ?_⟩
      · exact same_mut (s6.trans (s7.trans s8)) hD
      · rw [List.map_append]
        refine DtAll.chg hD8 (fun b o n e => by rw [upd_ne n]; exact e) _ _ (((dt.on s7).on s8).snoc2 (.tup (.inl hr) (sc_dt (psR_sc lp hps))))
      · rw [pre]
        cases pcL (i + 1) (ps.drop (i + 1)) with
        | inl e => rfl
        | inr r => show Sum.inr (rows ++ ys :: r) = Sum.inr (rows ++ [ys] ++ r); rw [List.append_assoc]; rfl
    · rw [hps] at pre
      exact e _ _ pre _ _ (s1.trans (s6.trans (s7.trans s8))) hd
  · obtain ⟨xs, rows, s6, hD6, dt, lr, pre⟩ := hp2
    rw [List.length_map, List.drop_length, pcL] at pre
    refine q _ pre _ _ (s1.trans s6) (same_none s1 hD) ?_
    rw [List.append_nil]
    exact .lst trivial hD6 (DtAll.frees _ _ dt)
end

/-! ### x is True, x is False, whatever x is -/
section
variable {X : Cx}
theorem op_isB : OpR X (compareOp .Is) (fun x y H Q => ∃ b : Bool, y = .bl b ∧ Q (.bl (decide (x = .bl b))) H) := by
  intro pins s σ H x y v u Q I rx ry h
  obtain ⟨b, rfl, q⟩ := h
  cases (show u = Value.bool b from ry)
  cases x with
  | non => cases rx; exact wpAny_is_plain rfl ⟨.bl false, H, I, rfl, by simpa using q⟩
  | bl a =>
    cases (show v = Value.bool a from rx)
    refine wpAny_is_plain rfl ⟨.bl (decide (a = b)), H, I, ?_, by simpa using q⟩
    cases a <;> cases b <;> rfl
  | int i => obtain ⟨t, rfl⟩ := rx; exact wpAny_is_plain rfl ⟨.bl false, H, I, rfl, by simpa using q⟩
  | str i => obtain ⟨t, rfl⟩ := rx; exact wpAny_is_plain rfl ⟨.bl false, H, I, rfl, by simpa using q⟩
  | byt i => obtain ⟨t, rfl⟩ := rx; exact wpAny_is_plain rfl ⟨.bl false, H, I, rfl, by simpa using q⟩
  | flt i => obtain ⟨t, rfl⟩ := rx; exact wpAny_is_plain rfl ⟨.bl false, H, I, rfl, by simpa using q⟩
  | ref i => cases rx; exact wpAny_is_plain rfl ⟨.bl false, H, I, rfl, by simpa using q⟩
  | ty i => cases rx; exact wpAny_is_plain rfl ⟨.bl false, H, I, rfl, by simpa using q⟩
/-- len of a text, a list or a tuple -/
def rLenM (K : PySem.W.Frag) : List V → Hp → VK → Prop := fun xs H Q => (∃ z, xs = [V.str z] ∧ z.length ≤ sizeLine ∧ Q (.int z.length) H) ∨ rLenK K xs H Q
theorem klenM {K : PySem.W.Frag} (h : X.K = K := by rfl) : CallR X (.builtin "len") (rLenM K) := fun pins s σ H xs us Q I rv q => q.elim (call_len_str pins s σ H xs us Q I rv) (klen h pins s σ H xs us Q I rv)
end

/-! ### canonical texts, without Python -/
def fewI (i : Int) : Bool := decide (((Builtin.Int.intBits i : Nat) : Int) ≤ 240) && decide ((((toString (if i < 0 then -i else i) : String) |> Str.ofString).length : Int) ≤ 60)
def hdr (n : Nat) : Str := ((Str.empty ++ "t") ++ Str.ofString (toString (n : Int))) ++ ":"
/-- the text of what is no tuple -/
def sgT : PyData → Option Str
  | .none => some "n"
  | .bool true => some "y"
  | .bool false => some "z"
  | .int i => if fewI i = true then some (((Str.empty ++ "i") ++ Str.ofString (toString i)) ++ ";") else none
  | .str z => if isPr z = true then some ((((Str.empty ++ "s") ++ Str.ofString (toString (z.length : Int))) ++ ":") ++ z) else none
  | _ => none
def isTup : PyData → Bool
  | .tuple _ => true
  | _ => false
def fit (room : Int) : Option Str → Option Str
  | none => none
  | some z => if (z.length : Int) > room then none else some z
mutual
def encT : Nat → Int → PyData → Option Str
  | k, room, .tuple ds => fit room (match k with
    | 0 => none
    | k + 1 => encL k (room - (hdr ds.length).length) (hdr ds.length) ds)
  | _, room, d => fit room (sgT d)
def encL : Nat → Int → Str → List PyData → Option Str
  | _, _, acc, [] => some acc
  | k, room, acc, d :: r => match encT k room d with
    | none => none
    | some z => encL k (room - z.length) (acc ++ z) r
end
theorem encT_tup (k : Nat) (room : Int) (ds : List PyData) : encT (k + 1) room (.tuple ds) = fit room (encL k (room - (hdr ds.length).length) (hdr ds.length) ds) := by rw [encT]
theorem encT_zero (room : Int) (ds : List PyData) : encT 0 room (.tuple ds) = none := by rw [encT]; rfl
theorem encT_sg {k : Nat} {room : Int} {d : PyData} (h : isTup d = false) : encT k room d = fit room (sgT d) := by
  cases d with
  | tuple ds => cases h
  | _ => rw [encT]; all_goals exact fun _ z => nomatch z
theorem encL_cons (k : Nat) (room : Int) (acc : Str) (d : PyData) (r : List PyData) : encL k room acc (d :: r) = match encT k room d with
    | none => none
    | some z => encL k (room - z.length) (acc ++ z) r := by rw [encL]
theorem itx_len {i : Int} {k : Nat} (hk : 0 < k) (h : i.natAbs.log2 < k) : (Str.ofString (toString i)).length ≤ k + 1 := by
  rw [PySem.ofString_length]; exact int_text_length_le hk h
theorem log2_of_lt {n k : Nat} (hk : 0 < k) (h : n < 2 ^ k) : n.log2 < k := by
  by_cases z : n = 0
  · subst z; simpa using hk
  · exact (Nat.log2_lt z).mpr h
theorem len_app2 (a b : Str) : (a ++ b).length = a.length + b.length := Str.length_append a b
mutual
/-- no integer is beyond all bounds -/
def BigO : PyData → Prop
  | .int i => i.natAbs < 2 ^ 1000
  | .tuple ds => ds.length ≤ 10000 ∧ BigL ds
  | _ => True
def BigL : List PyData → Prop
  | [] => True
  | d :: r => BigO d ∧ BigL r
end
theorem BigL.mem : ∀ {ds : List PyData}, BigL ds → ∀ d ∈ ds, BigO d
  | _ :: _, h, _, .head _ => by rw [BigL] at h; exact h.1
  | _ :: _, h, _, .tail _ m => by rw [BigL] at h; exact BigL.mem h.2 _ m
theorem encT_fit {k : Nat} {room : Int} {d : PyData} {z : Str} (h : encT k room d = some z) : (z.length : Int) ≤ room := by
  have key : ∀ x : Option Str, fit room x = some z → (z.length : Int) ≤ room := by
    intro x e
    cases x with
    | none => cases e
    | some y =>
      by_cases g : (y.length : Int) > room
      · rw [show fit room (some y) = none from if_pos g] at e; cases e
      · rw [show fit room (some y) = some y from if_neg g] at e; cases e; omega
  cases d with
  | tuple ds =>
    cases k with
    | zero => rw [encT_zero] at h; cases h
    | succ k => rw [encT_tup] at h; exact key _ h
  | _ => rw [encT_sg rfl] at h; exact key _ h
theorem encL_len {k : Nat} : ∀ (ds : List PyData) (room : Int) (acc z : Str), encL k room acc ds = some z → z.length ≤ acc.length + room.toNat
  | [], room, acc, z, h => by rw [encL] at h; cases h; omega
  | d :: r, room, acc, z, h => by
    rw [encL_cons] at h
    cases e : encT k room d with
    | none => rw [e] at h; cases h
    | some y =>
      rw [e] at h
      have := encT_fit e
      have ih := encL_len r _ _ _ h
      rw [len_app2] at ih
      omega
def rawT (n : Nat) (room : Int) (ds : List PyData) : Option Str := match n with
  | 0 => none
  | n + 1 => encL n (room - (hdr ds.length).length) (hdr ds.length) ds
theorem hdr_len {n : Nat} (h : n ≤ 1000000) : (hdr n).length ≤ 1003 := by
  have lg : ((n : Int)).natAbs.log2 < 1000 := log2_of_lt (by omega) (by have : (2:Nat) ^ 20 ≤ 2 ^ 1000 := Nat.pow_le_pow_right (by omega) (by omega); have : (2:Nat) ^ 20 = 1048576 := rfl; omega)
  have tl := itx_len (by omega) lg
  have e1 : (Str.empty).length = 0 := rfl
  have e2 : (Str.ofString "t").length = 1 := rfl
  have e3 : (Str.ofString ":").length = 1 := rfl
  show (((Str.empty ++ Str.ofString "t") ++ Str.ofString (toString (n : Int))) ++ Str.ofString ":").length ≤ _
  simp only [len_app2]; omega
theorem rawT_len {n : Nat} {room : Int} {ds : List PyData} {z : Str} (hd : ds.length ≤ 1000000) (hr : room ≤ 1000000) (h : rawT n room ds = some z) : z.length ≤ 16000000 := by
  cases n with
  | zero => cases h
  | succ n =>
    have := encL_len _ _ _ _ h
    have := hdr_len hd
    omega
theorem sgT_len {d : PyData} {z : Str} (hs : ∀ y, d = .str y → y.length ≤ 1000000) (hi : ∀ i, d = .int i → i.natAbs < 2 ^ 1000) (h : sgT d = some z) : z.length ≤ 16000000 := by
  have e1 : (Str.empty).length = 0 := rfl
  cases d with
  | none => cases h; decide
  | bool b => cases b <;> (cases h; decide)
  | int i =>
    have lg : i.natAbs.log2 < 1000 := log2_of_lt (by omega) (hi i rfl)
    have tl := itx_len (by omega) lg
    have e2 : (Str.ofString "i").length = 1 := rfl
    have e3 : (Str.ofString ";").length = 1 := rfl
    replace h : (if fewI i = true then some (((Str.empty ++ Str.ofString "i") ++ Str.ofString (toString i)) ++ Str.ofString ";") else none) = some z := h
    split at h
    · cases h; simp only [len_app2]; omega
    · cases h
  | str y =>
    have hy := hs y rfl
    have lg : ((y.length : Int)).natAbs.log2 < 1000 := log2_of_lt (by omega) (by have : (2:Nat) ^ 20 ≤ 2 ^ 1000 := Nat.pow_le_pow_right (by omega) (by omega); have : (2:Nat) ^ 20 = 1048576 := rfl; omega)
    have tl := itx_len (by omega) lg
    have e2 : (Str.ofString "s").length = 1 := rfl
    have e3 : (Str.ofString ":").length = 1 := rfl
    replace h : (if isPr y = true then some ((((Str.empty ++ Str.ofString "s") ++ Str.ofString (toString (y.length : Int))) ++ Str.ofString ":") ++ y) else none) = some z := h
    split at h
    · cases h; simp only [len_app2]; omega
    · cases h
  | _ => cases h
def jn (ys : List Str) : Str := Txt.join (Str.ofString "") ys
theorem jn_one (z : Str) : jn [z] = z := eq_of_beq (join_closes (sep' := Str.ofString "") (ys := [z]) rfl)
theorem strjoin_cons (x : Str) : ∀ (l : List Str), Str.join (Str.ofString "") (x :: l) = x ++ Str.join (Str.ofString "") l
  | [] => (PySem.Str.append_empty x).symm
  | y :: r => by
    show x ++ Str.empty ++ Str.join (Str.ofString "") (y :: r) = _
    rw [PySem.Str.append_empty]
theorem strjoin_snoc (z : Str) : ∀ (l : List Str), Str.join (Str.ofString "") (l ++ [z]) = Str.join (Str.ofString "") l ++ z
  | [] => (PySem.Str.empty_append z).symm
  | x :: r => by rw [List.cons_append, strjoin_cons, strjoin_cons, strjoin_snoc z r, Str.append_assoc]
theorem jn_snoc (ys : List Str) (z : Str) : jn (ys ++ [z]) = jn ys ++ z := by
  have e : ∀ l, jn l = Str.join (Str.ofString "") l := fun l => eq_of_beq (join_closes rfl)
  rw [e, e, strjoin_snoc]
theorem jn_len : ∀ ys : List Str, (jn ys).length = (ys.map (·.length)).sum := by
  have e : ∀ l, jn l = Str.join (Str.ofString "") l := fun l => eq_of_beq (join_closes rfl)
  intro ys
  rw [e]
  induction ys with
  | nil => rfl
  | cons y r ih => rw [strjoin_cons, len_app2, ih, List.map_cons, List.sum_cons]
theorem BigL.get : ∀ {ds : List PyData} {i : Nat} {d : PyData}, BigL ds → ds[i]? = some d → BigO d := fun h e => h.mem _ (List.mem_of_getElem? e)

/-! ### single_text -/
def spFew (K : PySem.W.Frag) : Sp := fun vs H Q _ => ∃ (v : V), vs = [v] ∧ ((∃ i, v = .int i ∧ i.natAbs < 2 ^ 1000 ∧ Q (.bl (fewI i)) H) ∨ (∃ T, TyX K H v (.type T) ∧ kitB T "int" = some false ∧ Q (.bl false) H))
section
variable {P : Program} {w : World} {K : PySem.W.Frag} {mg : Str → Option Value} {base : Heap}
theorem c_has_few_digits {C_Accounts : Addr} {C_Sessions : Addr} {C_Store : Addr} {C_State : Addr} {C_BadText : Addr} {C_Refused : Addr} {C_BadCommand : Addr} {C_VERBS : Addr} (T : Txt K mg w C_Accounts C_Sessions C_Store C_State C_BadText C_Refused C_BadCommand C_VERBS) : Cal P w K mg base 1 "has_few_digits" (spFew K) [] := by
  refine cal T.d_has_few_digits sc_has_few_digits (fun vs H Q E h => ?_) (fun f cdv A outer s H vs Q E hr h => ?_)
  · obtain ⟨v, rfl, _⟩ := h; rfl
  obtain ⟨v, rfl, h⟩ := h
  refine ⟨_, (pss_cons (ps_if (PW.pt (pw_or (pt_not (pt_val (pe_callB (kisi (K := K)) (by rfl) T.z_isinstance (by decide +kernel) (pa_cons (pv 0) (pa_cons (pe_bltn (v := .ty "int") (by rfl) T.z_int (by decide +kernel) rfl) pa_nil))))) (pw_or1 (pt_cmpR op_gt (pe_bits (pv 0)) (pe_op op_mul pe_int (pe_gc (by rfl) T.c_MOST_DIGITS)) (nomark _))))) (pss_one (ps_ret pe_bl)) pss_nil)
      (pss_one (ps_ret (pe_cmpR op_le (pe_callB call_len_str (by rfl) T.z_len (by decide +kernel) (pa_cons (pe_callTy call_str_int (by rfl) T.z_str (by decide +kernel) (pa_cons (pe_callB call_abs (by rfl) T.z_abs (by decide +kernel) (pa_cons (pv 0) pa_nil)) pa_nil)) pa_nil)) (pe_gc (by rfl) T.c_MOST_DIGITS) (nomark _))))), ?_⟩
  rcases h with ⟨i, rfl, hi, q⟩ | ⟨T, ty, hk, q⟩
  · walk_at "rds"
    walk_at "isi"
    walk_at "rds"
    unfold fewI at q
    refine ite2 (fun e => ?_) (fun e => ?_)
    · have e : ((Builtin.Int.intBits i : Nat) : Int) > 240 := of_decide_eq_true e
      rw [decide_eq_false (by omega), Bool.false_and] at q
      walk_at "rds"
      exact q
    · have e : ¬ ((Builtin.Int.intBits i : Nat) : Int) > 240 := fun z => e (decide_eq_true z)
      rw [decide_eq_true (by omega), Bool.true_and] at q
      have eb : Builtin.Int.intBits i ≤ 240 := by omega
      have lg : (if i < 0 then -i else i).natAbs.log2 < 1920 := by
        have e1 : (if i < 0 then -i else i).natAbs = i.natAbs := by split <;> omega
        rw [e1]
        unfold Builtin.Int.intBits at eb
        split at eb
        · rename_i z
          rw [show i = 0 by simpa using z]; decide
        · omega
      walk_at "rds"
      refine ⟨lg, ?_⟩
      walk_at "rds"
      refine ⟨PySem.int_text_fits lg, ?_⟩
      walk_at "rds"
      exact q
  · walk_at "rds"
    refine ⟨_, .ty _, _, _, false, rfl, .ty _, ty, kit_ty hk, ?_⟩
    walk_at "rds"
    exact q
def spSg (K : PySem.W.Frag) (A : Option Addr) (B : Addr) : Sp := fun vs H Q E => ∃ (v : V) (d : PyData), vs = [v] ∧ Dt K H A v d ∧ isTup d = false ∧ (∀ i, d = .int i → i.natAbs < 2 ^ 1000) ∧ (∀ s, sgT d = some s → ∀ H', Same H H' → Q (.str s) H') ∧ (sgT d = none → ∀ H', Same H H' → E (.ref B) none H')
theorem c_single_text {C_Accounts : Addr} {C_Sessions : Addr} {C_Store : Addr} {C_State : Addr} {C_BadText : Addr} {C_Refused : Addr} {C_BadCommand : Addr} {C_VERBS : Addr} (T : Txt K mg w C_Accounts C_Sessions C_Store C_State C_BadText C_Refused C_BadCommand C_VERBS) (A : Option Addr) : CalX P w K mg base 4 "single_text" (spSg K A C_BadText) := by
  have c_has_few_digits := c_has_few_digits (P := P) (w := w) (base := base) T
  have c_is_printable := c_is_printable (P := P) (w := w) (base := base) T
  refine calX T.d_single_text sc_single_text (fun vs H Q E h => ?_) (fun f cdv A' outer s H vs Q E hr h => ?_)
  · obtain ⟨v, d, rfl, _⟩ := h; rfl
  obtain ⟨v, d, rfl, dv, nt, bi, q, qe⟩ := h
  refine ⟨_, (pss_cons (ps_if (pt_cmpR op_isN (pv 0) pe_non (nomark _)) (pss_one (ps_ret pe_str)) pss_nil)
      (pss_cons (ps_if (pt_cmpR op_isB (pv 0) pe_bl (nomark _)) (pss_one (ps_ret pe_str)) pss_nil)
      (pss_cons (ps_if (pt_cmpR op_isB (pv 0) pe_bl (nomark _)) (pss_one (ps_ret pe_str)) pss_nil)
      (pss_cons (ps_if (pt_val (pe_c c_has_few_digits hr (by omega) (by rfl) (pa_cons (pv 0) pa_nil))) (pss_one (ps_ret (pe_joined (PJ.cons pe_str (PJ.cons (pe_fmt (pv 0)) (PJ.cons pe_str PJ.nil)))))) pss_nil)
      (pss_cons (ps_if (pt_val (pe_c c_is_printable hr (by omega) (by rfl) (pa_cons (pv 0) pa_nil))) (pss_one (ps_ret (pe_joined (PJ.cons pe_str (PJ.cons (pe_fmt (pe_callB call_len_str (by rfl) T.z_len (by decide +kernel) (pa_cons (pv 0) pa_nil))) (PJ.cons pe_str (PJ.cons (pe_fmt (pv 0)) PJ.nil))))))) pss_nil)
      (pss_one (ps_raise rfl (takes_of rfl rfl rfl rfl) (pmk_ok T.x_BadText (by rfl))))))))), ?_⟩
  cases dv with
  | non =>
    have q := q _ rfl H (Same.refl H)
    walk_at "rds"
    refine ifT rfl ?_
    walk_at "rds"
    exact q
  | bl b =>
    walk_at "rds"
    cases b with
    | true =>
      have q := q _ rfl H (Same.refl H)
      refine ifT rfl ?_
      walk_at "rds"
      exact q
    | false =>
      have q := q _ rfl H (Same.refl H)
      refine ifF rfl ?_
      walk_at "rds"
      exact q
  | int i =>
    walk_at "rds"
    refine .inl ⟨i, rfl, bi i rfl, ?_⟩
    cases e : fewI i with
    | true =>
      walk_at "rds"
      have lg : i.natAbs.log2 < 1000 := log2_of_lt (by omega) (bi i rfl)
      have tl := itx_len (by omega) lg
      have lgB : i.natAbs.log2 < 1920 := by omega
      have sl := sizeLine_eq
      refine .inr ⟨i, rfl, lgB, ?_⟩
      walk_at "rds"
      refine ⟨by simp only [len_app2]; rw [sl]; have e1 : (Str.empty).length = 0 := rfl; have e2 : (Str.ofString "i").length = 1 := rfl; omega, ?_⟩
      walk_at "rds"
      have e1 : (Str.empty).length = 0 := rfl
      have e2 : (Str.ofString "i").length = 1 := rfl
      have e3 : (Str.ofString ";").length = 1 := rfl
      refine ⟨by simp only [len_app2]; omega, ?_⟩
      walk_at "rds"
      exact q _ (if_pos e) _ (Same.refl H)
    | false =>
      walk_at "rds"
      refine .inr ⟨⟨_, .base (.int i), by decide +kernel⟩, ?_⟩
      walk_at "rds"
      exact qe (by show (if fewI i = true then _ else _) = _; rw [if_neg (by rw [e]; decide)]) _ (Same.refl H)
  | str z hz =>
    walk_at "rds"
    refine .inr ⟨_, .base (.str z), by decide +kernel, ?_⟩
    walk_at "rds"
    refine .inl ⟨z, rfl, by omega, fun H' s' => ?_⟩
    cases e : isPr z with
    | true =>
      walk_at "rds"
      have lg : ((z.length : Int)).natAbs.log2 < 1000 := log2_of_lt (by omega) (by have : (2:Nat) ^ 20 ≤ 2 ^ 1000 := Nat.pow_le_pow_right (by omega) (by omega); have : (2:Nat) ^ 20 = 1048576 := rfl; omega)
      have tl := itx_len (by omega) lg
      have lgB : ((z.length : Int)).natAbs.log2 < 1920 := by omega
      have sl := sizeLine_eq
      have e1 : (Str.empty).length = 0 := rfl
      have e2 : (Str.ofString "s").length = 1 := rfl
      have e3 : (Str.ofString ":").length = 1 := rfl
      refine .inr ⟨_, rfl, lgB, ?_⟩
      walk_at "rds"
      refine ⟨by simp only [len_app2]; omega, ?_⟩
      walk_at "rds"
      refine ⟨by simp only [len_app2]; omega, ?_⟩
      walk_at "rds"
      refine .inl ⟨_, rfl, by omega, ?_⟩
      walk_at "rds"
      refine ⟨by simp only [len_app2]; omega, ?_⟩
      walk_at "rds"
      exact q _ (if_pos e) _ s'
    | false =>
      walk_at "rds"
      exact qe (by show (if isPr z = true then _ else _) = _; rw [if_neg (by rw [e]; decide)]) _ s'
  | lst ne ha hx =>
    walk_at "rds"
    refine .inr ⟨_, .base (.lst ha), by decide +kernel, ?_⟩
    walk_at "rds"
    refine .inr ⟨⟨_, .base (.lst ha), by decide +kernel⟩, ?_⟩
    walk_at "rds"
    exact qe rfl _ (Same.refl H)
  | tup ha hx => cases nt
/-! ### text_of, tuple_text -/
def spTx (K : PySem.W.Frag) (A : Option Addr) (B : Addr) (n : Nat) : Sp := fun vs H Q E => ∃ (v : V) (d : PyData) (room : Int), vs = [v, .int n, .int room] ∧ Dt K H A v d ∧ BigO d ∧ room ≤ 1000000 ∧ (∀ s, encT n room d = some s → ∀ H', Same H H' → Q (.str s) H') ∧ (encT n room d = none → ∀ H', Same H H' → E (.ref B) none H')
def spTT (K : PySem.W.Frag) (A : Option Addr) (B : Addr) (n : Nat) : Sp := fun vs H Q E => ∃ (v : V) (ds : List PyData) (room : Int), vs = [v, .int n, .int room] ∧ Dt K H A v (.tuple ds) ∧ ds.length ≤ 1000000 ∧ BigL ds ∧ room ≤ 1000000 ∧ (∀ s, rawT n room ds = some s → ∀ H', Same H H' → Q (.str s) H') ∧ (rawT n room ds = none → ∀ H', Same H H' → E (.ref B) none H')
def spTP (K : PySem.W.Frag) (A : Option Addr) (B : Addr) : Nat → Sp
  | 0 => fun _ _ _ _ => False
  | n + 1 => spTx K A B n
theorem c_text_of {C_Accounts : Addr} {C_Sessions : Addr} {C_Store : Addr} {C_State : Addr} {C_BadText : Addr} {C_Refused : Addr} {C_BadCommand : Addr} {C_VERBS : Addr} (T : Txt K mg w C_Accounts C_Sessions C_Store C_State C_BadText C_Refused C_BadCommand C_VERBS) (A : Option Addr) (n L : Nat) (hL : 4 ≤ L) (c_tuple_text : CalX P w K mg base L "tuple_text" (spTT K A C_BadText n)) : CalX P w K mg base (L + 1) "text_of" (spTx K A C_BadText n) := by
  have c_single_text := c_single_text (P := P) (w := w) (base := base) T A
  refine calX T.d_text_of sc_text_of (fun vs H Q E h => ?_) (fun f cdv A' outer s H vs Q E hr h => ?_)
  · obtain ⟨v, d, room, rfl, _⟩ := h; rfl
  obtain ⟨v, d, room, rfl, dv, bd, hroom, q, qe⟩ := h
  refine ⟨_, (pss_cut (ps_if (pt_val (pe_callB (kisi (K := K)) (by rfl) T.z_isinstance (by decide +kernel) (pa_cons (pv 0) (pa_cons (pe_bltn (v := .ty "tuple") (by rfl) T.z_tuple (by decide +kernel) rfl) pa_nil)))) (pss_one (ps_set (i := 3) sc_text_of.nd rfl (Or.inl rfl) (pe_cX c_tuple_text hr (by omega) (by rfl) (fun σ => passAt (takes_of rfl rfl rfl rfl) σ) (pa_cons (pv 0) (pa_cons (pv 1) (pa_cons (pv 2) pa_nil)))))) (pss_one (ps_set (i := 3) sc_text_of.nd rfl (Or.inl rfl) (pe_cX c_single_text hr (by omega) (by rfl) (fun σ => passAt (takes_of rfl rfl rfl rfl) σ) (pa_cons (pv 0) pa_nil)))))
      (pss_cons (ps_if (pt_cmpR op_gt (pe_callB call_len_str (by rfl) T.z_len (by decide +kernel) (pa_cons (pv 3) pa_nil)) (pv 2) (nomark _)) (pss_one (ps_raise rfl (takes_of rfl rfl rfl rfl) (pmk_ok T.x_BadText (by rfl)))) pss_nil)
      (pss_one (ps_ret (pv 3))))), ?_⟩
  have fitX : ∀ (x : Option Str), encT n room d = fit room x → (x = none → ∀ H', Same H H' → E (.ref C_BadText) none H') ∧ (∀ z, x = some z → (z.length : Int) > room → ∀ H', Same H H' → E (.ref C_BadText) none H') ∧ (∀ z, x = some z → ¬ (z.length : Int) > room → ∀ H', Same H H' → Q (.str z) H') := by
    intro x e
    refine ⟨fun ex => qe (by rw [e, ex]; rfl), fun z ex g => qe (by rw [e, ex]; exact if_pos g), fun z ex g => q z (by rw [e, ex]; exact if_neg g)⟩
  have sl := sizeLine_eq
  walk_at "rds"
  refine ⟨fun σ' H' => ∃ z : Str, σ' = [some v, some (.int n), some (.int room), some (.str z)] ∧ z.length ≤ 16000000 ∧ ((z.length : Int) > room → ∀ H2, Same H' H2 → E (.ref C_BadText) none H2) ∧ (¬ (z.length : Int) > room → ∀ H2, Same H' H2 → Q (.str z) H2), ?_, ?_⟩
  · cases ht : isTup d with
    | true =>
      cases d with
      | tuple ds =>
        have dv' := dv
        cases dv with
        | tup ha hx =>
          walk_at "rds"
          refine ⟨_, .ty _, _, _, true, rfl, .ty _, ha.ty, kit_ty (by decide +kernel), ?_⟩
          walk_at "rds"
          rw [BigO] at bd
          have e : encT n room (.tuple ds) = fit room (rawT n room ds) := by
            cases n with
            | zero => exact encT_zero room ds
            | succ n => exact encT_tup n room ds
          obtain ⟨f1, f2, f3⟩ := fitX _ e
          refine ⟨_, ds, room, rfl, dv', (Nat.le_trans bd.1 (by decide)), bd.2, hroom, fun z ez H1 s1 => ?_, fun ez => f1 ez⟩
          walk_at "rds"
          refine ⟨z, rfl, ?_, fun g H2 s2 => f2 z ez g _ (s1.trans s2), fun g H2 s2 => f3 z ez g _ (s1.trans s2)⟩
          exact rawT_len (Nat.le_trans bd.1 (by decide)) hroom ez
      | _ => cases ht
    | false =>
      obtain ⟨f1, f2, f3⟩ := fitX (sgT d) (encT_sg ht)
      obtain ⟨ty, hty, hk⟩ : ∃ T, TyX K H v (.type T) ∧ kitB T "tuple" = some false := by
        cases dv with
        | non => exact ⟨_, .base .non, by decide +kernel⟩
        | bl b => exact ⟨_, .base (.bl b), by decide +kernel⟩
        | int i => exact ⟨_, .base (.int i), by decide +kernel⟩
        | str z hz => exact ⟨_, .base (.str z), by decide +kernel⟩
        | lst ne ha hx => exact ⟨_, .base (.lst ha), by decide +kernel⟩
        | tup ha hx => cases ht
      walk_at "rds"
      refine ⟨_, .ty _, _, _, false, rfl, .ty _, hty, kit_ty hk, ?_⟩
      walk_at "rds"
      refine ⟨v, d, rfl, dv, ht, fun i e => by subst e; rw [BigO] at bd; exact bd, fun z ez H1 s1 => ?_, fun ez => f1 ez⟩
      walk_at "rds"
      refine ⟨z, rfl, sgT_len (fun y e => by subst e; cases dv with | str _ h => exact h) (fun i e => by subst e; rw [BigO] at bd; exact bd) ez, fun g H2 s2 => f2 z ez g _ (s1.trans s2), fun g H2 s2 => f3 z ez g _ (s1.trans s2)⟩
  · rintro σ' H' ⟨z, rfl, hz, e1, e2⟩
    walk_at "rds"
    refine ite2 (fun e => ?_) (fun e => ?_)
    · walk_at "rds"
      exact e1 (of_decide_eq_true e) _ (Same.refl _)
    · walk_at "rds"
      exact e2 (fun g => e (decide_eq_true g)) _ (Same.refl _)
theorem c_tuple_text {C_Accounts : Addr} {C_Sessions : Addr} {C_Store : Addr} {C_State : Addr} {C_BadText : Addr} {C_Refused : Addr} {C_BadCommand : Addr} {C_VERBS : Addr} (T : Txt K mg w C_Accounts C_Sessions C_Store C_State C_BadText C_Refused C_BadCommand C_VERBS) (A : Option Addr) (n L : Nat) (hL : 4 ≤ L) (c_text_of : CalX P w K mg base L "text_of" (spTP K A C_BadText n)) : CalX P w K mg base (L + 1) "tuple_text" (spTT K A C_BadText n) := by
  refine calX T.d_tuple_text sc_tuple_text (fun vs H Q E h => ?_) (fun f cdv A' outer s H vs Q E hr h => ?_)
  · obtain ⟨v, ds, room, rfl, _⟩ := h; rfl
  obtain ⟨v, ds, room, rfl, dv, hl, bd, hroom, q, qe⟩ := h
  have sl := sizeLine_eq
  refine ⟨_, (pss_cons (ps_if (pt_cmpR op_eq (pv 1) pe_int (nomark _)) (pss_one (ps_raise rfl (takes_of rfl rfl rfl rfl) (pmk_ok T.x_BadText (by rfl)))) pss_nil)
      (pss_cons (ps_set (i := 3) sc_tuple_text.nd rfl (Or.inl rfl) (pe_lst (pa_cons (pe_joined (PJ.cons pe_str (PJ.cons (pe_fmt (pe_callB (klen (K := K)) (by rfl) T.z_len (by decide +kernel) (pa_cons (pv 0) pa_nil))) (PJ.cons pe_str PJ.nil)))) pa_nil)))
      (pss_cons (ps_set (i := 2) sc_tuple_text.nd rfl (Or.inl rfl) (pe_op op_sub (pv 2) (pe_callB call_len_str (by rfl) T.z_len (by decide +kernel) (pa_cons (pe_ix (kixl (K := K)) (pv 3) pe_int (fun _ _ => rfl)) pa_nil))))
      (pss_cons (ps_for (passes_of rfl) rfl (pi_tup (pv 0)) (pg_name (i := 4) sc_tuple_text.nd rfl (Or.inl rfl)) (pss_cons (ps_set (i := 5) sc_tuple_text.nd rfl (Or.inl rfl) (pe_cX c_text_of hr (by omega) (by rfl) (fun σ => passAt (takes_of rfl rfl rfl rfl) σ) (pa_cons (pv 4) (pa_cons (pe_op op_sub (pv 1) pe_int) (pa_cons (pv 2) pa_nil)))))
      (pss_cons (ps_expr (pe_bm PySem.F.plainAttrs_list PySem.F.slot_list_append PySem.F.type_list_append mt_append (pv 3) (pa_cons (pv 5) pa_nil)))
      (pss_one (ps_set (i := 2) sc_tuple_text.nd rfl (Or.inl rfl) (pe_op op_sub (pv 2) (pe_callB call_len_str (by rfl) T.z_len (by decide +kernel) (pa_cons (pv 5) pa_nil))))))))
      (pss_one (ps_ret (pe_join pe_str (pv 3)))))))), ?_⟩
  walk_at "rds"
  cases n with
  | zero =>
    refine ifT rfl ?_
    walk_at "rds"
    exact qe rfl _ (Same.refl _)
  | succ n =>
    refine ifF rfl ?_
    cases dv with
    | tup ha hx =>
      rename_i a xs
      have lxs : xs.length = ds.length := hx.length
      walk_at "rds"
      refine ⟨a, xs, rfl, .inr ha.sq, ?_⟩
      walk_at "rds"
      have lg : ((xs.length : Int)).natAbs.log2 < 1000 := log2_of_lt (by omega) (by have : (2:Nat) ^ 20 ≤ 2 ^ 1000 := Nat.pow_le_pow_right (by omega) (by omega); have : (2:Nat) ^ 20 = 1048576 := rfl; omega)
      have tl := itx_len (by omega) lg
      have e1 : (Str.empty).length = 0 := rfl
      have e2 : (Str.ofString "t").length = 1 := rfl
      have e3 : (Str.ofString ":").length = 1 := rfl
      refine .inr ⟨_, rfl, by omega, ?_⟩
      walk_at "rds"
      refine ⟨by simp only [len_app2]; omega, ?_⟩
      walk_at "rds"
      refine ⟨by simp only [len_app2]; omega, ?_⟩
      walk_at "rds"
      intro L hL'
      have hh := hdr_len hl
      have eh : Str.empty ++ Str.ofString "t" ++ Str.ofString (toString (xs.length : Int)) ++ Str.ofString ":" = hdr ds.length := by rw [lxs]; rfl
      rw [eh]
      clear eh
      have s1 : Same H (upd H L (.lst [V.str (hdr ds.length)])) := same_upd hL'
      have eL : upd H L (.lst [V.str (hdr ds.length)]) L = some (.lst [V.str (hdr ds.length)]) := upd_same
      generalize upd H L (.lst [V.str (hdr ds.length)]) = G at s1 eL
      walk_at "rds"
      refine ⟨L, _, 0, _, rfl, rfl, sq eL, atI_nat (j := 0) rfl, ?_⟩
      walk_at "rds"
      refine ⟨⟨xs, (ha.same s1).sq⟩, ?_⟩
      refine for_it (walk_tup (K := K) (a := a) (xs := xs)) (Pv := fun i σ H' => ∃ (ys : List Str) (rm : Int) (y4 y5 : Option V), σ = [some (.ref a), some (.int ((n + 1 : Nat) : Int)), some (.int rm), some (.ref L), y4, y5] ∧ Same H H' ∧ H' L = some (.lst (ys.map V.str)) ∧ ys.length = i + 1 ∧ rawT (n + 1) room ds = encL n rm (jn ys) (ds.drop i) ∧ (jn ys).length + rm.toNat ≤ 2000000 ∧ rm ≤ 1000000)
        ⟨[hdr ds.length], room - (hdr ds.length).length, none, none, rfl, s1, eL, rfl, by rw [jn_one]; rfl, by rw [jn_one]; omega, by omega⟩ (fun i σ H' _ h => ?_) (fun i x σ H1 H2 hi hp hy => ?_) (fun σ H' hp => ?_)
      · obtain ⟨_, _, _, _, _, s2, _⟩ := h
        exact (ha.same s2).sq
      · obtain ⟨ys, rm, y4, y5, rfl, s2, eL2, ly, er, szj, hrm⟩ := hp
        obtain ⟨rfl, gx⟩ := hy
        obtain ⟨d, gd, hdx⟩ := (hx.on s2).get gx
        have hid : i < ds.length := (List.getElem?_eq_some_iff.mp gd).1
        have dd : ds.drop i = d :: ds.drop (i + 1) := by rw [List.drop_eq_getElem_cons hid]; rw [List.getElem?_eq_getElem hid] at gd; cases gd; rfl
        rw [dd, encL_cons] at er
        walk_at "rds"
        refine ⟨x, d, rm, congrArg (fun z => [x, V.int z, V.int rm]) (show ((n + 1 : Nat) : Int) - 1 = (n : Int) by omega), hdx, bd.get gd, hrm, fun z ez H3 s3 => ?_, fun ez H3 s3 => qe (by rw [er, ez]) _ (s2.trans s3)⟩
        rw [ez] at er
        have fz := encT_fit ez
        have eL3 := s3 _ _ eL2
        have s4 := s2.trans s3
        walk_at "rds"
        refine ⟨.inl ⟨rfl, _, sq eL3⟩, ?_⟩
        walk_at "rds"
        refine ⟨L, _, _, rfl, rfl, eL3, by rw [List.length_map]; omega, ?_⟩
        have s5 : Same H (upd H3 L (.lst (ys.map V.str ++ [.str z]))) := same_mut s4 hL'
        have eL5 : upd H3 L (.lst (ys.map V.str ++ [.str z])) L = some (.lst (ys.map V.str ++ [.str z])) := upd_same
        generalize upd H3 L (.lst (ys.map V.str ++ [.str z])) = H5 at s5 eL5
        walk_at "rds"
        refine ⟨ys ++ [z], _, _, _, rfl, s5, by rw [List.map_append]; exact eL5, by rw [List.length_append, ly]; rfl, by rw [er, jn_snoc], by rw [jn_snoc, len_app2]; omega, by omega⟩
      · obtain ⟨ys, rm, y4, y5, rfl, s2, eL2, ly, er, szj, hrm⟩ := hp
        rw [lxs, List.drop_length, encL] at er
        walk_at "rds"
        refine ⟨_, L, ys, rfl, rfl, .inl (sq eL2), ?_, q _ er _ s2⟩
        rw [← jn_len, show (Str.ofString "").length = 0 from rfl]
        omega
end

/-! ### encode, text_length -/
def spEnc (K : PySem.W.Frag) (A : Option Addr) (B : Addr) : Sp := fun vs H Q E => ∃ (v : V) (d : PyData), vs = [v] ∧ Dt K H A v d ∧ BigO d ∧ (∀ s, encT 12 100000 d = some s → ∀ H', Same H H' → Q (.str s) H') ∧ (encT 12 100000 d = none → ∀ H', Same H H' → E (.ref B) none H')
def spLen (K : PySem.W.Frag) (A : Option Addr) (B : Addr) : Sp := fun vs H Q E => ∃ (v : V) (d : PyData), vs = [v] ∧ Dt K H A v d ∧ BigO d ∧ (∀ s, encT 12 100000 d = some s → ∀ H', Same H H' → Q (.int s.length) H') ∧ (encT 12 100000 d = none → ∀ H', Same H H' → E (.ref B) none H')
section
variable {P : Program} {w : World} {K : PySem.W.Frag} {mg : Str → Option Value} {base : Heap}
theorem c_text_none {C_Accounts : Addr} {C_Sessions : Addr} {C_Store : Addr} {C_State : Addr} {C_BadText : Addr} {C_Refused : Addr} {C_BadCommand : Addr} {C_VERBS : Addr} (T : Txt K mg w C_Accounts C_Sessions C_Store C_State C_BadText C_Refused C_BadCommand C_VERBS) : CalX P w K mg base 4 "text_of" (fun _ _ _ _ => False) :=
  calX T.d_text_of sc_text_of (fun vs H Q E h => h.elim) (fun f cdv A' outer s H vs Q E hr h => h.elim)
theorem c_texts {C_Accounts : Addr} {C_Sessions : Addr} {C_Store : Addr} {C_State : Addr} {C_BadText : Addr} {C_Refused : Addr} {C_BadCommand : Addr} {C_VERBS : Addr} (T : Txt K mg w C_Accounts C_Sessions C_Store C_State C_BadText C_Refused C_BadCommand C_VERBS) (A : Option Addr) : ∀ n : Nat, CalX P w K mg base (2 * n + 5) "tuple_text" (spTT K A C_BadText n) ∧ CalX P w K mg base (2 * n + 6) "text_of" (spTx K A C_BadText n)
  | 0 => by
    have h := c_tuple_text (P := P) (w := w) (base := base) T A 0 4 (by omega) (c_text_none T)
    exact ⟨h, c_text_of T A 0 5 (by omega) h⟩
  | n + 1 => by
    have ih := (c_texts T A n).2
    have h := c_tuple_text (P := P) (w := w) (base := base) T A (n + 1) (2 * n + 6) (by omega) ih
    exact ⟨h, c_text_of T A (n + 1) (2 * n + 7) (by omega) h⟩
theorem c_encode {C_Accounts : Addr} {C_Sessions : Addr} {C_Store : Addr} {C_State : Addr} {C_BadText : Addr} {C_Refused : Addr} {C_BadCommand : Addr} {C_VERBS : Addr} (T : Txt K mg w C_Accounts C_Sessions C_Store C_State C_BadText C_Refused C_BadCommand C_VERBS) (A : Option Addr) : CalX P w K mg base 31 "encode" (spEnc K A C_BadText) := by
  have c_text_of := (c_texts (P := P) (w := w) (base := base) T A 12).2
  refine calX T.d_encode sc_encode (fun vs H Q E h => ?_) (fun f cdv A' outer s H vs Q E hr h => ?_)
  · obtain ⟨v, d, rfl, _⟩ := h; rfl
  obtain ⟨v, d, rfl, dv, bd, q, qe⟩ := h
  refine ⟨_, (pss_one (ps_ret (pe_cX c_text_of hr (by omega) (by rfl) (fun σ => passAt (takes_of rfl rfl rfl rfl) σ) (pa_cons (pv 0) (pa_cons (pe_gc (by rfl) T.c_MOST_DEPTH) (pa_cons (pe_gc (by rfl) T.c_MOST_LENGTH) pa_nil)))))), ?_⟩
  walk_at "rds"
  exact ⟨v, d, 100000, rfl, dv, bd, by decide, q, qe⟩
end

/-! ### the whole text, the depth -/
mutual
def txD : PyData → Str
  | .tuple ds => txA (hdr ds.length) ds
  | d => (sgT d).getD Str.empty
def txA : Str → List PyData → Str
  | acc, [] => acc
  | acc, d :: r => txA (acc ++ txD d) r
end
mutual
def dpD : PyData → Nat
  | .tuple ds => dpL ds + 1
  | _ => 0
def dpL : List PyData → Nat
  | [] => 0
  | d :: r => max (dpD d) (dpL r)
end
mutual
def OkD : PyData → Prop
  | .tuple ds => OkL ds
  | d => (sgT d).isSome = true
def OkL : List PyData → Prop
  | [] => True
  | d :: r => OkD d ∧ OkL r
end
theorem txD_sg {d : PyData} (h : isTup d = false) : txD d = (sgT d).getD Str.empty := by
  cases d with
  | tuple ds => cases h
  | _ => rw [txD]; all_goals exact fun _ z => nomatch z
theorem dpD_sg {d : PyData} (h : isTup d = false) : dpD d = 0 := by
  cases d with
  | tuple ds => cases h
  | _ => rw [dpD]; all_goals exact fun _ z => nomatch z
theorem OkD_sg {d : PyData} (h : isTup d = false) : OkD d = ((sgT d).isSome = true) := by
  cases d with
  | tuple ds => cases h
  | _ => rw [OkD]; all_goals exact fun _ z => nomatch z
theorem fit_some {room : Int} {x : Option Str} {z : Str} (h : fit room x = some z) : x = some z := by
  cases x with
  | none => cases h
  | some y =>
    by_cases g : (y.length : Int) > room
    · rw [show fit room (some y) = none from if_pos g] at h; cases h
    · rw [show fit room (some y) = some y from if_neg g] at h; exact h
theorem fit_ok {room : Int} {z : Str} (h : (z.length : Int) ≤ room) : fit room (some z) = some z := if_neg (by omega)
mutual
theorem encT_inv : ∀ (d : PyData) (k : Nat) (room : Int) (z : Str), encT k room d = some z → OkD d ∧ dpD d ≤ k ∧ z = txD d
  | .tuple ds, k, room, z, h => by
    cases k with
    | zero => rw [encT_zero] at h; cases h
    | succ k =>
      rw [encT_tup] at h
      obtain ⟨a, b, c⟩ := encL_inv ds k _ _ z (fit_some h)
      exact ⟨by rw [OkD]; exact a, by rw [dpD]; omega, by rw [txD]; exact c⟩
  | .none, k, room, z, h => by rw [encT_sg rfl] at h; have h := fit_some h; exact ⟨by rw [OkD_sg rfl, h]; rfl, by rw [dpD_sg rfl]; omega, by rw [txD_sg rfl, h]; rfl⟩
  | .bool b, k, room, z, h => by rw [encT_sg rfl] at h; have h := fit_some h; exact ⟨by rw [OkD_sg rfl, h]; rfl, by rw [dpD_sg rfl]; omega, by rw [txD_sg rfl, h]; rfl⟩
  | .int i, k, room, z, h => by rw [encT_sg rfl] at h; have h := fit_some h; exact ⟨by rw [OkD_sg rfl, h]; rfl, by rw [dpD_sg rfl]; omega, by rw [txD_sg rfl, h]; rfl⟩
  | .str y, k, room, z, h => by rw [encT_sg rfl] at h; have h := fit_some h; exact ⟨by rw [OkD_sg rfl, h]; rfl, by rw [dpD_sg rfl]; omega, by rw [txD_sg rfl, h]; rfl⟩
  | .list ds, k, room, z, h => by rw [encT_sg rfl] at h; have h := fit_some h; exact ⟨by rw [OkD_sg rfl, h]; rfl, by rw [dpD_sg rfl]; omega, by rw [txD_sg rfl, h]; rfl⟩
  | .dict ds, k, room, z, h => by rw [encT_sg rfl] at h; have h := fit_some h; exact ⟨by rw [OkD_sg rfl, h]; rfl, by rw [dpD_sg rfl]; omega, by rw [txD_sg rfl, h]; rfl⟩
theorem encL_inv : ∀ (ds : List PyData) (k : Nat) (room : Int) (acc z : Str), encL k room acc ds = some z → OkL ds ∧ dpL ds ≤ k ∧ z = txA acc ds
  | [], k, room, acc, z, h => by rw [encL] at h; cases h; exact ⟨by rw [OkL]; trivial, by rw [dpL]; omega, by rw [txA]⟩
  | d :: r, k, room, acc, z, h => by
    rw [encL_cons] at h
    cases e : encT k room d with
    | none => rw [e] at h; cases h
    | some y =>
      rw [e] at h
      obtain ⟨a1, b1, c1⟩ := encT_inv d k room y e
      obtain ⟨a2, b2, c2⟩ := encL_inv r k _ _ z h
      exact ⟨by rw [OkL]; exact ⟨a1, a2⟩, by rw [dpL]; omega, by rw [txA, ← c1]; exact c2⟩
end
theorem txA_ge : ∀ (ds : List PyData) (acc : Str), acc.length ≤ (txA acc ds).length
  | [], acc => by rw [txA]; omega
  | d :: r, acc => by
    rw [txA]
    have := txA_ge r (acc ++ txD d)
    rw [len_app2] at this; omega
mutual
theorem encT_ok : ∀ (d : PyData) (k : Nat) (room : Int), OkD d → dpD d ≤ k → ((txD d).length : Int) ≤ room → encT k room d = some (txD d)
  | .tuple ds, k, room, h1, h2, h3 => by
    rw [OkD] at h1; rw [dpD] at h2
    cases k with
    | zero => omega
    | succ k =>
      rw [txD] at h3 ⊢
      rw [encT_tup, encL_ok ds k _ _ h1 (by omega) (by omega)]
      exact fit_ok h3
  | .none, k, room, h1, h2, h3 => by rw [txD_sg rfl] at h3 ⊢; rw [OkD_sg rfl] at h1; rw [encT_sg rfl]; obtain ⟨z, e⟩ := Option.isSome_iff_exists.mp h1; rw [e] at h3 ⊢; exact fit_ok h3
  | .bool b, k, room, h1, h2, h3 => by rw [txD_sg rfl] at h3 ⊢; rw [OkD_sg rfl] at h1; rw [encT_sg rfl]; obtain ⟨z, e⟩ := Option.isSome_iff_exists.mp h1; rw [e] at h3 ⊢; exact fit_ok h3
  | .int i, k, room, h1, h2, h3 => by rw [txD_sg rfl] at h3 ⊢; rw [OkD_sg rfl] at h1; rw [encT_sg rfl]; obtain ⟨z, e⟩ := Option.isSome_iff_exists.mp h1; rw [e] at h3 ⊢; exact fit_ok h3
  | .str y, k, room, h1, h2, h3 => by rw [txD_sg rfl] at h3 ⊢; rw [OkD_sg rfl] at h1; rw [encT_sg rfl]; obtain ⟨z, e⟩ := Option.isSome_iff_exists.mp h1; rw [e] at h3 ⊢; exact fit_ok h3
  | .list ds, k, room, h1, h2, h3 => by rw [txD_sg rfl] at h3 ⊢; rw [OkD_sg rfl] at h1; rw [encT_sg rfl]; obtain ⟨z, e⟩ := Option.isSome_iff_exists.mp h1; rw [e] at h3 ⊢; exact fit_ok h3
  | .dict ds, k, room, h1, h2, h3 => by rw [txD_sg rfl] at h3 ⊢; rw [OkD_sg rfl] at h1; rw [encT_sg rfl]; obtain ⟨z, e⟩ := Option.isSome_iff_exists.mp h1; rw [e] at h3 ⊢; exact fit_ok h3
theorem encL_ok : ∀ (ds : List PyData) (k : Nat) (room : Int) (acc : Str), OkL ds → dpL ds ≤ k → ((txA acc ds).length : Int) - acc.length ≤ room → encL k room acc ds = some (txA acc ds)
  | [], k, room, acc, _, _, _ => by rw [encL, txA]
  | d :: r, k, room, acc, h1, h2, h3 => by
    rw [OkL] at h1; rw [dpL] at h2; rw [txA] at h3
    have g := txA_ge r (acc ++ txD d)
    rw [len_app2] at g
    rw [encL_cons, encT_ok d k room h1.1 (by omega) (by omega)]
    show encL k (room - (txD d).length) (acc ++ txD d) r = _
    rw [txA]
    exact encL_ok r k _ _ h1.2 (by omega) (by rw [len_app2]; omega)
end
theorem encT_bad {d : PyData} {k : Nat} {room : Int} (h : ¬ (OkD d ∧ dpD d ≤ k ∧ ((txD d).length : Int) ≤ room)) : encT k room d = none := by
  cases e : encT k room d with
  | none => rfl
  | some z =>
    obtain ⟨a, b, c⟩ := encT_inv d k room z e
    have f := encT_fit e
    rw [c] at f
    exact absurd ⟨a, b, f⟩ h
/-! ### the law's values, without Python -/
def LV : Nat → Nat
  | 0 => 95
  | k + 1 => 3 + 3 * LV k
theorem LV_ge : ∀ k, 95 ≤ LV k
  | 0 => Nat.le_refl _
  | k + 1 => by have := LV_ge k; rw [LV]; omega
structure GoodV (k : Nat) (d : PyData) : Prop where
  ok : OkD d
  dp : dpD d ≤ k
  big : BigO d
  len : (txD d).length ≤ LV k
structure GoodL (k : Nat) (ds : List PyData) : Prop where
  ok : OkL ds
  dp : dpL ds ≤ k
  big : BigL ds
  len : ∀ acc, (txA acc ds).length ≤ acc.length + ds.length * LV k
mutual
theorem OkD.noL : ∀ {d : PyData}, OkD d → noL d = true
  | .tuple ds, h => by rw [OkD] at h; exact OkL.noL h
  | .none, _ => rfl
  | .bool _, _ => rfl
  | .int _, _ => rfl
  | .str _, _ => rfl
  | .list _, h => by rw [OkD_sg rfl] at h; cases h
  | .dict _, _ => rfl
theorem OkL.noL : ∀ {ds : List PyData}, OkL ds → noLs ds = true
  | [], _ => rfl
  | d :: r, h => by rw [OkL] at h; show (Law.noL d && noLs r) = true; rw [OkD.noL h.1, OkL.noL h.2]; rfl
end
theorem OkL_app : ∀ {a b : List PyData}, OkL (a ++ b) ↔ OkL a ∧ OkL b
  | [], b => by rw [OkL]; simp
  | d :: r, b => by rw [List.cons_append, OkL, OkL, OkL_app, and_assoc]
theorem BigL_app : ∀ {a b : List PyData}, BigL (a ++ b) ↔ BigL a ∧ BigL b
  | [], b => by rw [show BigL [] = True from by rw [BigL]]; simp
  | d :: r, b => by rw [List.cons_append, BigL, BigL, BigL_app, and_assoc]
theorem dpL_app : ∀ {a b : List PyData}, dpL (a ++ b) = max (dpL a) (dpL b)
  | [], b => by rw [show dpL [] = 0 from by rw [dpL]]; simp
  | d :: r, b => by rw [List.cons_append, dpL, dpL, dpL_app]; omega
theorem txA_app : ∀ {a b : List PyData} (acc : Str), txA acc (a ++ b) = txA (txA acc a) b
  | [], b, acc => by rw [show txA acc [] = acc from by rw [txA]]; rfl
  | d :: r, b, acc => by rw [List.cons_append, txA, txA, txA_app]
theorem GoodL.nil {k : Nat} : GoodL k [] := ⟨by rw [OkL]; trivial, by rw [dpL]; omega, by rw [BigL]; trivial, fun acc => by rw [txA]; omega⟩
theorem GoodL.snoc {k : Nat} {ds : List PyData} {d : PyData} (h : GoodL k ds) (hd : GoodV k d) : GoodL k (ds ++ [d]) := by
  refine ⟨OkL_app.mpr ⟨h.ok, by rw [OkL, OkL]; exact ⟨hd.ok, trivial⟩⟩, ?_, BigL_app.mpr ⟨h.big, by rw [BigL, BigL]; exact ⟨hd.big, trivial⟩⟩, fun acc => ?_⟩
  · rw [dpL_app, dpL, dpL]; have := h.dp; have := hd.dp; omega
  · rw [txA_app, txA, txA, len_app2, List.length_append, List.length_singleton, Nat.add_mul]
    have := h.len acc; have := hd.len; omega
theorem hdr_small {n : Nat} (h : n ≤ 9) : (hdr n).length = 3 := by
  have key : ∀ n : Fin 10, (hdr n.val).length = 3 := by decide +kernel
  exact key ⟨n, by omega⟩
theorem GoodL.tup {k : Nat} {ds : List PyData} (h : GoodL k ds) (hl : ds.length ≤ 3) : GoodV (k + 1) (.tuple ds) := by
  refine ⟨by rw [OkD]; exact h.ok, by rw [dpD]; have := h.dp; omega, by rw [BigO]; exact ⟨by omega, h.big⟩, ?_⟩
  rw [txD, LV]
  have := h.len (hdr ds.length)
  rw [hdr_small (by omega)] at this
  have := Nat.mul_le_mul_right (LV k) hl
  omega
theorem abs_nat (i : Int) : (if i < 0 then -i else i) = ((i.natAbs : Nat) : Int) := by split <;> omega
theorem dig60 {i : Int} : ((Str.ofString (toString (if i < 0 then -i else i))).length ≤ 60) ↔ i.natAbs < 10 ^ 60 := by
  rw [abs_nat, PySem.ofString_length]
  exact Nat.length_repr_le_iff (by decide)
theorem few_yes {i : Int} (h : i.natAbs < 10 ^ 60) : fewI i = true := by
  unfold fewI
  have e : Builtin.Int.intBits i ≤ 240 := by
    unfold Builtin.Int.intBits
    split
    · omega
    · have := log2_of_lt (n := i.natAbs) (k := 200) (by omega) (Nat.lt_of_lt_of_le h (by decide))
      omega
  have := dig60.mpr h
  rw [decide_eq_true (by omega), decide_eq_true (by omega)]; rfl
theorem few_no {i : Int} (h : 10 ^ 60 ≤ i.natAbs) : fewI i = false := by
  unfold fewI
  have : ¬ ((Str.ofString (toString (if i < 0 then -i else i))).length ≤ 60) := fun z => by have := dig60.mp z; omega
  rw [decide_eq_false (p := ((_ : Nat) : Int) ≤ 60) (by omega), Bool.and_false]
theorem good_non {k : Nat} : GoodV k .none := ⟨by rw [OkD_sg rfl]; rfl, by rw [dpD_sg rfl]; omega, by rw [BigO] <;> simp, by rw [txD_sg rfl]; have := LV_ge k; exact Nat.le_trans (by decide) this⟩
theorem good_bl {k : Nat} (b : Bool) : GoodV k (.bool b) := ⟨by rw [OkD_sg rfl]; cases b <;> rfl, by rw [dpD_sg rfl]; omega, by rw [BigO] <;> simp, by rw [txD_sg rfl]; have := LV_ge k; exact Nat.le_trans (by cases b <;> decide) this⟩
theorem sgT_int {i : Int} (h : fewI i = true) : sgT (.int i) = some (((Str.empty ++ "i") ++ Str.ofString (toString i)) ++ ";") := if_pos h
theorem sgT_str {z : Str} (h : isPr z = true) : sgT (.str z) = some ((((Str.empty ++ "s") ++ Str.ofString (toString (z.length : Int))) ++ ":") ++ z) := if_pos h
theorem good_int {k : Nat} {i : Int} (h : i.natAbs < 10 ^ 60) : GoodV k (.int i) := by
  have f := few_yes h
  refine ⟨by rw [OkD_sg rfl, sgT_int f]; rfl, by rw [dpD_sg rfl]; omega, by rw [BigO]; exact Nat.lt_of_lt_of_le h (by decide +kernel), ?_⟩
  rw [txD_sg rfl, sgT_int f]
  have := LV_ge k
  have l := int_text_length_le10 (a := i) (k := 60) (by decide) h
  rw [← PySem.ofString_length] at l
  have e1 : (Str.empty).length = 0 := rfl
  have e2 : (Str.ofString "i").length = 1 := rfl
  have e3 : (Str.ofString ";").length = 1 := rfl
  show (((Str.empty ++ Str.ofString "i") ++ Str.ofString (toString i)) ++ Str.ofString ";").length ≤ _
  simp only [len_app2]; omega
theorem good_str {k : Nat} {z : Str} (h : isPr z = true) (hz : z.length ≤ 90) : GoodV k (.str z) := by
  refine ⟨by rw [OkD_sg rfl, sgT_str h]; rfl, by rw [dpD_sg rfl]; omega, by rw [BigO] <;> simp, ?_⟩
  rw [txD_sg rfl, sgT_str h]
  have := LV_ge k
  have l := int_text_length_le10 (a := (z.length : Int)) (k := 2) (by decide) (by omega)
  rw [← PySem.ofString_length] at l
  have e1 : (Str.empty).length = 0 := rfl
  have e2 : (Str.ofString "s").length = 1 := rfl
  have e3 : (Str.ofString ":").length = 1 := rfl
  show ((((Str.empty ++ Str.ofString "s") ++ Str.ofString (toString (z.length : Int))) ++ Str.ofString ":") ++ z).length ≤ _
  simp only [len_app2]; omega
theorem OkL.mem : ∀ {ds : List PyData}, OkL ds → ∀ d ∈ ds, OkD d
  | _ :: _, h, _, .head _ => by rw [OkL] at h; exact h.1
  | _ :: _, h, _, .tail _ m => by rw [OkL] at h; exact OkL.mem h.2 _ m
theorem dpL_mem : ∀ {ds : List PyData}, ∀ d ∈ ds, dpD d ≤ dpL ds
  | _ :: _, _, .head _ => by rw [dpL]; omega
  | _ :: _, _, .tail _ m => by rw [dpL]; have := dpL_mem _ m; omega
theorem txA_snoc {acc : Str} {ds : List PyData} {i : Nat} {d : PyData} (g : ds[i]? = some d) : txA acc (ds.take (i + 1)) = txA acc (ds.take i) ++ txD d ∧ (txA acc (ds.take i)).length + (txD d).length ≤ (txA acc ds).length := by
  have e : txA acc (ds.take (i + 1)) = txA acc (ds.take i) ++ txD d := by
    rw [List.take_add_one, g, txA_app]
    show txA _ [d] = _
    rw [txA, txA]
  refine ⟨e, ?_⟩
  have h := txA_ge (ds.drop (i + 1)) (txA acc (ds.take (i + 1)))
  rw [← txA_app, List.take_append_drop, e, len_app2] at h
  exact h
theorem hdr_eq (n : Nat) : hdr n = (Str.ofString "t" ++ Str.ofString (toString (n : Int))) ++ Str.ofString ":" := by
  show ((Str.empty ++ Str.ofString "t") ++ _) ++ _ = _
  rw [PySem.Str.empty_append]
theorem txD_int {i : Int} (h : OkD (.int i)) : txD (.int i) = (Str.ofString "i" ++ Str.ofString (toString i)) ++ Str.ofString ";" := by
  rw [OkD_sg rfl] at h
  rw [txD_sg rfl]
  cases e : fewI i with
  | false => rw [show sgT (.int i) = none from if_neg (by rw [e]; decide)] at h; cases h
  | true =>
    rw [sgT_int e]
    show (((Str.empty ++ Str.ofString "i") ++ _) ++ _) = _
    rw [PySem.Str.empty_append]
theorem txD_str {z : Str} (h : OkD (.str z)) : txD (.str z) = ((Str.ofString "s" ++ Str.ofString (toString (z.length : Int))) ++ Str.ofString ":") ++ z := by
  rw [OkD_sg rfl] at h
  rw [txD_sg rfl]
  cases e : isPr z with
  | false => rw [show sgT (.str z) = none from if_neg (by rw [e]; decide)] at h; cases h
  | true =>
    rw [sgT_str e]
    show ((((Str.empty ++ Str.ofString "s") ++ _) ++ _) ++ _) = _
    rw [PySem.Str.empty_append]
theorem nat_log {n : Nat} (h : n ≤ 16000000) : ((n : Int)).natAbs.log2 < 1000 := log2_of_lt (by omega) (by have : (2:Nat) ^ 30 ≤ 2 ^ 1000 := Nat.pow_le_pow_right (by omega) (by omega); have : (2:Nat) ^ 30 = 1073741824 := rfl; omega)
theorem dpL_snoc {ds : List PyData} {i : Nat} {d : PyData} (g : ds[i]? = some d) : dpL (ds.take (i + 1)) = max (dpL (ds.take i)) (dpD d) := by
  rw [List.take_add_one, g, dpL_app]
  show max _ (dpL [d]) = _
  rw [dpL, dpL]; omega
def nestD : Nat → PyData → PyData
  | 0, d => d
  | n + 1, d => .tuple [nestD n d]
theorem nestD_ok {d : PyData} (h : OkD d) : ∀ n, OkD (nestD n d)
  | 0 => h
  | n + 1 => by rw [nestD, OkD, OkL, OkL]; exact ⟨nestD_ok h n, trivial⟩
theorem nestD_dp {d : PyData} : ∀ n, dpD (nestD n d) = dpD d + n
  | 0 => rfl
  | n + 1 => by rw [nestD, dpD, dpL, dpL, nestD_dp n]; omega
theorem nestD_big {d : PyData} (h : BigO d) : ∀ n, BigO (nestD n d)
  | 0 => h
  | n + 1 => by rw [nestD, BigO, BigL, BigL]; exact ⟨by simp, nestD_big h n, trivial⟩
theorem nestD_len {d : PyData} : ∀ n, (txD (nestD n d)).length = (txD d).length + 3 * n
  | 0 => rfl
  | n + 1 => by rw [nestD, txD, txA, txA, len_app2, nestD_len n, hdr_small (by simp)]; omega
theorem noLs_mem : ∀ {ds : List PyData} {d : PyData}, noLs ds = true → d ∈ ds → noL d = true
  | e :: r, d, h, m => by
    have h : (noL e && noLs r) = true := h
    rw [Bool.and_eq_true] at h
    rcases List.mem_cons.mp m with rfl | m
    · exact h.1
    · exact noLs_mem h.2 m
theorem bad_mid {a : List PyData} {d : PyData} {b : List PyData} (h : ¬ OkD d) : ¬ OkD (.tuple ((a ++ [d]) ++ b)) := by
  rw [OkD, OkL_app, OkL_app, OkL]
  exact fun z => h z.1.2.1
theorem big_mid {a : List PyData} {d : PyData} {b : List PyData} (ha : BigL a) (hd : BigO d) (hb : BigL b) (hl : a.length + b.length < 10000) : BigO (.tuple ((a ++ [d]) ++ b)) := by
  rw [BigO, BigL_app, BigL_app, BigL, BigL]
  exact ⟨by rw [List.length_append, List.length_append, List.length_singleton]; omega, ⟨ha, hd, trivial⟩, hb⟩
theorem big_cut {ds : List PyData} (h : BigL ds) (i j : Nat) : BigL (ds.take i) ∧ BigL (ds.drop j) :=
  ⟨(BigL_app (b := ds.drop i).mp (by rw [List.take_append_drop]; exact h)).1, (BigL_app (a := ds.take j).mp (by rw [List.take_append_drop]; exact h)).2⟩

def rJn (K : PySem.W.Frag) : V → List V → Hp → VK → Prop := fun x xs H Q => ∃ a p, ∃ ys : List Str, x = .str a ∧ xs = [.ref p] ∧ (SqL K H p (ys.map V.str) ∨ SqT K H p (ys.map V.str)) ∧ (ys.map (·.length)).sum + ys.length * a.length ≤ 16777216 ∧ Q (.str (Txt.join a ys)) H
theorem kjoin {X : Cx} {K : PySem.W.Frag} {o e : Expr} {to te : TE} {apos pos : Pos} (hK : X.K = K) (ho : PE X o to) (he : PE X e te) (h1 : starEach [e] X.env = [(false, eval e X.env)] := by rfl) (h2 : attributeBase o "join" X.env (eval o X.env) = eval o X.env := by rfl) (h3 : (apos.endLine == pos.line) = true := by rfl) :
    PE X (.Call (.Attribute o "join" apos) [e] [] pos) (tM1 (rJn K) to te) := by
  subst hK; exact pe_join ho he h1 h2 h3
def rStrM : List V → Hp → VK → Prop := fun xs H Q => (∃ a, xs = [.str a] ∧ Q (.str a) H) ∨ ∃ i : Int, xs = [.int i] ∧ i.natAbs.log2 < 1920 ∧ Q (.str (toString i)) H
/-- str(x) of a text or a number -/
theorem call_strM {X : Cx} : CallR X (.type "str") rStrM :=
  fun pins s σ H xs us Q I r h => h.elim (SkE.call_str_str pins s σ H xs us Q I r) (call_str_int pins s σ H xs us Q I r)
theorem wipe_set {σ : L2.St} {j : Nat} {x : V} : wipe ((wipe σ [j]).set j (some x)) [j] = wipe σ [j] := by
  show (((σ.set j none).set j (some x)).set j none) = σ.set j none
  rw [List.set_set, List.set_set]
theorem sum_le {m : Nat} : ∀ (ys : List Str), (∀ y ∈ ys, y.length ≤ m) → (ys.map (·.length)).sum ≤ m * ys.length
  | [], _ => Nat.zero_le _
  | y :: r, h => by
    have a := sum_le r fun z mz => h z (List.mem_cons_of_mem _ mz)
    have b := h y List.mem_cons_self
    rw [List.map_cons, List.sum_cons, List.length_cons, Nat.mul_succ]
    omega

/-! ### statements, and what they do -/
inductive Stm
  | opn (n : Str) | cls (n : Str) | iss (n : Str) (a : Nat) | brn (n : Str) (a : Nat) | pay (x y : Str) (a : Nat) | bal (n : Str) | atl (n : Str) (a : Nat) | hld (x y : Str) (a : Nat) (k : Str)
  | stl (k : Str) | rel (k : Str) | put (k v : Str) | get (k : Str) | drp (k : Str) | swp (k o v : Str) | sam (k v : Str) | kys (k : Str)
def stV : Stm → List V
  | .opn n => [.str "open", .str n]
  | .cls n => [.str "close", .str n]
  | .iss n a => [.str "issue", .str n, .int a]
  | .brn n a => [.str "burn", .str n, .int a]
  | .pay x y a => [.str "pay", .str x, .str y, .int a]
  | .bal n => [.str "balance", .str n]
  | .atl n a => [.str "atleast", .str n, .int a]
  | .hld x y a k => [.str "hold", .str x, .str y, .int a, .str k]
  | .stl k => [.str "settle", .str k]
  | .rel k => [.str "release", .str k]
  | .put k v => [.str "put", .str k, .str v]
  | .get k => [.str "get", .str k]
  | .drp k => [.str "drop", .str k]
  | .swp k o v => [.str "swap", .str k, .str o, .str v]
  | .sam k v => [.str "same", .str k, .str v]
  | .kys k => [.str "keys", .str k]
abbrev MM := AS × ST
def outA (r : Sum Str AS) (m : MM) : Sum Str (Str × MM) := match r with
  | .inl z => .inl z
  | .inr s => .inr ("ok", s, m.2)
def outS (r : Sum Str ST) (m : MM) : Sum Str (Str × MM) := match r with
  | .inl z => .inl z
  | .inr s => .inr ("ok", m.1, s)
def keysT (l : List Str) : Str := if l.length = 0 then "-" else if 60 < (Txt.join (Str.ofString ",") l).length then Str.ofString "#" ++ Str.ofString (toString (l.length : Int)) else Txt.join (Str.ofString ",") l
def need (b : Bool) (m : MM) : Sum Str (Str × MM) := if b = true then .inr ("ok", m) else .inl "need"
def stmR (m : MM) (c : Int) : Stm → Sum Str (Str × MM)
  | .opn n => outA (opCreate m.1 c n) m
  | .cls n => outA (opClose m.1 c n) m
  | .iss n a => outA (opIssue m.1 c n a) m
  | .brn n a => outA (opBurn m.1 c n a) m
  | .pay x y a => outA (opPay m.1 c x y a) m
  | .hld x y a k => outA (opHold m.1 c x y a k) m
  | .stl k => outA (opSettle m.1 c k) m
  | .rel k => outA (opRelease m.1 c k) m
  | .put k v => outS (stPut m.2 c k v) m
  | .drp k => outS (stDrop m.2 c k) m
  | .swp k o v => outS (stSwap m.2 k o v) m
  | .bal n => match gA m.1.ac n with
    | none => .inl "missing"
    | some x => .inr (Str.ofString (toString x.2), m)
  | .atl n a => match gA m.1.ac n with
    | none => .inl "missing"
    | some x => need (decide ((a : Int) ≤ x.2)) m
  | .get k => match stRead m.2 k with
    | .inl z => .inl z
    | .inr v => .inr (v, m)
  | .sam k v => match stRead m.2 k with
    | .inl z => .inl z
    | .inr w => need (decide (w = v)) m
  | .kys z => .inr (keysT ((sortK m.2).filter fun k => Txt.startswith k z), m)
theorem strOk_pr {z : Str} (h : isPr z = true) : PyData.strOk z = true := by
  unfold PyData.strOk
  rw [← Array.all_toList, List.all_eq_true]
  intro c hc
  have := List.all_eq_true.mp h c hc
  unfold prC at this
  rw [Bool.and_eq_true, Bool.and_eq_true] at this
  have := of_decide_eq_true this.1.2
  exact decide_eq_true (by omega)
/-- the texts of a statement -/
def nmOk (z : Str) : Prop := z.length ≤ 12 ∧ isPr z = true
def kyOk (z : Str) : Prop := z.length ≤ 20 ∧ isPr z = true
def vlOk (z : Str) : Prop := z.length ≤ 40 ∧ isPr z = true
theorem nmOk.tx {z : Str} (h : nmOk z) : Tx z := ⟨Nat.le_trans h.1 (by decide), strOk_pr h.2⟩
theorem kyOk.tx {z : Str} (h : kyOk z) : Tx z := ⟨Nat.le_trans h.1 (by decide), strOk_pr h.2⟩
def StmOk : Stm → Prop
  | .opn n | .cls n | .bal n => nmOk n
  | .iss n a | .brn n a | .atl n a => nmOk n ∧ a < 10 ^ 12
  | .pay x y a => nmOk x ∧ nmOk y ∧ a < 10 ^ 12
  | .hld x y a k => nmOk x ∧ nmOk y ∧ a < 10 ^ 12 ∧ kyOk k
  | .stl k | .rel k | .get k | .drp k | .kys k => kyOk k
  | .put k v | .sam k v => kyOk k ∧ vlOk v
  | .swp k o v => kyOk k ∧ vlOk o ∧ vlOk v
/-- the texts of a store -/
def SOk (ks : ST) : Prop := kOk ks ∧ ks.length ≤ 200 ∧ ∀ k ∈ ks, kyOk k.1 ∧ vlOk k.2.2 ∧ k.2.1.natAbs ≤ 100
def ANm (ac : AB) : Prop := ac.length ≤ 100 ∧ ∀ e ∈ ac, nmOk e.1 ∧ e.2.1.natAbs ≤ 100
def HNm (ho : HS) : Prop := ho.length ≤ 100 ∧ ∀ e ∈ ho, kyOk e.1 ∧ nmOk e.2.1 ∧ nmOk e.2.2.1
/-- what stays so -/
structure MOk (m : MM) : Prop where
  ac : AInv m.1 100
  st : SOk m.2
  an : ANm m.1.ac
  hn : HNm m.1.ho
theorem MOk.aw {C : Addr} {H : Hp} {p n b h : Addr} {he : HE} {m : MM} (k : MOk m) (a : AcAt C H p n b h m.1.ac he m.1.su) (hs : hsOf he = m.1.ho) : AW C H p n b h he m.1 :=
  ⟨a, hs, k.ac.ok, Nat.le_trans k.ac.len (by decide), Nat.le_trans k.ac.hlen (by decide), k.ac.src⟩
/-! ### one case of a match upon a tuple with a word ahead -/
theorem tc_miss {K : PySem.W.Frag} {n : Nat} {c verb : Str} {us : TPts} {tb : L2.TS} {u : TCs} {D : L2.Ends} {σ : L2.St} {H : Hp} {t : Addr} {args : List V} (ht : SqT K H t (.str verb :: args)) (h : ((args.length + 1 == n) && (verb == c)) = false) (q : u (.ref t) D σ H) : tcCons (tpSeq K n (tpCons (tpVal (.str c)) us)) tb u (.ref t) D σ H := by
  refine ⟨t, _, rfl, ht, fun _ => q, fun e => ⟨_, _, rfl, rfl, ?_⟩⟩
  have e : args.length + 1 = n := e
  rw [beq_iff_eq.mpr e, Bool.true_and] at h
  have n1 : ¬ verb = c := fun z => by rw [z, beq_self_eq_true] at h; cases h
  rw [decide_eq_false (fun z : V.str verb = V.str c => n1 (V.str.inj z)), if_neg (by decide)]
  exact q
theorem tc_hit {K : PySem.W.Frag} {n : Nat} {c : Str} {us : TPts} {tb : L2.TS} {u : TCs} {D : L2.Ends} {σ : L2.St} {H : Hp} {t : Addr} {args : List V} (ht : SqT K H t (.str c :: args)) (h : args.length + 1 = n) (q : us args σ H fun b2 H2 => match (match b2 with
    | none => none
    | some cs => some ([] ++ cs) : Option Bs) with
    | none => u (.ref t) D σ H2
    | some bs => tb D (setB σ bs) H2) : tcCons (tpSeq K n (tpCons (tpVal (.str c)) us)) tb u (.ref t) D σ H := by
  refine ⟨t, _, rfl, ht, fun e => absurd h e, fun _ => ⟨_, _, rfl, rfl, ?_⟩⟩
  rw [decide_eq_true rfl, if_pos rfl]
  refine cast ?_ q
  congr 1
  funext b2 H2
  cases b2 <;> rfl
theorem join_le (sep : Str) : ∀ ys : List Str, (Txt.join sep ys).length ≤ (ys.map (·.length)).sum + ys.length * sep.length := by
  have e : ∀ l, Txt.join sep l = Str.join sep l := fun l => eq_of_beq (join_closes rfl)
  intro ys
  rw [e]
  induction ys with
  | nil => exact Nat.zero_le _
  | cons y r ih =>
    cases r with
    | nil => show y.length ≤ _; rw [List.map_cons, List.sum_cons]; omega
    | cons z r =>
      show (y ++ sep ++ Str.join sep (z :: r)).length ≤ _
      rw [Str.length_append, Str.length_append, List.map_cons, List.sum_cons, List.length_cons, Nat.succ_mul]
      omega
theorem tcap {i : Nat} {v : V} {r : List V} {u : TPts} {σ : L2.St} {H : Hp} {Q : Option Bs → Hp → Prop} (h : u r σ H fun b2 H2 => match b2 with
    | none => Q none H2
    | some cs => Q (some ([(i, v)] ++ cs)) H2) : tpCons (tpCap i) u (v :: r) σ H Q := ⟨v, r, rfl, h⟩
theorem tnil {σ : L2.St} {H : Hp} {Q : Option Bs → Hp → Prop} (h : Q (some []) H) : tpNil [] σ H Q := ⟨rfl, h⟩
/-! ### the accounts and the store side by side -/
theorem But.mono {S S' : List Addr} {H H' : Hp} (k : But S H H') (h : ∀ x ∈ S, x ∈ S') : But S' H H' := fun b o n e => k b o (fun m => n (h b m)) e
theorem But2.but {n a : Addr} {H H' : Hp} (k : But2 n a H H') : But [n, a] H H' := fun b o m e => by
  simp only [List.mem_cons, List.not_mem_nil, or_false, not_or] at m
  exact k b o m.1 m.2 e
theorem AcAt.bt {C : Addr} {S : List Addr} {H H' : Hp} {p n b h : Addr} {ac : AB} {he : HE} {su : Int} (a : AcAt C H p n b h ac he su) (k : But S H H') (hs : ∀ x ∈ [p, n, b, h], x ∉ S) (ht : ∀ x ∈ S, ∀ xs, H x ≠ some (.tup xs)) : AcAt C H' p n b h ac he su := by
  obtain ⟨dx, g⟩ := a.ins
  exact ⟨⟨dx, k _ _ (hs p (by simp)) g⟩, k _ _ (hs n (by simp)) a.ow, k _ _ (hs b (by simp)) a.ba, k _ _ (hs h (by simp)) a.ho, fun e m => k _ _ (fun z => ht _ z _ (a.tp e m)) (a.tp e m), a.n1, a.n2, a.n3⟩
theorem StAt.bt {C : Addr} {S : List Addr} {H H' : Hp} {p n a : Addr} {ks : ST} (st : StAt C H p n a ks) (k : But S H H') (hs : ∀ x ∈ [p, n, a], x ∉ S) : StAt C H' p n a ks := by
  obtain ⟨⟨dx, h1⟩, h2, h3, h4⟩ := st
  exact ⟨⟨dx, k _ _ (hs p (by simp)) h1⟩, k _ _ (hs n (by simp)) h2, k _ _ (hs a (by simp)) h3, h4⟩
theorem AcAt.lv {C : Addr} {H : Hp} {p n b h : Addr} {ac : AB} {he : HE} {su : Int} (a : AcAt C H p n b h ac he su) : ∀ x ∈ [p, n, b, h], H x ≠ none ∧ ∀ xs, H x ≠ some (.tup xs) := by
  intro x m
  obtain ⟨dx, g⟩ := a.ins
  simp only [List.mem_cons, List.not_mem_nil, or_false] at m
  rcases m with rfl | rfl | rfl | rfl
  · rw [g]; exact ⟨nofun, (fun _ z => nomatch z)⟩
  · rw [a.ow]; exact ⟨nofun, (fun _ z => nomatch z)⟩
  · rw [a.ba]; exact ⟨nofun, (fun _ z => nomatch z)⟩
  · rw [a.ho]; exact ⟨nofun, (fun _ z => nomatch z)⟩
theorem StAt.lv {C : Addr} {H : Hp} {p n a : Addr} {ks : ST} (st : StAt C H p n a ks) : ∀ x ∈ [p, n, a], H x ≠ none ∧ ∀ xs, H x ≠ some (.tup xs) := by
  intro x m
  obtain ⟨dx, g⟩ := st.ins
  simp only [List.mem_cons, List.not_mem_nil, or_false] at m
  rcases m with rfl | rfl | rfl
  · rw [g]; exact ⟨nofun, (fun _ z => nomatch z)⟩
  · rw [st.ow]; exact ⟨nofun, (fun _ z => nomatch z)⟩
  · rw [st.va]; exact ⟨nofun, (fun _ z => nomatch z)⟩
/-- what performing gives -/
def OutP (B C D : Addr) (H : Hp) (p n b h ps n2 a2 : Addr) (Q : VK) (E : XK) (r : Sum Str (Str × MM)) : Prop := match r with
  | .inl z => Rz B H E z
  | .inr (z, m) => ∀ H' he, But [p, n, b, h, ps, n2, a2] H H' → AcAt C H' p n b h m.1.ac he m.1.su → hsOf he = m.1.ho → StAt D H' ps n2 a2 m.2 → Q (.str z) H'
/-- the accounts and the store of a state, their cells apart -/
structure ASAt (C D : Addr) (H : Hp) (p n b h ps n2 a2 : Addr) (he : HE) (m : MM) : Prop where
  ac : AcAt C H p n b h m.1.ac he m.1.su
  hs : hsOf he = m.1.ho
  st : StAt D H ps n2 a2 m.2
  ap : ∀ x ∈ [p, n, b, h], x ∉ [ps, n2, a2]
theorem ASAt.on {C D : Addr} {H H' : Hp} {p n b h ps n2 a2 : Addr} {he : HE} {m : MM} (a : ASAt C D H p n b h ps n2 a2 he m) (s : Same H H') : ASAt C D H' p n b h ps n2 a2 he m := ⟨a.ac.on s, a.hs, a.st.on s, a.ap⟩
section
variable {B C D : Addr} {H : Hp} {p n b h ps n2 a2 : Addr} {he : HE} {m : MM} {Q : VK} {E : XK}
theorem OutP.acc {r : Sum Str AS} (o : OutP B C D H p n b h ps n2 a2 Q E (outA r m)) (at_ : ASAt C D H p n b h ps n2 a2 he m) : OutA B C H p n b h (fun _ H' => Q (.str (Str.ofString "ok")) H') E r := by
  unfold OutA
  cases r with
  | inl z => exact o
  | inr s => exact fun H' he' k a g => o H' he' (k.mono fun x mx => by simp only [List.mem_cons, List.not_mem_nil, or_false] at mx ⊢; rcases mx with rfl | rfl | rfl | rfl <;> simp) a g (at_.st.bt k fun x mx my => at_.ap x my mx)
theorem OutP.sto {r : Sum Str ST} (o : OutP B C D H p n b h ps n2 a2 Q E (outS r m)) (at_ : ASAt C D H p n b h ps n2 a2 he m) : Out B D H ps n2 a2 (fun _ H' => Q (.str (Str.ofString "ok")) H') E r := by
  unfold Out
  cases r with
  | inl z => exact o
  | inr s => exact fun H' k st => o H' he (k.but.mono fun x mx => by simp only [List.mem_cons, List.not_mem_nil, or_false] at mx ⊢; rcases mx with rfl | rfl <;> simp) (at_.ac.bt k.but (fun x mx my => at_.ap x mx (List.mem_cons_of_mem _ my)) fun x mx => (at_.st.lv x (List.mem_cons_of_mem _ mx)).2) at_.hs st
theorem OutP.rd {z : Str} (o : OutP B C D H p n b h ps n2 a2 Q E (.inr (z, m))) (at_ : ASAt C D H p n b h ps n2 a2 he m) {H' : Hp} (s : Same H H') : Q (.str z) H' := o H' he (Same.but s) (at_.ac.on s) at_.hs (at_.st.on s)
end
theorem Out.imp {B D : Addr} {H : Hp} {p n a : Addr} {Q Q' : VK} {E E' : XK} {r : Sum Str ST} (o : Out B D H p n a Q E r) (q : ∀ H', Q .non H' → Q' .non H') (e : ∀ d H', E (.ref B) (some d) H' → E' (.ref B) (some d) H') : Out B D H p n a Q' E' r := by
  unfold Out at *
  cases r with
  | inl z => exact fun H' d s g => e d H' (o H' d s g)
  | inr s => exact fun H' k a => q H' (o H' k a)
theorem sumI_mem : ∀ {l : List Int}, (∀ x ∈ l, 0 ≤ x) → ∀ x ∈ l, x ≤ sumI l
  | a :: r, h, x, m => by
    have h1 := h a List.mem_cons_self
    have h2 := sumI_nonneg (l := r) fun x m => h x (List.mem_cons_of_mem _ m)
    rw [sumI_cons]
    rcases List.mem_cons.mp m with rfl | m
    · omega
    · have := sumI_mem (l := r) (fun x m => h x (List.mem_cons_of_mem _ m)) x m
      omega
theorem bal_le {s : AS} {m : Nat} (h : AInv s m) {n : Str} {x : Int × Int} (g : gA s.ac n = some x) : 0 ≤ x.2 ∧ x.2 ≤ 1000000000000000 := by
  have h1 := h.sum
  have h2 := h.lim
  have h3 : 0 ≤ sH s.ho := sumI_nonneg fun y my => by
    obtain ⟨e, me, rfl⟩ := List.mem_map.mp my
    exact h.hpos e me
  have h4 : x.2 ≤ sB s.ac := sumI_mem (fun y my => by
    obtain ⟨e, me, rfl⟩ := List.mem_map.mp my
    exact h.pos e me) _ (List.mem_map.mpr ⟨_, gA_some g, rfl⟩)
  exact ⟨h.pos _ (gA_some g), by omega⟩
theorem log15 {i : Int} (h : 0 ≤ i) (k : i ≤ 1000000000000000) : i.natAbs.log2 < 1000 := log2_of_lt (by omega) (by have : (2:Nat) ^ 50 ≤ 2 ^ 1000 := Nat.pow_le_pow_right (by omega) (by omega); have : (2:Nat) ^ 50 = 1125899906842624 := rfl; omega)
/-- a hypothesis laid aside -/
structure Box (p : Prop) : Prop where
  un : p
/-! ### running the statements -/
def goR (c : Int) : Nat → Str → MM → List Stm → Sum Str (Str × MM)
  | _, ans, m, [] => .inr (ans, m)
  | i, ans, m, s :: r => match stmR m c s with
    | .inl z => .inl (((Str.empty ++ "refused ") ++ Str.ofString (toString (i : Int))) ++ " " ++ z)
    | .inr (res, m') => if 200 < (if 0 < i then (Str.empty ++ ans) ++ ";" ++ res else res).length then .inl (((Str.empty ++ "refused ") ++ Str.ofString (toString (i : Int))) ++ " long") else goR c (i + 1) (if 0 < i then (Str.empty ++ ans) ++ ";" ++ res else res) m' r
def runR (m : MM) (c : Int) (ss : List Stm) : Sum Str (Str × MM) := goR c 0 "" m ss
structure Loc where
  p : Addr
  n : Addr
  b : Addr
  h : Addr
  ps : Addr
  n2 : Addr
  a2 : Addr
  pe : Addr
  n3 : Addr
  a3 : Addr
  he : HE
def Loc.as (L : Loc) : List Addr := [L.p, L.n, L.b, L.h, L.ps, L.n2, L.a2]
def Loc.ss (L : Loc) : List Addr := [L.pe, L.n3, L.a3]
def esF (p ps pe : Addr) : List (Str × V) := putF "sessions" (.ref pe) (putF "store" (.ref ps) (putF "accounts" (.ref p) []))
theorem esF_ac (p ps pe p' : Addr) : putF "accounts" (.ref p') (esF p ps pe) = esF p' ps pe := rfl
theorem esF_st (p ps pe p' : Addr) : putF "store" (.ref p') (esF p ps pe) = esF p p' pe := rfl
theorem esF_se (p ps pe p' : Addr) : putF "sessions" (.ref p') (esF p ps pe) = esF p ps p' := rfl
abbrev ASL (C D : Addr) (H : Hp) (L : Loc) (m : MM) : Prop := ASAt C D H L.p L.n L.b L.h L.ps L.n2 L.a2 L.he m
structure EsAt (G C D S : Addr) (H : Hp) (q : Addr) (L : Loc) (m : MM) (se : SD) : Prop where
  ins : ∃ dx, H q = some (.ins G dx (esF L.p L.ps L.pe))
  as : ASL C D H L m
  se : SeAt S H L.pe L.n3 L.a3 se
  off : ∀ x ∈ L.as, x ∉ L.ss
theorem EsAt.on {G C D S : Addr} {H H' : Hp} {q : Addr} {L : Loc} {m : MM} {se : SD} (e : EsAt G C D S H q L m se) (s : Same H H') : EsAt G C D S H' q L m se := by
  obtain ⟨⟨dx, g⟩, h2, h3, h4⟩ := e
  exact ⟨⟨dx, s _ _ g⟩, h2.on s, h3.on s, h4⟩
theorem ASAt.lv {C D : Addr} {H : Hp} {p n b h ps n2 a2 : Addr} {he : HE} {m : MM} (a : ASAt C D H p n b h ps n2 a2 he m) : ∀ x ∈ [p, n, b, h, ps, n2, a2], H x ≠ none ∧ ∀ xs, H x ≠ some (.tup xs) := fun x mx => by
  rcases List.mem_append.mp (show x ∈ [p, n, b, h] ++ [ps, n2, a2] from mx) with k | k
  · exact a.ac.lv x k
  · exact a.st.lv x k
theorem ASAt.bt {C D : Addr} {S : List Addr} {H H' : Hp} {p n b h ps n2 a2 : Addr} {he : HE} {m : MM} (a : ASAt C D H p n b h ps n2 a2 he m) (k : But S H H') (hs : ∀ x ∈ [p, n, b, h, ps, n2, a2], x ∉ S) (ht : ∀ x ∈ S, ∀ xs, H x ≠ some (.tup xs)) : ASAt C D H' p n b h ps n2 a2 he m :=
  ⟨a.ac.bt k (fun x mx => hs x (List.mem_append_left [ps, n2, a2] mx)) ht, a.hs, a.st.bt k (fun x mx => hs x (List.mem_append_right [p, n, b, h] mx)), a.ap⟩
/-- the state's own cell is none of the others -/
theorem EsAt.qn {G C D S : Addr} {H : Hp} {q : Addr} {L : Loc} {m : MM} {se : SD} (e : EsAt G C D S H q L m se) : q ∉ L.as ∧ q ∉ L.ss := by
  obtain ⟨⟨dx, g⟩, as, ⟨⟨dx3, g3⟩, h2, h3, _⟩, _⟩ := e
  obtain ⟨dx1, g1⟩ := as.ac.ins
  obtain ⟨dx2, g2⟩ := as.st.ins
  have aux : ∀ {x : Addr} {o : HO}, H x = some o → (∀ dx, o ≠ .ins G dx (esF L.p L.ps L.pe)) → q ≠ x := fun hx no z => by
    rw [← z, g] at hx
    exact no dx (Option.some.inj hx).symm
  refine ⟨fun m => ?_, fun m => ?_⟩
  · simp only [Loc.as, List.mem_cons, List.not_mem_nil, or_false] at m
    rcases m with m | m | m | m | m | m | m
    · refine aux g1 (fun dx z => ?_) m
      injection z with _ _ z
      have y : (4 : Nat) = 3 := congrArg List.length z
      omega
    · exact aux as.ac.ow (fun dx z => nomatch z) m
    · exact aux as.ac.ba (fun dx z => nomatch z) m
    · exact aux as.ac.ho (fun dx z => nomatch z) m
    · refine aux g2 (fun dx z => ?_) m
      injection z with _ _ z
      have y : (2 : Nat) = 3 := congrArg List.length z
      omega
    · exact aux as.st.ow (fun dx z => nomatch z) m
    · exact aux as.st.va (fun dx z => nomatch z) m
  · simp only [Loc.ss, List.mem_cons, List.not_mem_nil, or_false] at m
    rcases m with m | m | m
    · refine aux g3 (fun dx z => ?_) m
      injection z with _ _ z
      have y : (2 : Nat) = 3 := congrArg List.length z
      omega
    · exact aux h2 (fun dx z => nomatch z) m
    · exact aux h3 (fun dx z => nomatch z) m
/-- cells that were new may change: what was there stands -/
theorem same_new {S : List Addr} {H H1 H2 : Hp} (s : Same H H1) (k : But S H1 H2) (n : ∀ x ∈ S, H x = none) : Same H H2 := fun b o e => k b o (fun m => by rw [n b m] at e; cases e) (s b o e)
/-! ### what a statement leaves -/
theorem pA_len_in {α : Type} {ks : List (Str × α)} {k : Str} {x : α} (g : gA ks k ≠ none) : (pA ks k x).length = ks.length := by
  unfold pA
  rw [if_pos (any_mem.mpr (Classical.byContradiction fun nm => g (gA_none.mpr nm)))]
  exact List.length_map _
theorem SOk.put {ks : ST} {k v : Str} {c : Int} (h : SOk ks) (hk : kyOk k) (hv : vlOk v) (hc : c.natAbs ≤ 100) (g : gA ks k ≠ none ∨ ks.length < 200) : SOk (pA ks k (c, v)) := by
  refine ⟨pA_ok k (c, v) h.1, ?_, fun e m => ?_⟩
  · rcases g with g | g
    · rw [pA_len_in g]; exact h.2.1
    · have : (pA ks k (c, v)).length ≤ ks.length + 1 := pA_len ks k (c, v)
      omega
  · rcases pA_mem m with rfl | ⟨m, _⟩
    · exact ⟨hk, hv, hc⟩
    · exact h.2.2 e m
theorem stPut_ok {ks ks' : ST} {k v : Str} {c : Int} (h : SOk ks) (hk : kyOk k) (hv : vlOk v) (hc : c.natAbs ≤ 100) (e : stPut ks c k v = .inr ks') : SOk ks' := by
  unfold stPut at e
  cases g : gA ks k with
  | some x =>
    rw [g] at e
    dsimp only at e
    split at e
    · cases e
    · cases e; exact h.put hk hv hc (.inl (by rw [g]; nofun))
  | none =>
    rw [g] at e
    dsimp only at e
    split at e
    · cases e
    · cases e; exact h.put hk hv hc (.inr (by omega))
theorem SOk.rm {ks : ST} (h : SOk ks) (k : Str) : SOk (rmA ks k) := ⟨rmA_ok k h.1, Nat.le_trans (rmA_len ks k) h.2.1, fun e m => h.2.2 e (List.mem_filter.mp m).1⟩
theorem stDrop_ok {ks ks' : ST} {k : Str} {c : Int} (h : SOk ks) (e : stDrop ks c k = .inr ks') : SOk ks' := by
  unfold stDrop at e
  split at e
  · split at e
    · cases e
    · cases e; exact h.rm k
  · cases e
theorem stSwap_ok {ks ks' : ST} {k o v : Str} (h : SOk ks) (hk : kyOk k) (hv : vlOk v) (e : stSwap ks k o v = .inr ks') : SOk ks' := by
  unfold stSwap at e
  cases g : gA ks k with
  | some x =>
    rw [g] at e
    dsimp only at e
    split at e
    · cases e
    · cases e; exact h.put hk hv (h.2.2 _ (gA_some g)).2.2 (.inl (by rw [g]; nofun))
  | none => rw [g] at e; cases e
theorem ANm.addB {ac : AB} {n : Str} {d : Int} (h : ANm ac) : ANm (addB ac n d) := by
  unfold Law.addB
  cases g : gA ac n with
  | none => exact h
  | some x =>
    refine ⟨by show (pA ac n (x.1, x.2 + d)).length ≤ 100; rw [pA_len_in (by rw [g]; nofun)]; exact h.1, fun e m => ?_⟩
    rcases pA_mem m with rfl | ⟨m, _⟩
    · have := h.2 _ (gA_some g)
      exact ⟨this.1, this.2⟩
    · exact h.2 e m
theorem ANm.rm {ac : AB} (h : ANm ac) (k : Str) : ANm (rmA ac k) := ⟨Nat.le_trans (rmA_len ac k) h.1, fun e m => h.2 e (List.mem_filter.mp m).1⟩
theorem HNm.rm {ho : HS} (h : HNm ho) (k : Str) : HNm (rmA ho k) := ⟨Nat.le_trans (rmA_len ho k) h.1, fun e m => h.2 e (List.mem_filter.mp m).1⟩
theorem create_nm {s s' : AS} {c : Int} {n : Str} (h : ANm s.ac) (hn : nmOk n) (hc : c.natAbs ≤ 100) (e : opCreate s c n = .inr s') : ANm s'.ac ∧ s'.ho = s.ho := by
  unfold opCreate at e
  split at e
  · cases e
  · split at e
    · cases e
    · cases e
      refine ⟨⟨?_, fun y m => ?_⟩, rfl⟩
      · have := pA_len s.ac n (c, 0)
        show (pA s.ac n (c, 0)).length ≤ 100
        omega
      · rcases pA_mem m with rfl | ⟨m, _⟩
        · exact ⟨hn, hc⟩
        · exact h.2 y m
theorem close_nm {s s' : AS} {c : Int} {n : Str} (h : ANm s.ac) (e : opClose s c n = .inr s') : ANm s'.ac ∧ s'.ho = s.ho := by
  unfold opClose at e
  split at e
  · cases e
  · split at e
    · cases e
    · split at e
      · cases e
      · cases e; exact ⟨h.rm n, rfl⟩
theorem issue_nm {s s' : AS} {c : Int} {n : Str} {a : Int} (h : ANm s.ac) (e : opIssue s c n a = .inr s') : ANm s'.ac ∧ s'.ho = s.ho := by
  unfold opIssue at e
  split at e
  · cases e
  · split at e
    · cases e
    · split at e
      · cases e
      · cases e; exact ⟨h.addB, rfl⟩
theorem burn_nm {s s' : AS} {c : Int} {n : Str} {a : Int} (h : ANm s.ac) (e : opBurn s c n a = .inr s') : ANm s'.ac ∧ s'.ho = s.ho := by
  unfold opBurn at e
  split at e
  · cases e
  · split at e
    · cases e
    · cases e; exact ⟨h.addB, rfl⟩
theorem pay_nm {s s' : AS} {c : Int} {x y : Str} {a : Int} (h : ANm s.ac) (e : opPay s c x y a = .inr s') : ANm s'.ac ∧ s'.ho = s.ho := by
  unfold opPay at e
  split at e
  · cases e
  · cases e; exact ⟨h.addB.addB, rfl⟩
theorem hold_nm {s s' : AS} {c : Int} {x y : Str} {a : Int} {k : Str} (h : ANm s.ac) (g : HNm s.ho) (hk : kyOk k) (hx : nmOk x) (hy : nmOk y) (e : opHold s c x y a k = .inr s') : ANm s'.ac ∧ HNm s'.ho := by
  unfold opHold at e
  split at e
  · cases e
  · split at e
    · cases e
    · split at e
      · cases e
      · cases e
        refine ⟨h.addB, ?_, fun z m => ?_⟩
        · have := pA_len s.ho k (x, y, a)
          show (pA s.ho k (x, y, a)).length ≤ 100
          omega
        · rcases pA_mem m with rfl | ⟨m, _⟩
          · exact ⟨hk, hx, hy⟩
          · exact g.2 z m
theorem settle_nm {s s' : AS} {c : Int} {k : Str} (h : ANm s.ac) (g : HNm s.ho) (e : opSettle s c k = .inr s') : ANm s'.ac ∧ HNm s'.ho := by
  unfold opSettle at e
  split at e
  · cases e
  · split at e
    · cases e
    · cases e; exact ⟨h.addB, g.rm k⟩
theorem release_nm {s s' : AS} {c : Int} {k : Str} (h : ANm s.ac) (g : HNm s.ho) (e : opRelease s c k = .inr s') : ANm s'.ac ∧ HNm s'.ho := by
  unfold opRelease at e
  split at e
  · cases e
  · split at e
    · cases e
    · cases e; exact ⟨h.addB, g.rm k⟩
theorem AInv.hund {s : AS} {n : Nat} (h : AInv s n) (l : s.ac.length ≤ 100) (g : s.ho.length ≤ 100) : AInv s 100 := { h with len := l, hlen := g }
theorem outA_inr {r : Sum Str AS} {m m' : MM} {z : Str} (e : outA r m = .inr (z, m')) : ∃ s', r = .inr s' ∧ z = Str.ofString "ok" ∧ m' = (s', m.2) := by
  unfold outA at e
  split at e
  · cases e
  · cases e; exact ⟨_, rfl, rfl, rfl⟩
theorem outS_inr {r : Sum Str ST} {m m' : MM} {z : Str} (e : outS r m = .inr (z, m')) : ∃ s', r = .inr s' ∧ z = Str.ofString "ok" ∧ m' = (m.1, s') := by
  unfold outS at e
  split at e
  · cases e
  · cases e; exact ⟨_, rfl, rfl, rfl⟩
theorem need_inr {b : Bool} {m m' : MM} {z : Str} (e : need b m = .inr (z, m')) : z = Str.ofString "ok" ∧ m' = m := by
  unfold need at e
  split at e
  · cases e; exact ⟨rfl, rfl⟩
  · cases e
theorem ok_len : (Str.ofString "ok").length ≤ 1100 := by decide
theorem keysT_len (l : List Str) (hl : l.length ≤ 1000) : (keysT l).length ≤ 1100 := by
  unfold keysT
  split
  · decide
  · split
    · rw [Str.length_append]
      have lg : ((l.length : Int)).natAbs.log2 < 1000 := log2_of_lt (by omega) (by have : (2:Nat) ^ 20 ≤ 2 ^ 1000 := Nat.pow_le_pow_right (by omega) (by omega); have : (2:Nat) ^ 20 = 1048576 := rfl; omega)
      have := itx_len (i := (l.length : Int)) (k := 1000) (by omega) lg
      have e1 : (Str.ofString "#").length = 1 := by decide
      omega
    · omega
theorem stmR_ok {m m' : MM} {c : Int} {s : Stm} {z : Str} (h : MOk m) (so : StmOk s) (hc : c.natAbs ≤ 100) (e : stmR m c s = .inr (z, m')) : MOk m' ∧ z.length ≤ 1100 := by
  have acc : ∀ {s' : AS}, AInv s' (100 + 1) ∧ s'.su = s'.su → ANm s'.ac → HNm s'.ho → m' = (s', m.2) → z = Str.ofString "ok" → MOk m' ∧ z.length ≤ 1100 := fun i a g e1 e2 => by
    rw [e1, e2]
    exact ⟨⟨i.1.hund a.1 g.1, h.st, a, g⟩, ok_len⟩
  have sto : ∀ {s' : ST}, SOk s' → m' = (m.1, s') → z = Str.ofString "ok" → MOk m' ∧ z.length ≤ 1100 := fun i e1 e2 => by
    rw [e1, e2]
    exact ⟨⟨h.ac, i, h.an, h.hn⟩, ok_len⟩
  cases s with
  | opn n =>
    obtain ⟨s', e0, e1, e2⟩ := outA_inr e
    obtain ⟨a, b⟩ := create_nm h.an so hc e0
    exact acc ⟨(create_inv h.ac (nmOk.tx so) e0).1, rfl⟩ a (by rw [b]; exact h.hn) e2 e1
  | cls n =>
    obtain ⟨s', e0, e1, e2⟩ := outA_inr e
    obtain ⟨a, b⟩ := close_nm h.an e0
    exact acc ⟨(close_inv h.ac e0).1, rfl⟩ a (by rw [b]; exact h.hn) e2 e1
  | iss n a =>
    obtain ⟨s', e0, e1, e2⟩ := outA_inr e
    obtain ⟨a, b⟩ := issue_nm h.an e0
    exact acc ⟨(issue_inv h.ac (by omega) e0).1, rfl⟩ a (by rw [b]; exact h.hn) e2 e1
  | brn n a =>
    obtain ⟨s', e0, e1, e2⟩ := outA_inr e
    obtain ⟨a, b⟩ := burn_nm h.an e0
    exact acc ⟨(burn_inv h.ac (by omega) e0).1, rfl⟩ a (by rw [b]; exact h.hn) e2 e1
  | pay x y a =>
    obtain ⟨s', e0, e1, e2⟩ := outA_inr e
    obtain ⟨a, b⟩ := pay_nm h.an e0
    exact acc ⟨(pay_inv h.ac (by omega) e0).1, rfl⟩ a (by rw [b]; exact h.hn) e2 e1
  | hld x y a k =>
    obtain ⟨s', e0, e1, e2⟩ := outA_inr e
    obtain ⟨a, b⟩ := hold_nm h.an h.hn so.2.2.2 so.1 so.2.1 e0
    exact acc ⟨(hold_inv h.ac (by omega) so.1.tx so.2.1.tx so.2.2.2.tx e0).1, rfl⟩ a b e2 e1
  | stl k =>
    obtain ⟨s', e0, e1, e2⟩ := outA_inr e
    obtain ⟨a, b⟩ := settle_nm h.an h.hn e0
    exact acc ⟨(settle_inv h.ac e0).1, rfl⟩ a b e2 e1
  | rel k =>
    obtain ⟨s', e0, e1, e2⟩ := outA_inr e
    obtain ⟨a, b⟩ := release_nm h.an h.hn e0
    exact acc ⟨(release_inv h.ac e0).1, rfl⟩ a b e2 e1
  | put k v =>
    obtain ⟨s', e0, e1, e2⟩ := outS_inr e
    exact sto (stPut_ok h.st so.1 so.2 hc e0) e2 e1
  | drp k =>
    obtain ⟨s', e0, e1, e2⟩ := outS_inr e
    exact sto (stDrop_ok h.st e0) e2 e1
  | swp k o v =>
    obtain ⟨s', e0, e1, e2⟩ := outS_inr e
    exact sto (stSwap_ok h.st so.1 so.2.2 e0) e2 e1
  | bal n =>
    have e : (match gA m.1.ac n with | none => .inl "missing" | some x => .inr (Str.ofString (toString x.2), m)) = (Sum.inr (z, m') : Sum Str (Str × MM)) := e
    cases g : gA m.1.ac n with
    | none => rw [g] at e; cases e
    | some x =>
      rw [g] at e
      cases e
      obtain ⟨x0, x1⟩ := bal_le h.ac g
      have := itx_len (i := x.2) (k := 1000) (by omega) (log15 x0 x1)
      exact ⟨h, by omega⟩
  | atl n a =>
    have e : (match gA m.1.ac n with | none => .inl "missing" | some x => need (decide ((a : Int) ≤ x.2)) m) = (Sum.inr (z, m') : Sum Str (Str × MM)) := e
    cases g : gA m.1.ac n with
    | none => rw [g] at e; cases e
    | some x =>
      rw [g] at e
      obtain ⟨e1, e2⟩ := need_inr e
      rw [e1, e2]; exact ⟨h, ok_len⟩
  | get k =>
    have e : (match stRead m.2 k with | .inl z => .inl z | .inr v => .inr (v, m)) = (Sum.inr (z, m') : Sum Str (Str × MM)) := e
    unfold stRead at e
    cases g : gA m.2 k with
    | none => rw [g] at e; cases e
    | some x =>
      rw [g] at e
      cases e
      have := (h.st.2.2 _ (gA_some g)).2.1.1
      exact ⟨h, Nat.le_trans this (by decide)⟩
  | sam k v =>
    have e : (match stRead m.2 k with | .inl z => .inl z | .inr w => need (decide (w = v)) m) = (Sum.inr (z, m') : Sum Str (Str × MM)) := e
    cases g : stRead m.2 k with
    | inl z => rw [g] at e; cases e
    | inr x =>
      rw [g] at e
      obtain ⟨e1, e2⟩ := need_inr e
      rw [e1, e2]; exact ⟨h, ok_len⟩
  | kys k =>
    have e : (Sum.inr (keysT ((sortK m.2).filter fun z => Txt.startswith z k), m) : Sum Str (Str × MM)) = Sum.inr (z, m') := e
    cases e
    have l200 := h.st.2.1
    exact ⟨h, keysT_len _ (Nat.le_trans (List.length_filter_le _ _) (by rw [sortK_len]; omega))⟩
/-- why a statement is refused -/
def RsnS (z : Str) : Prop := z.length ≤ 8
theorem Rsn.len {z : Str} (h : Rsn z) : z.length ≤ 8 := by
  unfold Rsn at h
  rcases h with rfl | rfl | rfl | rfl | rfl | rfl | rfl | rfl <;> decide
theorem outA_inl {r : Sum Str AS} {m : MM} {z : Str} (e : outA r m = .inl z) : r = .inl z := by
  unfold outA at e
  split at e
  · cases e; rfl
  · cases e
theorem outS_inl {r : Sum Str ST} {m : MM} {z : Str} (e : outS r m = .inl z) : r = .inl z := by
  unfold outS at e
  split at e
  · cases e; rfl
  · cases e
theorem need_inl {b : Bool} {m : MM} {z : Str} (e : need b m = .inl z) : z = Str.ofString "need" := by
  unfold need at e
  split at e
  · cases e
  · cases e; rfl
theorem stmR_rz {m : MM} {c : Int} {s : Stm} {z : Str} (e : stmR m c s = .inl z) : z.length ≤ 8 := by
  cases s with
  | opn n => exact (acOp_rsn (o := ⟨"create", c, n, n, 0, n⟩) (outA_inl e)).len
  | cls n => exact (acOp_rsn (o := ⟨"close", c, n, n, 0, n⟩) (outA_inl e)).len
  | iss n a => exact (acOp_rsn (o := ⟨"issue", c, n, n, a, n⟩) (outA_inl e)).len
  | brn n a => exact (acOp_rsn (o := ⟨"burn", c, n, n, a, n⟩) (outA_inl e)).len
  | pay x y a => exact (acOp_rsn (o := ⟨"pay", c, x, y, a, x⟩) (outA_inl e)).len
  | hld x y a k => exact (acOp_rsn (o := ⟨"hold", c, x, y, a, k⟩) (outA_inl e)).len
  | stl k => exact (acOp_rsn (o := ⟨"settle", c, k, k, 0, k⟩) (outA_inl e)).len
  | rel k => exact (acOp_rsn (o := ⟨"release", c, k, k, 0, k⟩) (outA_inl e)).len
  | put k v =>
    have e := outS_inl e
    unfold stPut at e
    split at e <;> split at e <;> cases e <;> decide
  | drp k =>
    have e := outS_inl e
    unfold stDrop at e
    split at e
    · split at e <;> cases e <;> decide
    · cases e; decide
  | swp k o v =>
    have e := outS_inl e
    unfold stSwap at e
    split at e
    · split at e <;> cases e <;> decide
    · cases e; decide
  | bal n =>
    have e : (match gA m.1.ac n with | none => .inl "missing" | some x => .inr (Str.ofString (toString x.2), m)) = (Sum.inl z : Sum Str (Str × MM)) := e
    split at e <;> cases e; decide
  | atl n a =>
    have e : (match gA m.1.ac n with | none => .inl "missing" | some x => need (decide ((a : Int) ≤ x.2)) m) = (Sum.inl z : Sum Str (Str × MM)) := e
    split at e
    · cases e; decide
    · rw [need_inl e]; decide
  | get k =>
    have e : (match stRead m.2 k with | .inl z => .inl z | .inr v => .inr (v, m)) = (Sum.inl z : Sum Str (Str × MM)) := e
    unfold stRead at e
    cases g : gA m.2 k with
    | none => rw [g] at e; cases e; decide
    | some x => rw [g] at e; cases e
  | sam k v =>
    have e : (match stRead m.2 k with | .inl z => .inl z | .inr w => need (decide (w = v)) m) = (Sum.inl z : Sum Str (Str × MM)) := e
    unfold stRead at e
    cases g : gA m.2 k with
    | none => rw [g] at e; cases e; decide
    | some x => rw [g] at e; rw [need_inl e]; decide
  | kys k => cases e
theorem sqT_keep {K : PySem.W.Frag} {H H' : Hp} {a : Addr} {xs : List V} (h : SqT K H a xs) (k : ∀ o, H a = some o → H' a = some o) : SqT K H' a xs := h.elim (fun r => .inl (r.elim (fun e => .inl (k _ e)) (fun ⟨w, e⟩ => .inr ⟨w, k _ e⟩))) .inr

section
variable {P : Program} {w : World} {K : PySem.W.Frag} {mg : Str → Option Value} {base : Heap}
theorem c_require {C_Accounts : Addr} {C_Sessions : Addr} {C_Store : Addr} {C_State : Addr} {C_BadText : Addr} {C_Refused : Addr} {C_BadCommand : Addr} {C_VERBS : Addr} (T : Txt K mg w C_Accounts C_Sessions C_Store C_State C_BadText C_Refused C_BadCommand C_VERBS) : CalX P w K mg base 3 "require" (fun vs H Q E => ∃ b : Bool, vs = [.bl b] ∧ (b = true → Q .non H) ∧ (b = false → Rz C_Refused H E "need")) := by
  have i_Refused := i_Refused (P := P) (w := w) (base := base) T
  refine calX T.d_require sc_require (fun vs H Q E h => ?_) (fun f cdv A outer s H vs Q E hr h => ?_)
  · obtain ⟨b, rfl, _⟩ := h; rfl
  obtain ⟨b, rfl, q, e⟩ := h
  refine ⟨_, (pss_one (ps_if (pt_not (pt_val (pv 0))) (pss_one (ps_raise rfl (takes_of rfl rfl rfl rfl) (pmk_ei i_Refused hr (by decide) (by rfl) (pa_cons pe_str pa_nil)))) pss_nil)), ?_⟩
  walk_at "rds"
  cases b with
  | true => 
    walk_at "rds"
    exact q rfl
  | false =>
    walk_at "rds"
    exact mk_one fun H' d s1 _ hd => e rfl H' d s1 hd
theorem c_keys_result {C_Accounts : Addr} {C_Sessions : Addr} {C_Store : Addr} {C_State : Addr} {C_BadText : Addr} {C_Refused : Addr} {C_BadCommand : Addr} {C_VERBS : Addr} (T : Txt K mg w C_Accounts C_Sessions C_Store C_State C_BadText C_Refused C_BadCommand C_VERBS) : Cal P w K mg base 1 "keys_result" (fun vs H Q _ => ∃ (a : Addr) (zs : List Str), vs = [.ref a] ∧ H a = some (.lst (zs.map V.str)) ∧ zs.length ≤ 1000 ∧ (zs.map (·.length)).sum ≤ 1000000 ∧ Q (.str (keysT zs)) H) [] := by
  refine cal T.d_keys_result sc_keys_result (fun vs H Q E h => ?_) (fun f cdv A outer s H vs Q E hr h => ?_)
  · obtain ⟨a, zs, rfl, _⟩ := h; rfl
  obtain ⟨a, zs, rfl, ha, hl, hsum, q⟩ := h
  refine ⟨_, (pss_cons (ps_if (pt_cmpR op_eq (pe_callB (klen (K := K)) (by rfl) T.z_len (by decide +kernel) (pa_cons (pv 0) pa_nil)) pe_int (nomark _)) (pss_one (ps_ret pe_str)) pss_nil)
      (pss_cons (ps_set (i := 1) sc_keys_result.nd rfl (Or.inl rfl) (pe_join pe_str (pv 0)))
      (pss_cons (ps_if (pt_cmpR op_gt (pe_callB call_len_str (by rfl) T.z_len (by decide +kernel) (pa_cons (pv 1) pa_nil)) (pe_gc (by rfl) T.c_RESULT_LIMIT) (nomark _)) (pss_one (ps_ret (pe_op op_add_str pe_str (pe_callTy call_str_int (by rfl) T.z_str (by decide +kernel) (pa_cons (pe_callB (klen (K := K)) (by rfl) T.z_len (by decide +kernel) (pa_cons (pv 0) pa_nil)) pa_nil))))) pss_nil)
      (pss_one (ps_ret (pv 1)))))), ?_⟩
  walk_at "rds"
  (try delta tNil)
  refine ⟨a, _, rfl, .inl (sq ha), ?_⟩
  rw [List.length_map]
  walk_at "rds"
  unfold keysT at q
  by_cases h0 : zs.length = 0
  · rw [if_pos h0] at q
    refine ifT (by rw [h0]; rfl) ?_
    exact q
  rw [if_neg h0] at q
  refine ifF (by rw [decide_eq_false]; intro z; exact h0 (Int.ofNat.inj (V.int.inj z))) ?_
  walk_at "rds"
  have sl := sizeLine_eq
  refine ⟨_, a, zs, rfl, rfl, .inl (sq ha), ?_, ?_⟩
  · have e : (Str.ofString ",").length = 1 := by decide
    rw [e]; omega
  have jl := join_le (Str.ofString ",") zs
  have e1 : (Str.ofString ",").length = 1 := by decide
  rw [e1] at jl
  walk_at "rds"
  by_cases h60 : 60 < (Txt.join (Str.ofString ",") zs).length
  · rw [if_pos h60] at q
    refine ifT (decide_eq_true (by omega)) ?_
    walk_at "rds"
    (try delta tNil)
    refine ⟨a, _, rfl, .inl (sq ha), ?_⟩
    rw [List.length_map]
    have lg : ((zs.length : Int)).natAbs.log2 < 1000 := log2_of_lt (by omega) (by have : (2:Nat) ^ 20 ≤ 2 ^ 1000 := Nat.pow_le_pow_right (by omega) (by omega); have : (2:Nat) ^ 20 = 1048576 := rfl; omega)
    walk_at "rds"
    refine ⟨by omega, _, _, rfl, rfl, ?_, q⟩
    have := itx_len (i := (zs.length : Int)) (k := 1000) (by omega) lg
    have e1 : (Str.ofString "#").length = 1 := by decide
    omega
  · rw [if_neg h60] at q
    refine ifF (decide_eq_false (by omega)) ?_
    walk_at "rds"
    exact q
/-- outcome of an operation upon the accounts, with what stays of the rest -/
def spChg (K : PySem.W.Frag) (B C : Addr) : Sp := fun vs H Q E => ∃ (p n b h t : Addr) (he : HE) (m : MM) (c : Int) (s : Stm), vs = [.ref p, .int c, .ref t] ∧ AcAt C H p n b h m.1.ac he m.1.su ∧ hsOf he = m.1.ho ∧ MOk m ∧ StmOk s ∧ SqT K H t (stV s) ∧
  match s with
  | .opn n' => OutA B C H p n b h Q E (opCreate m.1 c n')
  | .cls n' => OutA B C H p n b h Q E (opClose m.1 c n')
  | .iss n' a => OutA B C H p n b h Q E (opIssue m.1 c n' a)
  | .brn n' a => OutA B C H p n b h Q E (opBurn m.1 c n' a)
  | .pay x y a => OutA B C H p n b h Q E (opPay m.1 c x y a)
  | .hld x y a k => OutA B C H p n b h Q E (opHold m.1 c x y a k)
  | .stl k => OutA B C H p n b h Q E (opSettle m.1 c k)
  | .rel k => OutA B C H p n b h Q E (opRelease m.1 c k)
  | _ => False
theorem OutA.imp {B C : Addr} {H : Hp} {p n b h : Addr} {Q Q' : VK} {E E' : XK} {r : Sum Str AS} (o : OutA B C H p n b h Q E r) (q : ∀ H', Q .non H' → Q' .non H') (e : ∀ d H', E (.ref B) (some d) H' → E' (.ref B) (some d) H') : OutA B C H p n b h Q' E' r := by
  unfold OutA at *
  cases r with
  | inl z => exact fun H' d s g => e d H' (o H' d s g)
  | inr s => exact fun H' he k a g => q H' (o H' he k a g)
theorem c_change_accounts {C_Accounts : Addr} {C_Sessions : Addr} {C_Store : Addr} {C_State : Addr} {C_BadText : Addr} {C_Refused : Addr} {C_BadCommand : Addr} {C_VERBS : Addr} (T : Txt K mg w C_Accounts C_Sessions C_Store C_State C_BadText C_Refused C_BadCommand C_VERBS) : CalX P w K mg base 7 "change_accounts" (spChg K C_Refused C_Accounts) := by
  have m_Accounts__create := m_Accounts__create (P := P) (w := w) (K := K) (base := base) T
  have m_Accounts__close := m_Accounts__close (P := P) (w := w) (K := K) (base := base) T
  have m_Accounts__issue := m_Accounts__issue (P := P) (w := w) (base := base) T
  have m_Accounts__burn := m_Accounts__burn (P := P) (w := w) (base := base) T
  have m_Accounts__pay := m_Accounts__pay (P := P) (w := w) (base := base) T
  have m_Accounts__hold := m_Accounts__hold (P := P) (w := w) (base := base) T
  have m_Accounts__settle := m_Accounts__settle (P := P) (w := w) (base := base) T
  have m_Accounts__release := m_Accounts__release (P := P) (w := w) (base := base) T
  refine calX T.d_change_accounts sc_change_accounts (fun vs H Q E h => ?_) (fun f cdv A outer s H vs Q E hr h => ?_)
  · obtain ⟨p, n, b, h, t, he, m, c, s, rfl, _⟩ := h; rfl
  obtain ⟨p, n, b, h, t, he, m, c, s, rfl, at_, hs, ok, sok, ht, out⟩ := h
  have aw := ok.aw at_ hs
  obtain ⟨dx, g⟩ := at_.ins
  refine ⟨_, (pss_one (ps_match (pv 2) (mc_cons sc_change_accounts.nd (mp_seq (by rfl) (mp_cons (mp_val pe_str) (mp_cons (mp_cap (i := 3) rfl (Or.inl rfl)) mp_nil))) (pss_one (ps_expr (pe_mtX m_Accounts__create hr (by decide) (fun σ => passAt (takes_of rfl rfl rfl rfl) σ) (pv 0) (pa_cons (pv 1) (pa_cons (pv 3) pa_nil))))) (mc_cons sc_change_accounts.nd (mp_seq (by rfl) (mp_cons (mp_val pe_str) (mp_cons (mp_cap (i := 3) rfl (Or.inl rfl)) mp_nil))) (pss_one (ps_expr (pe_mtX m_Accounts__close hr (by decide) (fun σ => passAt (takes_of rfl rfl rfl rfl) σ) (pv 0) (pa_cons (pv 1) (pa_cons (pv 3) pa_nil))))) (mc_cons sc_change_accounts.nd (mp_seq (by rfl) (mp_cons (mp_val pe_str) (mp_cons (mp_cap (i := 3) rfl (Or.inl rfl)) (mp_cons (mp_cap (i := 4) rfl (Or.inl rfl)) mp_nil)))) (pss_one (ps_expr (pe_mtX m_Accounts__issue hr (by decide) (fun σ => passAt (takes_of rfl rfl rfl rfl) σ) (pv 0) (pa_cons (pv 1) (pa_cons (pv 3) (pa_cons (pv 4) pa_nil)))))) (mc_cons sc_change_accounts.nd (mp_seq (by rfl) (mp_cons (mp_val pe_str) (mp_cons (mp_cap (i := 3) rfl (Or.inl rfl)) (mp_cons (mp_cap (i := 4) rfl (Or.inl rfl)) mp_nil)))) (pss_one (ps_expr (pe_mtX m_Accounts__burn hr (by decide) (fun σ => passAt (takes_of rfl rfl rfl rfl) σ) (pv 0) (pa_cons (pv 1) (pa_cons (pv 3) (pa_cons (pv 4) pa_nil)))))) (mc_cons sc_change_accounts.nd (mp_seq (by rfl) (mp_cons (mp_val pe_str) (mp_cons (mp_cap (i := 5) rfl (Or.inl rfl)) (mp_cons (mp_cap (i := 6) rfl (Or.inl rfl)) (mp_cons (mp_cap (i := 4) rfl (Or.inl rfl)) mp_nil))))) (pss_one (ps_expr (pe_mtX m_Accounts__pay hr (by decide) (fun σ => passAt (takes_of rfl rfl rfl rfl) σ) (pv 0) (pa_cons (pv 1) (pa_cons (pv 5) (pa_cons (pv 6) (pa_cons (pv 4) pa_nil))))))) (mc_cons sc_change_accounts.nd (mp_seq (by rfl) (mp_cons (mp_val pe_str) (mp_cons (mp_cap (i := 5) rfl (Or.inl rfl)) (mp_cons (mp_cap (i := 6) rfl (Or.inl rfl)) (mp_cons (mp_cap (i := 4) rfl (Or.inl rfl)) (mp_cons (mp_cap (i := 7) rfl (Or.inl rfl)) mp_nil)))))) (pss_one (ps_expr (pe_mtX m_Accounts__hold hr (by decide) (fun σ => passAt (takes_of rfl rfl rfl rfl) σ) (pv 0) (pa_cons (pv 1) (pa_cons (pv 5) (pa_cons (pv 6) (pa_cons (pv 4) (pa_cons (pv 7) pa_nil)))))))) (mc_cons sc_change_accounts.nd (mp_seq (by rfl) (mp_cons (mp_val pe_str) (mp_cons (mp_cap (i := 7) rfl (Or.inl rfl)) mp_nil))) (pss_one (ps_expr (pe_mtX m_Accounts__settle hr (by decide) (fun σ => passAt (takes_of rfl rfl rfl rfl) σ) (pv 0) (pa_cons (pv 1) (pa_cons (pv 7) pa_nil))))) (mc_cons sc_change_accounts.nd (mp_seq (by rfl) (mp_cons (mp_val pe_str) (mp_cons (mp_cap (i := 7) rfl (Or.inl rfl)) mp_nil))) (pss_one (ps_expr (pe_mtX m_Accounts__release hr (by decide) (fun σ => passAt (takes_of rfl rfl rfl rfl) σ) (pv 0) (pa_cons (pv 1) (pa_cons (pv 7) pa_nil))))) mc_nil)))))))))), ?_⟩
  walk_at "rds"
  cases s with
  | opn n' =>
    refine tc_hit ht rfl ?_
    refine tcap ?_
    refine tnil ?_
    walk_at "rds"
    refine ⟨p, dx, _, rfl, g, rfl, ?_⟩
    walk_at "rds"
    (try delta tNil)
    refine ⟨p, n, b, h, he, m.1, c, n', rfl, aw, out.imp (fun H' q => ?_) (fun d H' e => e)⟩
    exact q
  | cls n' =>
    refine tc_miss ht rfl ?_
    refine tc_hit ht rfl ?_
    refine tcap ?_
    refine tnil ?_
    walk_at "rds"
    refine ⟨p, dx, _, rfl, g, rfl, ?_⟩
    walk_at "rds"
    (try delta tNil)
    refine ⟨p, n, b, h, he, m.1, c, n', rfl, aw, out.imp (fun H' q => ?_) (fun d H' e => e)⟩
    exact q
  | iss n' a =>
    refine tc_miss ht rfl ?_
    refine tc_miss ht rfl ?_
    refine tc_hit ht rfl ?_
    refine tcap ?_
    refine tcap ?_
    refine tnil ?_
    walk_at "rds"
    refine ⟨p, dx, _, rfl, g, rfl, ?_⟩
    walk_at "rds"
    (try delta tNil)
    refine ⟨p, n, b, h, he, m.1, c, n', a, rfl, aw, out.imp (fun H' q => ?_) (fun d H' e => e)⟩
    exact q
  | brn n' a =>
    refine tc_miss ht rfl ?_
    refine tc_miss ht rfl ?_
    refine tc_miss ht rfl ?_
    refine tc_hit ht rfl ?_
    refine tcap ?_
    refine tcap ?_
    refine tnil ?_
    walk_at "rds"
    refine ⟨p, dx, _, rfl, g, rfl, ?_⟩
    walk_at "rds"
    (try delta tNil)
    refine ⟨p, n, b, h, he, m.1, c, n', a, rfl, aw, out.imp (fun H' q => ?_) (fun d H' e => e)⟩
    exact q
  | pay x y a =>
    refine tc_miss ht rfl ?_
    refine tc_miss ht rfl ?_
    refine tc_miss ht rfl ?_
    refine tc_miss ht rfl ?_
    refine tc_hit ht rfl ?_
    refine tcap ?_
    refine tcap ?_
    refine tcap ?_
    refine tnil ?_
    walk_at "rds"
    refine ⟨p, dx, _, rfl, g, rfl, ?_⟩
    walk_at "rds"
    (try delta tNil)
    refine ⟨p, n, b, h, he, m.1, c, x, y, a, rfl, aw, out.imp (fun H' q => ?_) (fun d H' e => e)⟩
    exact q
  | hld x y a k =>
    refine tc_miss ht rfl ?_
    refine tc_miss ht rfl ?_
    refine tc_miss ht rfl ?_
    refine tc_miss ht rfl ?_
    refine tc_miss ht rfl ?_
    refine tc_hit ht rfl ?_
    refine tcap ?_
    refine tcap ?_
    refine tcap ?_
    refine tcap ?_
    refine tnil ?_
    walk_at "rds"
    refine ⟨p, dx, _, rfl, g, rfl, ?_⟩
    walk_at "rds"
    (try delta tNil)
    refine ⟨p, n, b, h, he, m.1, c, x, y, a, k, rfl, aw, out.imp (fun H' q => ?_) (fun d H' e => e)⟩
    exact q
  | stl k =>
    refine tc_miss ht rfl ?_
    refine tc_miss ht rfl ?_
    refine tc_miss ht rfl ?_
    refine tc_miss ht rfl ?_
    refine tc_miss ht rfl ?_
    refine tc_miss ht rfl ?_
    refine tc_hit ht rfl ?_
    refine tcap ?_
    refine tnil ?_
    walk_at "rds"
    refine ⟨p, dx, _, rfl, g, rfl, ?_⟩
    walk_at "rds"
    (try delta tNil)
    refine ⟨p, n, b, h, he, m.1, c, k, rfl, aw, out.imp (fun H' q => ?_) (fun d H' e => e)⟩
    exact q
  | rel k =>
    refine tc_miss ht rfl ?_
    refine tc_miss ht rfl ?_
    refine tc_miss ht rfl ?_
    refine tc_miss ht rfl ?_
    refine tc_miss ht rfl ?_
    refine tc_miss ht rfl ?_
    refine tc_miss ht rfl ?_
    refine tc_hit ht rfl ?_
    refine tcap ?_
    refine tnil ?_
    walk_at "rds"
    refine ⟨p, dx, _, rfl, g, rfl, ?_⟩
    walk_at "rds"
    (try delta tNil)
    refine ⟨p, n, b, h, he, m.1, c, k, rfl, aw, out.imp (fun H' q => ?_) (fun d H' e => e)⟩
    exact q
  | bal _ => exact out.elim
  | atl _ _ => exact out.elim
  | put _ _ => exact out.elim
  | get _ => exact out.elim
  | drp _ => exact out.elim
  | swp _ _ _ => exact out.elim
  | sam _ _ => exact out.elim
  | kys _ => exact out.elim
def spPerf (K : PySem.W.Frag) (B C D : Addr) : Sp := fun vs H Q E => ∃ (p n b h ps n2 a2 t : Addr) (he : HE) (m : MM) (c : Int) (s : Stm), vs = [.ref p, .ref ps, .int c, .ref t] ∧ ASAt C D H p n b h ps n2 a2 he m ∧ MOk m ∧ StmOk s ∧ SqT K H t (stV s) ∧ OutP B C D H p n b h ps n2 a2 Q E (stmR m c s)
theorem c_perform {C_Accounts : Addr} {C_Sessions : Addr} {C_Store : Addr} {C_State : Addr} {C_BadText : Addr} {C_Refused : Addr} {C_BadCommand : Addr} {C_VERBS : Addr} (T : Txt K mg w C_Accounts C_Sessions C_Store C_State C_BadText C_Refused C_BadCommand C_VERBS) : CalX P w K mg base 8 "perform" (spPerf K C_Refused C_Accounts C_Store) := by
  have m_Accounts__balance := m_Accounts__balance (P := P) (w := w) (base := base) T
  have m_Store__put := m_Store__put (P := P) (w := w) (K := K) (base := base) T
  have m_Store__read := m_Store__read (P := P) (w := w) (base := base) T
  have m_Store__drop := m_Store__drop (P := P) (w := w) (base := base) T
  have m_Store__swap := m_Store__swap (P := P) (w := w) (base := base) T
  have m_Store__matching := m_Store__matching (P := P) (w := w) (K := K) (base := base) T
  have c_change_accounts := c_change_accounts (P := P) (w := w) (K := K) (base := base) T
  have c_require := c_require (P := P) (w := w) (base := base) T
  have c_keys_result := c_keys_result (P := P) (w := w) (K := K) (base := base) T
  refine calX T.d_perform sc_perform (fun vs H Q E h => ?_) (fun f cdv A outer s H vs Q E hr h => ?_)
  · obtain ⟨p, n, b, h, ps, n2, a2, t, he, m, c, s, rfl, _⟩ := h; rfl
  obtain ⟨p, n, b, h, ps, n2, a2, t, he, m, c, s, rfl, at_, ok, sok, ht, out⟩ := h
  have aw := ok.aw at_.ac at_.hs
  obtain ⟨dx, g⟩ := at_.ac.ins
  obtain ⟨dx2, g2⟩ := at_.st.ins
  refine ⟨_, (pss_cons (ps_match (pv 3) (mc_cons sc_perform.nd (mp_seq (by rfl) (mp_cons (mp_val pe_str) (mp_cons (mp_cap (i := 4) rfl (Or.inl rfl)) mp_nil))) (pss_one (ps_ret (pe_callTy call_str_int (by rfl) T.z_str (by decide +kernel) (pa_cons (pe_mtX m_Accounts__balance hr (by decide) (fun σ => passAt (takes_of rfl rfl rfl rfl) σ) (pv 0) (pa_cons (pv 4) pa_nil)) pa_nil)))) (mc_cons sc_perform.nd (mp_seq (by rfl) (mp_cons (mp_val pe_str) (mp_cons (mp_cap (i := 5) rfl (Or.inl rfl)) mp_nil))) (pss_one (ps_ret (pe_mtX m_Store__read hr (by decide) (fun σ => passAt (takes_of rfl rfl rfl rfl) σ) (pv 1) (pa_cons (pv 5) pa_nil)))) (mc_cons sc_perform.nd (mp_seq (by rfl) (mp_cons (mp_val pe_str) (mp_cons (mp_cap (i := 6) rfl (Or.inl rfl)) mp_nil))) (pss_one (ps_ret (pe_c c_keys_result hr (by omega) (by rfl) (pa_cons (pe_mt m_Store__matching hr (by decide) (pv 1) (pa_cons (pv 6) pa_nil)) pa_nil)))) (mc_cons sc_perform.nd (mp_seq (by rfl) (mp_cons (mp_val pe_str) (mp_cons (mp_cap (i := 4) rfl (Or.inl rfl)) (mp_cons (mp_cap (i := 7) rfl (Or.inl rfl)) mp_nil)))) (pss_one (ps_expr (pe_cX c_require hr (by omega) (by rfl) (fun σ => passAt (takes_of rfl rfl rfl rfl) σ) (pa_cons (pe_cmpR op_ge (pe_mtX m_Accounts__balance hr (by decide) (fun σ => passAt (takes_of rfl rfl rfl rfl) σ) (pv 0) (pa_cons (pv 4) pa_nil)) (pv 7) (nomark _)) pa_nil)))) (mc_cons sc_perform.nd (mp_seq (by rfl) (mp_cons (mp_val pe_str) (mp_cons (mp_cap (i := 5) rfl (Or.inl rfl)) (mp_cons (mp_cap (i := 8) rfl (Or.inl rfl)) mp_nil)))) (pss_one (ps_expr (pe_cX c_require hr (by omega) (by rfl) (fun σ => passAt (takes_of rfl rfl rfl rfl) σ) (pa_cons (pe_cmpR op_eq (pe_mtX m_Store__read hr (by decide) (fun σ => passAt (takes_of rfl rfl rfl rfl) σ) (pv 1) (pa_cons (pv 5) pa_nil)) (pv 8) (nomark _)) pa_nil)))) (mc_cons sc_perform.nd (mp_seq (by rfl) (mp_cons (mp_val pe_str) (mp_cons (mp_cap (i := 5) rfl (Or.inl rfl)) (mp_cons (mp_cap (i := 8) rfl (Or.inl rfl)) mp_nil)))) (pss_one (ps_expr (pe_mtX m_Store__put hr (by decide) (fun σ => passAt (takes_of rfl rfl rfl rfl) σ) (pv 1) (pa_cons (pv 2) (pa_cons (pv 5) (pa_cons (pv 8) pa_nil)))))) (mc_cons sc_perform.nd (mp_seq (by rfl) (mp_cons (mp_val pe_str) (mp_cons (mp_cap (i := 5) rfl (Or.inl rfl)) mp_nil))) (pss_one (ps_expr (pe_mtX m_Store__drop hr (by decide) (fun σ => passAt (takes_of rfl rfl rfl rfl) σ) (pv 1) (pa_cons (pv 2) (pa_cons (pv 5) pa_nil))))) (mc_cons sc_perform.nd (mp_seq (by rfl) (mp_cons (mp_val pe_str) (mp_cons (mp_cap (i := 5) rfl (Or.inl rfl)) (mp_cons (mp_cap (i := 9) rfl (Or.inl rfl)) (mp_cons (mp_cap (i := 10) rfl (Or.inl rfl)) mp_nil))))) (pss_one (ps_expr (pe_mtX m_Store__swap hr (by decide) (fun σ => passAt (takes_of rfl rfl rfl rfl) σ) (pv 1) (pa_cons (pv 5) (pa_cons (pv 9) (pa_cons (pv 10) pa_nil)))))) (mc_cons sc_perform.nd mp_wild (pss_one (ps_expr (pe_cX c_change_accounts hr (by omega) (by rfl) (fun σ => passAt (takes_of rfl rfl rfl rfl) σ) (pa_cons (pv 0) (pa_cons (pv 2) (pa_cons (pv 3) pa_nil)))))) mc_nil))))))))))
      (pss_one (ps_ret pe_str))), ?_⟩
  walk_at "rds"
  cases s with
  | bal n' =>
    refine tc_hit ht rfl ?_
    refine tcap ?_
    refine tnil ?_
    walk_at "rds"
    refine ⟨p, dx, _, rfl, g, rfl, ?_⟩
    walk_at "rds"
    (try delta tNil)
    have out : OutP C_Refused C_Accounts C_Store H p n b h ps n2 a2 Q E (match gA m.1.ac n' with
      | none => .inl "missing"
      | some x => .inr (Str.ofString (toString x.2), m)) := out
    refine ⟨p, n, b, h, he, m.1, n', rfl, aw, fun e => ?_, fun x e => ?_⟩
    · rw [e] at out; exact out
    rw [e] at out
    obtain ⟨x0, x1⟩ := bal_le ok.ac e
    have lg := log15 x0 x1
    walk_at "rds"
    refine ⟨by show x.2.natAbs.log2 < 1920; omega, ?_⟩
    exact out.rd at_ fun _ _ z => z
  | get k =>
    refine tc_miss ht rfl ?_
    refine tc_hit ht rfl ?_
    refine tcap ?_
    refine tnil ?_
    walk_at "rds"
    refine ⟨ps, dx2, _, rfl, g2, rfl, ?_⟩
    walk_at "rds"
    (try delta tNil)
    have out : OutP C_Refused C_Accounts C_Store H p n b h ps n2 a2 Q E (match stRead m.2 k with
      | .inl z => .inl z
      | .inr v => .inr (v, m)) := out
    refine ⟨ps, n2, a2, m.2, k, rfl, at_.st, ?_⟩
    cases e : stRead m.2 k with
    | inl z => rw [e] at out; exact out
    | inr v => rw [e] at out; exact out.rd at_ fun _ _ z => z
  | kys k =>
    refine tc_miss ht rfl ?_
    refine tc_miss ht rfl ?_
    refine tc_hit ht rfl ?_
    refine tcap ?_
    refine tnil ?_
    walk_at "rds"
    refine ⟨ps, dx2, _, rfl, g2, rfl, ?_⟩
    walk_at "rds"
    (try delta tNil)
    have out : OutP C_Refused C_Accounts C_Store H p n b h ps n2 a2 Q E (.inr (keysT ((sortK m.2).filter fun z => Txt.startswith z k), m)) := out
    have l200 := ok.st.2.1
    have lk : ((sortK m.2).filter fun z => Txt.startswith z k).length ≤ 200 := Nat.le_trans (List.length_filter_le _ _) (by rw [sortK_len]; exact l200)
    have lz : ∀ z ∈ (sortK m.2).filter fun z => Txt.startswith z k, z.length ≤ 20 := fun z mz => by
      obtain ⟨e, me, rfl⟩ := List.mem_map.mp (sortK_mem.mp (List.mem_filter.mp mz).1)
      exact (ok.st.2.2 e me).1.1
    refine ⟨ps, n2, a2, m.2, k, rfl, at_.st, by omega, fun H1 r s1 nr hr1 => ?_⟩
    walk_at "rds"
    have := sum_le _ lz
    refine ⟨r, _, rfl, hr1, by omega, by omega, ?_⟩
    exact out.rd at_ s1
  | atl n' a =>
    refine tc_miss ht rfl ?_
    refine tc_miss ht rfl ?_
    refine tc_miss ht rfl ?_
    refine tc_hit ht rfl ?_
    refine tcap ?_
    refine tcap ?_
    refine tnil ?_
    walk_at "rds"
    refine ⟨p, dx, _, rfl, g, rfl, ?_⟩
    walk_at "rds"
    (try delta tNil)
    have out : OutP C_Refused C_Accounts C_Store H p n b h ps n2 a2 Q E (match gA m.1.ac n' with
      | none => .inl "missing"
      | some x => need (decide ((a : Int) ≤ x.2)) m) := out
    refine ⟨p, n, b, h, he, m.1, n', rfl, aw, fun e => ?_, fun x e => ?_⟩
    · rw [e] at out; exact out
    rw [e] at out
    walk_at "rds"
    refine ⟨fun hd => ?_, fun hd => ?_⟩
    · have out : OutP C_Refused C_Accounts C_Store H p n b h ps n2 a2 Q E (need (decide ((a : Int) ≤ x.2)) m) := out
      unfold need at out
      rw [if_pos hd] at out
      walk_at "rds"
      exact out.rd at_ fun _ _ z => z
    · have out : OutP C_Refused C_Accounts C_Store H p n b h ps n2 a2 Q E (need (decide ((a : Int) ≤ x.2)) m) := out
      unfold need at out
      rw [if_neg (by rw [hd]; decide)] at out
      exact out
  | sam k v =>
    refine tc_miss ht rfl ?_
    refine tc_miss ht rfl ?_
    refine tc_miss ht rfl ?_
    refine tc_miss ht rfl ?_
    refine tc_hit ht rfl ?_
    refine tcap ?_
    refine tcap ?_
    refine tnil ?_
    walk_at "rds"
    refine ⟨ps, dx2, _, rfl, g2, rfl, ?_⟩
    walk_at "rds"
    (try delta tNil)
    have out : OutP C_Refused C_Accounts C_Store H p n b h ps n2 a2 Q E (match stRead m.2 k with
      | .inl z => .inl z
      | .inr w => need (decide (w = v)) m) := out
    refine ⟨ps, n2, a2, m.2, k, rfl, at_.st, ?_⟩
    cases e : stRead m.2 k with
    | inl z => rw [e] at out; exact out
    | inr v2 =>
    rw [e] at out
    have out : OutP C_Refused C_Accounts C_Store H p n b h ps n2 a2 Q E (need (decide (v2 = v)) m) := out
    walk_at "rds"
    refine ⟨fun hd => ?_, fun hd => ?_⟩
    · rw [decS] at hd
      unfold need at out
      rw [if_pos hd] at out
      walk_at "rds"
      exact out.rd at_ fun _ _ z => z
    · rw [decS] at hd
      unfold need at out
      rw [if_neg (by rw [hd]; decide)] at out
      exact out
  | put k v =>
    refine tc_miss ht rfl ?_
    refine tc_miss ht rfl ?_
    refine tc_miss ht rfl ?_
    refine tc_miss ht rfl ?_
    refine tc_miss ht rfl ?_
    refine tc_hit ht rfl ?_
    refine tcap ?_
    refine tcap ?_
    refine tnil ?_
    walk_at "rds"
    refine ⟨ps, dx2, _, rfl, g2, rfl, ?_⟩
    walk_at "rds"
    (try delta tNil)
    have out := OutP.sto out at_
    have kok := ok.st.1
    have l200 := ok.st.2.1
    refine ⟨ps, n2, a2, m.2, c, k, v, rfl, at_.st, by omega, out.imp (fun H' q => ?_) (fun d H' e => e)⟩
    walk_at "rds"
    exact q
  | drp k =>
    refine tc_miss ht rfl ?_
    refine tc_miss ht rfl ?_
    refine tc_miss ht rfl ?_
    refine tc_miss ht rfl ?_
    refine tc_miss ht rfl ?_
    refine tc_miss ht rfl ?_
    refine tc_hit ht rfl ?_
    refine tcap ?_
    refine tnil ?_
    walk_at "rds"
    refine ⟨ps, dx2, _, rfl, g2, rfl, ?_⟩
    walk_at "rds"
    (try delta tNil)
    have out := OutP.sto out at_
    have kok := ok.st.1
    have l200 := ok.st.2.1
    refine ⟨ps, n2, a2, m.2, c, k, rfl, at_.st, out.imp (fun H' q => ?_) (fun d H' e => e)⟩
    walk_at "rds"
    exact q
  | swp k o v =>
    refine tc_miss ht rfl ?_
    refine tc_miss ht rfl ?_
    refine tc_miss ht rfl ?_
    refine tc_miss ht rfl ?_
    refine tc_miss ht rfl ?_
    refine tc_miss ht rfl ?_
    refine tc_miss ht rfl ?_
    refine tc_hit ht rfl ?_
    refine tcap ?_
    refine tcap ?_
    refine tcap ?_
    refine tnil ?_
    walk_at "rds"
    refine ⟨ps, dx2, _, rfl, g2, rfl, ?_⟩
    walk_at "rds"
    (try delta tNil)
    have out := OutP.sto out at_
    have kok := ok.st.1
    have l200 := ok.st.2.1
    refine ⟨ps, n2, a2, m.2, k, o, v, rfl, at_.st, kok, by omega, out.imp (fun H' q => ?_) (fun d H' e => e)⟩
    walk_at "rds"
    exact q
  | opn n' =>
    refine tc_miss ht rfl ?_
    refine tc_miss ht rfl ?_
    refine tc_miss ht rfl ?_
    refine tc_miss ht rfl ?_
    refine tc_miss ht rfl ?_
    refine tc_miss ht rfl ?_
    refine tc_miss ht rfl ?_
    refine tc_miss ht rfl ?_
    walk_at "rds"
    (try delta tNil)
    have out := OutP.acc out at_
    refine ⟨p, n, b, h, t, he, m, c, .opn n', rfl, at_.ac, at_.hs, ok, sok, ht, out.imp (fun H' q => ?_) (fun d H' e => e)⟩
    walk_at "rds"
    exact q
  | cls n' =>
    refine tc_miss ht rfl ?_
    refine tc_miss ht rfl ?_
    refine tc_miss ht rfl ?_
    refine tc_miss ht rfl ?_
    refine tc_miss ht rfl ?_
    refine tc_miss ht rfl ?_
    refine tc_miss ht rfl ?_
    refine tc_miss ht rfl ?_
    walk_at "rds"
    (try delta tNil)
    have out := OutP.acc out at_
    refine ⟨p, n, b, h, t, he, m, c, .cls n', rfl, at_.ac, at_.hs, ok, sok, ht, out.imp (fun H' q => ?_) (fun d H' e => e)⟩
    walk_at "rds"
    exact q
  | iss n' a =>
    refine tc_miss ht rfl ?_
    refine tc_miss ht rfl ?_
    refine tc_miss ht rfl ?_
    refine tc_miss ht rfl ?_
    refine tc_miss ht rfl ?_
    refine tc_miss ht rfl ?_
    refine tc_miss ht rfl ?_
    refine tc_miss ht rfl ?_
    walk_at "rds"
    (try delta tNil)
    have out := OutP.acc out at_
    refine ⟨p, n, b, h, t, he, m, c, .iss n' a, rfl, at_.ac, at_.hs, ok, sok, ht, out.imp (fun H' q => ?_) (fun d H' e => e)⟩
    walk_at "rds"
    exact q
  | brn n' a =>
    refine tc_miss ht rfl ?_
    refine tc_miss ht rfl ?_
    refine tc_miss ht rfl ?_
    refine tc_miss ht rfl ?_
    refine tc_miss ht rfl ?_
    refine tc_miss ht rfl ?_
    refine tc_miss ht rfl ?_
    refine tc_miss ht rfl ?_
    walk_at "rds"
    (try delta tNil)
    have out := OutP.acc out at_
    refine ⟨p, n, b, h, t, he, m, c, .brn n' a, rfl, at_.ac, at_.hs, ok, sok, ht, out.imp (fun H' q => ?_) (fun d H' e => e)⟩
    walk_at "rds"
    exact q
  | pay x y a =>
    refine tc_miss ht rfl ?_
    refine tc_miss ht rfl ?_
    refine tc_miss ht rfl ?_
    refine tc_miss ht rfl ?_
    refine tc_miss ht rfl ?_
    refine tc_miss ht rfl ?_
    refine tc_miss ht rfl ?_
    refine tc_miss ht rfl ?_
    walk_at "rds"
    (try delta tNil)
    have out := OutP.acc out at_
    refine ⟨p, n, b, h, t, he, m, c, .pay x y a, rfl, at_.ac, at_.hs, ok, sok, ht, out.imp (fun H' q => ?_) (fun d H' e => e)⟩
    walk_at "rds"
    exact q
  | hld x y a k =>
    refine tc_miss ht rfl ?_
    refine tc_miss ht rfl ?_
    refine tc_miss ht rfl ?_
    refine tc_miss ht rfl ?_
    refine tc_miss ht rfl ?_
    refine tc_miss ht rfl ?_
    refine tc_miss ht rfl ?_
    refine tc_miss ht rfl ?_
    walk_at "rds"
    (try delta tNil)
    have out := OutP.acc out at_
    refine ⟨p, n, b, h, t, he, m, c, .hld x y a k, rfl, at_.ac, at_.hs, ok, sok, ht, out.imp (fun H' q => ?_) (fun d H' e => e)⟩
    walk_at "rds"
    exact q
  | stl k =>
    refine tc_miss ht rfl ?_
    refine tc_miss ht rfl ?_
    refine tc_miss ht rfl ?_
    refine tc_miss ht rfl ?_
    refine tc_miss ht rfl ?_
    refine tc_miss ht rfl ?_
    refine tc_miss ht rfl ?_
    refine tc_miss ht rfl ?_
    walk_at "rds"
    (try delta tNil)
    have out := OutP.acc out at_
    refine ⟨p, n, b, h, t, he, m, c, .stl k, rfl, at_.ac, at_.hs, ok, sok, ht, out.imp (fun H' q => ?_) (fun d H' e => e)⟩
    walk_at "rds"
    exact q
  | rel k =>
    refine tc_miss ht rfl ?_
    refine tc_miss ht rfl ?_
    refine tc_miss ht rfl ?_
    refine tc_miss ht rfl ?_
    refine tc_miss ht rfl ?_
    refine tc_miss ht rfl ?_
    refine tc_miss ht rfl ?_
    refine tc_miss ht rfl ?_
    walk_at "rds"
    (try delta tNil)
    have out := OutP.acc out at_
    refine ⟨p, n, b, h, t, he, m, c, .rel k, rfl, at_.ac, at_.hs, ok, sok, ht, out.imp (fun H' q => ?_) (fun d H' e => e)⟩
    walk_at "rds"
    exact q
end

section
variable {P : Program} {w : World} {K : PySem.W.Frag} {mg : Str → Option Value} {base : Heap}
def spRun (K : PySem.W.Frag) (G C D S : Addr) : Sp := fun vs H Q _ => ∃ (q l : Addr) (L : Loc) (m : MM) (se : SD) (c : Int) (ts : List Addr) (ss : List Stm), vs = [.ref q, .int c, .ref l] ∧ EsAt G C D S H q L m se ∧ MOk m ∧ c.natAbs ≤ 100 ∧ ss.length ≤ 1000 ∧ H l = some (.lst (ts.map V.ref)) ∧ ts.length = ss.length ∧ (∀ (j : Nat) (t : Addr) (s : Stm), ts[j]? = some t → ss[j]? = some s → SqT K H t (stV s)) ∧ (∀ s ∈ ss, StmOk s) ∧
  match runR m c ss with
  | .inl z => ∀ H', Same H H' → Q (.str z) H'
  | .inr (z, m') => ∀ H' L', But [q] H H' → EsAt G C D S H' q L' m' se → MOk m' → (∀ x ∈ L'.as, H x = none) → L'.pe = L.pe → L'.n3 = L.n3 → L'.a3 = L.a3 → Q (.str z) H'
theorem c_run {C_Accounts : Addr} {C_Sessions : Addr} {C_Store : Addr} {C_State : Addr} {C_BadText : Addr} {C_Refused : Addr} {C_BadCommand : Addr} {C_VERBS : Addr} (T : Txt K mg w C_Accounts C_Sessions C_Store C_State C_BadText C_Refused C_BadCommand C_VERBS) : Cal P w K mg base 9 "run" (spRun K C_State C_Accounts C_Store C_Sessions) [] := by
  have m_Accounts__clone := m_Accounts__clone (P := P) (w := w) (base := base) T
  have m_Store__clone := m_Store__clone (P := P) (w := w) (base := base) T
  have c_perform := c_perform (P := P) (w := w) (K := K) (base := base) T
  refine cal T.d_run sc_run (fun vs H Q E h => ?_) (fun f cdv A outer s H vs Q E hr h => ?_)
  · obtain ⟨q, l, L, m, se, c, ts, ss, rfl, _⟩ := h; rfl
  obtain ⟨q, l, L, m, se, c, ts, ss, rfl, es, ok, hc, hi, hl, ltl, hts, sok, out⟩ := h
  obtain ⟨dx, g⟩ := es.ins
  have out := Box.mk out
  have e0 : Str.empty.length = 0 := rfl
  have e1 : (Str.ofString "refused ").length = 8 := by decide
  have e2 : (Str.ofString " ").length = 1 := by decide
  have e3 : (Str.ofString " long").length = 5 := by decide
  have e4 : (Str.ofString ";").length = 1 := by decide
  have sl := sizeLine_eq
  refine ⟨_, (pss_cons (ps_set (i := 3) sc_run.nd rfl (Or.inl rfl) (pe_mt0 m_Accounts__clone hr (by decide) (pe_fld (pv 0) rfl)))
      (pss_cons (ps_set (i := 4) sc_run.nd rfl (Or.inl rfl) (pe_mt0 m_Store__clone hr (by decide) (pe_fld (pv 0) rfl)))
      (pss_cons (ps_set (i := 5) sc_run.nd rfl (Or.inl rfl) pe_str)
      (pss_cons (ps_for PassesOwn.never rfl (pi_enum (by rfl) T.z_enumerate (pa_cons (pv 2) pa_nil)) (pg_tup (by rfl) (pgs_cons (pg_name (i := 6) sc_run.nd rfl (Or.inl rfl)) (pgs_cons (pg_name (i := 7) sc_run.nd rfl (Or.inl rfl)) pgs_nil))) (pss_cons (ps_try_as (i := 9) (Wout := fun _ _ _ _ => False) rfl rfl sc_run.nd rfl rfl ⟨by rfl, by decide, .inl T.x_Refused.g⟩ takes0 (fun W pn xe tk po => (pss_one (ps_set (i := 8) sc_run.nd rfl (Or.inl rfl) (pe_cX c_perform hr (by omega) (by rfl) (fun σ => passAt tk σ) (pa_cons (pv 3) (pa_cons (pv 4) (pa_cons (pv 1) (pa_cons (pv 7) pa_nil)))))))) (fun a oe cls d pn hz hf => (pss_one (ps_ret (pe_joined (PJ.cons pe_str (PJ.cons (pe_fmt (pv 6)) (PJ.cons pe_str (PJ.cons (pe_fmt (pe_xf T.x_Refused.xf T.xn_Refused_reason hz hf (pv 9))) PJ.nil)))))))))
      (pss_cons (ps_set (i := 5) sc_run.nd rfl (Or.inl rfl) (pe_ifExp (pt_cmpR op_gt (pv 6) pe_int (nomark _)) (pe_joined (PJ.cons (pe_fmt (pv 5)) (PJ.cons pe_str (PJ.cons (pe_fmt (pv 8)) PJ.nil)))) (pv 8)))
      (pss_one (ps_if (pt_cmpR op_gt (pe_callB call_len_str (by rfl) T.z_len (by decide +kernel) (pa_cons (pv 5) pa_nil)) (pe_gc (by rfl) T.c_MOST_ANSWER) (nomark _)) (pss_one (ps_ret (pe_joined (PJ.cons pe_str (PJ.cons (pe_fmt (pv 6)) (PJ.cons pe_str PJ.nil)))))) pss_nil)))))
      (pss_cons (ps_fld (pv 0) (pv 3) rfl)
      (pss_cons (ps_fld (pv 0) (pv 4) rfl)
      (pss_one (ps_ret (pv 5))))))))), ?_⟩
  walk_at "rds"
  have aw := ok.aw es.as.ac es.as.hs
  refine ⟨q, C_State, dx, _, _, rfl, g, T.cl_State, T.na_State_accounts, rfl, ?_⟩
  obtain ⟨dxa, ga⟩ := es.as.ac.ins
  refine ⟨L.p, dxa, _, rfl, ga, rfl, ?_⟩
  walk_at "rds"
  (try delta tNil)
  refine ⟨L.p, L.n, L.b, L.h, L.he, m.1, rfl, aw, fun H1 p1 n1 b1 h1 s1 np nn nb nh at1 => ?_⟩
  walk_at "rds"
  refine ⟨q, C_State, dx, _, _, rfl, s1 _ _ g, T.cl_State, T.na_State_store, rfl, ?_⟩
  obtain ⟨dxs, gs⟩ := (es.as.st.on s1).ins
  refine ⟨L.ps, dxs, _, rfl, gs, rfl, ?_⟩
  walk_at "rds"
  (try delta tNil)
  refine ⟨L.ps, L.n2, L.a2, m.2, rfl, es.as.st.on s1, fun H2 p2 n2 a2 s2 np2 nn2 na2 st2 => ?_⟩
  have as2 : ASAt C_Accounts C_Store H2 p1 n1 b1 h1 p2 n2 a2 L.he m := ⟨at1.on s2, es.as.hs, st2, fun x mx my => by
    have e : H1 x = none := by
      simp only [List.mem_cons, List.not_mem_nil, or_false] at my
      rcases my with rfl | rfl | rfl
      · exact np2
      · exact nn2
      · exact na2
    exact (at1.lv x mx).1 e⟩
  have new2 : ∀ x ∈ [p1, n1, b1, h1, p2, n2, a2], H x = none := fun x mx => by
    simp only [List.mem_cons, List.not_mem_nil, or_false] at mx
    rcases mx with rfl | rfl | rfl | rfl | rfl | rfl | rfl
    · exact np
    · exact nn
    · exact nb
    · exact nh
    · exact same_none s1 np2
    · exact same_none s1 nn2
    · exact same_none s1 na2
  have s02 := s1.trans s2
  clear np nn nb nh at1 np2 nn2 na2 st2 s1 gs s2
  walk_at "rds"
  have lold : ∀ {x : Addr} {o : HO} {H' : Hp}, But [p1, n1, b1, h1, p2, n2, a2] H2 H' → H x = some o → H' x = some o := fun k e => k _ _ (fun mx => by rw [new2 _ mx] at e; cases e) (s02 _ _ e)
  refine ⟨l, _, rfl, sq (s02 _ _ hl), ?_⟩
  refine for_it (walk_enum (K := K) (a := l) (xs := ts.map V.ref)) (Pv := fun i σ H' => ∃ (y6 y7 y8 y9 : Option V) (ans : Str) (m1 : MM) (he1 : HE), σ = [some (.ref q), some (.int c), some (.ref l), some (.ref p1), some (.ref p2), some (.str ans), y6, y7, y8, y9] ∧ But [p1, n1, b1, h1, p2, n2, a2] H2 H' ∧ ASAt C_Accounts C_Store H' p1 n1 b1 h1 p2 n2 a2 he1 m1 ∧ MOk m1 ∧ ans.length ≤ 200 ∧ runR m c ss = goR c i ans m1 (ss.drop i)) ⟨_, _, _, _, Str.ofString "", m, L.he, rfl, Same.but fun _ _ e => e, as2, ok, by decide, by rw [List.drop_zero]; rfl⟩ (fun _ _ _ _ h => by obtain ⟨_, _, _, _, _, _, _, _, k, _⟩ := h; exact sq (lold k hl)) (fun i x σ H6 H7 hi6 hp hy => ?_) (fun σ H6 hp => ?_)
  · obtain ⟨y6, y7, y8, y9, ans, m1, he1, rfl, k6, as6, ok6, lans, er⟩ := hp
    obtain ⟨t, v1, v2, e1, e2, e3, e4, e5⟩ := hy
    subst e1
    subst e3
    have e5 : (ts.map V.ref)[i]? = some v2 := e5
    rw [List.getElem?_map] at e5
    rw [List.length_map] at hi6
    have hj : i < ss.length := by omega
    have gt : ts[i]? = some ts[i] := List.getElem?_eq_getElem hi6
    have gs : ss[i]? = some ss[i] := List.getElem?_eq_getElem hj
    have ex : v2 = .ref ts[i] := by rw [gt] at e5; exact (Option.some.inj e5).symm
    have ei : v1 = .int (i : Nat) := (Option.some.inj e4).symm
    subst ex
    subst ei
    have hst := hts i _ _ gt gs
    have sok1 := sok _ (List.getElem_mem hj)
    rw [List.drop_eq_getElem_cons hj, goR] at er
    have lg : ((i : Nat) : Int).natAbs.log2 < 1000 := log2_of_lt (by omega) (by have : (2:Nat) ^ 20 ≤ 2 ^ 1000 := Nat.pow_le_pow_right (by omega) (by omega); have : (2:Nat) ^ 20 = 1048576 := rfl; omega)
    have li := itx_len (i := ((i : Nat) : Int)) (k := 1000) (by omega) lg
    generalize ts[i] = tt at hst e2
    generalize ss[i] = sm at hst sok1 er
    have hT : H6 t = none := e2
    have s7 : Same H6 (upd H6 t (.tup [.int (i : Nat), .ref tt])) := same_upd hT
    have as7 := as6.on s7
    have k7 := k6.trans (Same.but s7)
    have hs7 := sqT_keep hst fun _ e => lold k7 e
    refine ⟨t, _, rfl, .inl (.inl upd_same), rfl, ?_⟩
    generalize upd H6 t (.tup [.int (i : Nat), .ref tt]) = H7 at s7 as7 k7 hs7 ⊢
    refine ⟨_, _, rfl, _, _, rfl, rfl, ?_⟩
    walk_at "rds"
    (try delta tNil)
    refine ⟨p1, n1, b1, h1, p2, n2, a2, tt, he1, m1, c, sm, rfl, as7, ok6, sok1, hs7, ?_⟩
    cases hr : stmR m1 c sm with
    | inl z =>
      rw [hr] at er
      intro H8 d8 s8 hd8
      refine ⟨true, T.x_Refused.exm T.u_Refused_Refused, fun _ a0 ha0 => ?_, fun z => nomatch z⟩
      walk_at "rds"
      have zl := stmR_rz hr
      refine .inr ⟨(i : Nat), rfl, by omega, _, rfl, by simp only [Str.length_append, e0, e1]; omega, ?_⟩
      refine ⟨_, rfl, by simp only [Str.length_append, e0, e1, e2]; omega, ?_⟩
      walk_at "rds"
      refine ⟨rfl, rfl, d8, _, .str z, rfl, hd8, rfl, .inl ⟨z, rfl, by omega, _, rfl, by simp only [Str.length_append, e0, e1, e2]; omega, ?_⟩⟩
      walk_at "rds"
      have out := out.un
      rw [er] at out
      exact out H8 (same_new s02 (k7.trans (Same.but s8)) new2)
    | inr r =>
      obtain ⟨res, m2⟩ := r
      rw [hr] at er
      dsimp only at er
      intro H8 he8 k8 ac8 hs8 st8
      obtain ⟨ok2, rl⟩ := stmR_ok ok6 sok1 hc hr
      have rl1 : res.length ≤ 1100 := rl
      walk_at "rds"
      have k9 : But [p1, n1, b1, h1, p2, n2, a2] H2 H8 := k7.trans k8
      by_cases hi0 : 0 < i
      · rw [if_pos hi0] at er
        refine ifT (decide_eq_true (by omega)) ?_
        walk_at "rds"
        refine .inl ⟨ans, rfl, by omega, _, rfl, by simp only [Str.length_append, e0]; omega, ?_⟩
        refine ⟨_, rfl, by simp only [Str.length_append, e0, e4]; omega, ?_⟩
        walk_at "rds"
        refine .inl ⟨res, rfl, by omega, _, rfl, by simp only [Str.length_append, e0, e4]; omega, ?_⟩
        walk_at "rds"
        have zl : (Str.empty ++ ans ++ Str.ofString ";" ++ res).length ≤ 1400 := by simp only [Str.length_append, e0, e4]; omega
        generalize Str.empty ++ ans ++ Str.ofString ";" ++ res = an2 at zl er ⊢
        refine ⟨by omega, ?_⟩
        walk_at "rds"
        by_cases h200 : 200 < an2.length
        · rw [if_pos h200] at er
          refine ifT (decide_eq_true (by omega)) ?_
          walk_at "rds"
          refine .inr ⟨(i : Nat), rfl, by omega, _, rfl, by simp only [Str.length_append, e0, e1]; omega, ?_⟩
          refine ⟨_, rfl, by simp only [Str.length_append, e0, e1, e3]; omega, ?_⟩
          have out := out.un
          rw [er] at out
          generalize Str.empty ++ Str.ofString "refused " ++ Str.ofString (toString ((i : Nat) : Int)) ++ Str.ofString " long" = zz at out ⊢
          exact out H8 (same_new s02 k9 new2)
        · rw [if_neg h200] at er
          refine ifF (decide_eq_false (by omega)) ?_
          exact ⟨_, _, _, _, an2, m2, he8, rfl, k9, ⟨ac8, hs8, st8, as2.ap⟩, ok2, by omega, er⟩
      · rw [if_neg hi0] at er
        refine ifF (decide_eq_false (by omega)) ?_
        walk_at "rds"
        by_cases h200 : 200 < res.length
        · rw [if_pos h200] at er
          refine ifT (decide_eq_true (by omega)) ?_
          walk_at "rds"
          refine .inr ⟨(i : Nat), rfl, by omega, _, rfl, by simp only [Str.length_append, e0, e1]; omega, ?_⟩
          refine ⟨_, rfl, by simp only [Str.length_append, e0, e1, e3]; omega, ?_⟩
          have out := out.un
          rw [er] at out
          generalize Str.empty ++ Str.ofString "refused " ++ Str.ofString (toString ((i : Nat) : Int)) ++ Str.ofString " long" = zz at out ⊢
          exact out H8 (same_new s02 k9 new2)
        · rw [if_neg h200] at er
          refine ifF (decide_eq_false (by omega)) ?_
          exact ⟨_, _, _, _, res, m2, he8, rfl, k9, ⟨ac8, hs8, st8, as2.ap⟩, ok2, by omega, er⟩
  · obtain ⟨y6, y7, y8, y9, ans, m1, he1, rfl, k6, as6, ok6, lans, er⟩ := hp
    rw [List.length_map, ltl, List.drop_length, goR] at er
    walk_at "rds"
    have q6 := lold k6 g
    refine ⟨q, C_State, dx, _, rfl, q6, T.cl_State, T.na_State_accounts, by show (3 : Nat) < 1000; decide, ?_⟩
    rw [esF_ac]
    walk_at "rds"
    refine ⟨q, C_State, dx, _, rfl, upd_same, T.cl_State, T.na_State_store, by show (3 : Nat) < 1000; decide, ?_⟩
    rw [esF_st]
    walk_at "rds"
    have out := out.un
    rw [er] at out
    have out : ∀ (H' : Hp) (L' : Loc), But [q] H H' → EsAt C_State C_Accounts C_Store C_Sessions H' q L' m1 se → MOk m1 → (∀ x ∈ L'.as, H x = none) → L'.pe = L.pe → L'.n3 = L.n3 → L'.a3 = L.a3 → Q (.str ans) H' := out
    refine out _ ⟨p1, n1, b1, h1, p2, n2, a2, L.pe, L.n3, L.a3, he1⟩ ?_ ?_ ok6 new2 rfl rfl rfl
    · intro x o nx ex
      rw [upd_ne (fun z => nx (by simp [z])), upd_ne (fun z => nx (by simp [z]))]
      exact lold k6 ex
    · have nq : ∀ x ∈ [p1, n1, b1, h1, p2, n2, a2], x ∉ [q] := fun x mx mq => by
        rw [List.mem_singleton.mp mq] at mx
        rw [new2 q mx] at g; cases g
      have kq : But [q] H6 (upd (upd H6 q (.ins C_State dx (esF p1 L.ps L.pe))) q (.ins C_State dx (esF p1 p2 L.pe))) := fun x o nx ex => by
        rw [upd_ne (fun z => nx (by simp [z])), upd_ne (fun z => nx (by simp [z]))]; exact ex
      have tq : ∀ x ∈ [q], ∀ xs, H6 x ≠ some (.tup xs) := fun x mx xs e => by
        rw [List.mem_singleton.mp mx, q6] at e; cases e
      obtain ⟨⟨dx3, g3⟩, h3, h4, h5⟩ := es.se
      have qn := es.qn.2
      have nss : ∀ x ∈ L.ss, x ∉ [q] := fun x mx mq => qn (by rw [← List.mem_singleton.mp mq]; exact mx)
      refine ⟨⟨dx, upd_same⟩, as6.bt kq nq tq, ⟨⟨dx3, kq _ _ (nss _ (by simp [Loc.ss])) (lold k6 g3)⟩, kq _ _ (nss _ (by simp [Loc.ss])) (lold k6 h3), kq _ _ (nss _ (by simp [Loc.ss])) (lold k6 h4), h5⟩, fun x mx my => ?_⟩
      have ex := new2 x mx
      have my : x ∈ [L.pe, L.n3, L.a3] := my
      simp only [List.mem_cons, List.not_mem_nil, or_false] at my
      rcases my with rfl | rfl | rfl
      · rw [ex] at g3; cases g3
      · rw [ex] at h3; cases h3
      · rw [ex] at h4; cases h4
end

section
variable {P : Program} {w : World} {K : PySem.W.Frag} {mg : Str → Option Value} {base : Heap}
theorem m_Sessions__remember {C_Accounts : Addr} {C_Sessions : Addr} {C_Store : Addr} {C_State : Addr} {C_BadText : Addr} {C_Refused : Addr} {C_BadCommand : Addr} {C_VERBS : Addr} (T : Txt K mg w C_Accounts C_Sessions C_Store C_State C_BadText C_Refused C_BadCommand C_VERBS) : MetX P w K mg base 3 C_Sessions "remember" (spSeRem C_Sessions C_BadCommand) := by
  have m_Sessions__last := m_Sessions__last (P := P) (w := w) (base := base) T
  have i_BadCommand := i_BadCommand (P := P) (w := w) (base := base) T
  refine metX T.cl_Sessions T.me_Sessions__remember sc_Sessions__remember (fun vs H Q E h => ?_) (fun f cdv A outer s H vs Q E hr h => ?_)
  · obtain ⟨p, n, a, ks, c, m, z, rfl, _⟩ := h; rfl
  obtain ⟨p, n, a, ks, c, m, z, rfl, se, hl, q, qe⟩ := h
  obtain ⟨⟨dx, g⟩, hn, ha, hna⟩ := id se
  refine ⟨_, (pss_cons (ps_if (pt_cmpR op_le (pv 2) (pe_mt m_Sessions__last hr (by decide) (pv 0) (pa_cons (pv 1) pa_nil)) (nomark _)) (pss_one (ps_raise rfl (takes_of rfl rfl rfl rfl) (pmk_ei i_BadCommand hr (by decide) (by rfl) (pa_cons pe_str (pa_cons pe_int pa_nil))))) pss_nil)
      (pss_cons (ps_dput (hu_of hr) (pe_fld (pv 0) rfl) (pv 1) (pv 2) rfl)
      (pss_one (ps_dput (hu_of hr) (pe_fld (pv 0) rfl) (pv 1) (pv 3) rfl)))), ?_⟩
  walk_at "rds"
  refine ⟨p, dx, _, rfl, g, rfl, ?_⟩
  walk_at "rds"
  refine ⟨p, n, a, ks, c, rfl, se, ?_⟩
  walk_at "rds"
  refine ite2 (fun e => ?_) (fun e => ?_)
  · have e : m ≤ seL ks c := of_decide_eq_true e
    walk_at "rds"
    exact mk_two fun H' d s1 _ hd => qe e H' d s1 hd
  · have e : ¬ m ≤ seL ks c := fun h => e (decide_eq_true h)
    have hnp : p ≠ n := ne_of g hn (by intro z; cases z)
    have hap : p ≠ a := ne_of g ha (by intro z; cases z)
    walk_at "rds"
    refine ⟨p, _, dx, _, _, rfl, g, T.cl_Sessions, T.na_Sessions__numbers, rfl, ?_⟩
    walk_at "rds"
    refine ⟨n, _, rfl, DPut.k (k := Sum.inl c) hn (by unfold numsD; rw [kvs_len]; exact sz1000' (by omega)), ?_⟩
    walk_at "rds"
    refine ⟨p, _, dx, _, _, rfl, (by rw [upd_ne hnp]; exact g), T.cl_Sessions, T.na_Sessions__answers, rfl, ?_⟩
    walk_at "rds"
    refine ⟨a, _, rfl, DPut.k (k := Sum.inl c) (by rw [upd_ne hna.symm]; exact ha) (by unfold ansD; rw [kvs_len]; exact sz1000' (by omega)), ?_⟩
    refine q (by omega) _ (fun b o n1 n2 e => by rw [upd_ne n2, upd_ne n1]; exact e) ⟨⟨dx, by rw [upd_ne hap, upd_ne hnp]; exact g⟩, ?_, ?_, hna⟩
    · rw [upd_ne hna, upd_same]
      unfold numsD
      rw [← pA_kvs inlI]
    · rw [upd_same]
      unfold ansD
      rw [← pA_kvs inlI]
end

/-! ### the text of a state -/
structure Sz (d : PyData) (k b : Nat) : Prop where
  ok : OkD d
  dp : dpD d ≤ k
  big : BigO d
  len : (txD d).length ≤ b
structure SzL (ds : List PyData) (k b : Nat) : Prop where
  ok : OkL ds
  dp : dpL ds ≤ k
  big : BigL ds
  len : ∀ acc, (txA acc ds).length ≤ acc.length + b
theorem Sz.mono {d : PyData} {k b k' b' : Nat} (h : Sz d k b) (hk : k ≤ k') (hb : b ≤ b') : Sz d k' b' := ⟨h.ok, Nat.le_trans h.dp hk, h.big, Nat.le_trans h.len hb⟩
theorem SzL.nil {k : Nat} : SzL [] k 0 := ⟨by rw [OkL]; trivial, by rw [dpL]; omega, by rw [BigL]; trivial, fun acc => by rw [txA]; omega⟩
theorem SzL.cons {d : PyData} {ds : List PyData} {k a b : Nat} (h : Sz d k a) (r : SzL ds k b) : SzL (d :: ds) k (a + b) := by
  refine ⟨by rw [OkL]; exact ⟨h.ok, r.ok⟩, by rw [dpL]; exact Nat.max_le.mpr ⟨h.dp, r.dp⟩, by rw [BigL]; exact ⟨h.big, r.big⟩, fun acc => ?_⟩
  rw [txA]
  have h1 := r.len (acc ++ txD d)
  have h2 := h.len
  rw [Str.length_append] at h1
  omega
theorem SzL.all {k b : Nat} : ∀ {ds : List PyData}, (∀ d ∈ ds, Sz d k b) → SzL ds k (b * ds.length)
  | [], _ => SzL.nil
  | d :: r, h => by
    have := SzL.cons (h d List.mem_cons_self) (SzL.all (ds := r) fun x m => h x (List.mem_cons_of_mem _ m))
    rw [List.length_cons, Nat.mul_succ, Nat.add_comm (b * r.length)]
    exact this
theorem hdr17 {n : Nat} (h : n ≤ 10000) : (hdr n).length ≤ 17 := by
  rw [hdr_eq, Str.length_append, Str.length_append]
  have lg : ((n : Int)).natAbs.log2 < 14 := log2_of_lt (by omega) (by have : (2:Nat) ^ 14 = 16384 := rfl; omega)
  have := itx_len (i := (n : Int)) (k := 14) (by omega) lg
  have e1 : (Str.ofString "t").length = 1 := by decide
  have e2 : (Str.ofString ":").length = 1 := by decide
  omega
theorem SzL.tup {ds : List PyData} {k b : Nat} (h : SzL ds k b) (hl : ds.length ≤ 10000) : Sz (.tuple ds) (k + 1) (17 + b) := by
  refine ⟨by rw [OkD]; exact h.ok, by rw [dpD]; have := h.dp; omega, by rw [BigO]; exact ⟨hl, h.big⟩, ?_⟩
  rw [txD]
  have := h.len (hdr ds.length)
  have := hdr17 hl
  omega
theorem SzL.tup9 {ds : List PyData} {k b : Nat} (h : SzL ds k b) (hl : ds.length ≤ 9) : Sz (.tuple ds) (k + 1) (3 + b) := by
  refine ⟨by rw [OkD]; exact h.ok, by rw [dpD]; have := h.dp; omega, by rw [BigO]; exact ⟨by omega, h.big⟩, ?_⟩
  rw [txD]
  have := h.len (hdr ds.length)
  have := hdr_small hl
  omega
theorem Sz.int {i : Int} {k n : Nat} (h0 : 0 < n) (hn : n ≤ 190) (h : i.natAbs < 2 ^ n) : Sz (.int i) k (n + 3) := by
  have h60 : i.natAbs < 10 ^ 60 := Nat.lt_of_lt_of_le h (Nat.le_trans (Nat.pow_le_pow_right (by omega) hn) (by decide))
  have hb : i.natAbs < 2 ^ 1000 := Nat.lt_of_lt_of_le h (Nat.pow_le_pow_right (by omega) (by omega))
  have ok : OkD (.int i) := by rw [OkD_sg rfl, sgT_int (few_yes h60)]; rfl
  refine ⟨ok, by rw [dpD_sg rfl]; omega, by rw [BigO]; exact hb, ?_⟩
  rw [txD_int ok, Str.length_append, Str.length_append]
  have := itx_len (i := i) (k := n) h0 (log2_of_lt h0 h)
  have e1 : (Str.ofString "i").length = 1 := by decide
  have e2 : (Str.ofString ";").length = 1 := by decide
  omega
theorem Sz.str {z : Str} {k l n : Nat} (h0 : 0 < n) (hp : isPr z = true) (hl : z.length ≤ l) (hn : l < 2 ^ n) : Sz (.str z) k (n + 3 + l) := by
  have ok : OkD (.str z) := by rw [OkD_sg rfl, sgT_str hp]; rfl
  refine ⟨ok, by rw [dpD_sg rfl]; omega, by rw [BigO] <;> simp, ?_⟩
  rw [txD_str ok, Str.length_append, Str.length_append, Str.length_append]
  have := itx_len (i := (z.length : Int)) (k := n) h0 (log2_of_lt h0 (by omega))
  have e1 : (Str.ofString "s").length = 1 := by decide
  have e2 : (Str.ofString ":").length = 1 := by decide
  omega
/-- what the sessions hold to -/
def SeOk (se : SD) : Prop := kOk se ∧ se.length ≤ 60 ∧ ∀ k ∈ se, k.1.natAbs ≤ 100 ∧ 0 ≤ k.2.1 ∧ k.2.1 ≤ 10 ^ 12 ∧ k.2.2.length ≤ 200 ∧ isPr k.2.2 = true
def rowsA (s : AS) : PyData := .tuple ((sortK s.ac).map (rowA s.ac))
def rowsH (s : AS) : PyData := .tuple ((sortK s.ho).map (rowH s.ho))
def rowsS (ks : ST) : PyData := .tuple ((sortK ks).map (srowD ks))
def rowsE (se : SD) (cs : List Int) : PyData := .tuple (cs.map (rowD se))
def stD (m : MM) (se : SD) (cs : List Int) : PyData := .tuple [.int m.1.su, rowsA m.1, rowsH m.1, rowsS m.2, rowsE se cs]
theorem sorted_one : ∀ {a b : List Int}, a.Perm b → a.Pairwise (· ≤ ·) → b.Pairwise (· ≤ ·) → a = b
  | [], b, p, _, _ => (List.nil_perm.mp p).symm
  | x :: a, [], p, _, _ => absurd (p.length_eq) (by simp)
  | x :: a, y :: b, p, ha, hb => by
    have hx : x ∈ y :: b := p.subset List.mem_cons_self
    have hy : y ∈ x :: a := p.symm.subset List.mem_cons_self
    rw [List.pairwise_cons] at ha hb
    have e : x = y := by
      rcases List.mem_cons.mp hx with h | h
      · exact h
      rcases List.mem_cons.mp hy with g | g
      · exact g.symm
      have := ha.1 y g
      have := hb.1 x h
      omega
    subst e
    rw [sorted_one (List.Perm.cons_inv p) ha.2 hb.2]
/-- the clients, in order -/
def sorI (l : List Int) : List Int := l.mergeSort fun a b => decide (a ≤ b)
theorem sorI_eq {l ys : List Int} (p : ys.Perm l) (s : ys.Pairwise (· ≤ ·)) : ys = sorI l := by
  refine sorted_one (p.trans (List.mergeSort_perm l _).symm) s ?_
  have := List.pairwise_mergeSort (le := fun a b : Int => decide (a ≤ b)) (fun a b c h k => decide_eq_true (Int.le_trans (of_decide_eq_true h) (of_decide_eq_true k))) (fun a b => by
    rcases Int.le_total a b with h | h
    · rw [decide_eq_true h]; rfl
    · rw [decide_eq_true h, Bool.or_true]) l
  exact this.imp fun h => of_decide_eq_true h
def stT (m : MM) (se : SD) : PyData := stD m se (sorI (se.map (·.1)))
theorem sz_rowA {s : AS} {m : Nat} (h : AInv s m) (nm : ANm s.ac) : ∀ d ∈ (sortK s.ac).map (rowA s.ac), Sz d 1 85 := fun d md => by
  obtain ⟨k, mk, rfl⟩ := List.mem_map.mp md
  obtain ⟨x, g, me⟩ := sortK_get h.ok mk
  obtain ⟨n1, n2⟩ := nm.2 _ me
  obtain ⟨b0, b1⟩ := bal_le h g
  have e : rowA s.ac k = .tuple [.str k, .int x.1, .int x.2] := by unfold rowA; rw [g]
  rw [e]
  have h1 := SzL.cons (Sz.str (k := 0) (l := 12) (n := 4) (by omega) n1.2 n1.1 (by omega)) (SzL.cons (Sz.int (k := 0) (n := 7) (by omega) (by omega) (show x.1.natAbs < 2 ^ 7 by have : (2:Nat) ^ 7 = 128 := rfl; have n2 : x.1.natAbs ≤ 100 := n2; omega)) (SzL.cons (Sz.int (k := 0) (n := 50) (by omega) (by omega) (show x.2.natAbs < 2 ^ 50 by have : (2:Nat) ^ 50 = 1125899906842624 := rfl; omega)) SzL.nil))
  exact (SzL.tup9 h1 (Nat.le_of_ble_eq_true rfl)).mono (by omega) (by omega)
theorem hold_le {s : AS} {m : Nat} (h : AInv s m) {n : Str} {x : Str × Str × Int} (g : gA s.ho n = some x) : 0 ≤ x.2.2 ∧ x.2.2 ≤ 1000000000000000 := by
  have h1 := h.sum
  have h2 := h.lim
  have h3 : 0 ≤ sB s.ac := sumI_nonneg fun y my => by
    obtain ⟨e, me, rfl⟩ := List.mem_map.mp my
    exact h.pos e me
  have h4 : x.2.2 ≤ sH s.ho := sumI_mem (fun y my => by
    obtain ⟨e, me, rfl⟩ := List.mem_map.mp my
    exact h.hpos e me) _ (List.mem_map.mpr ⟨_, gA_some g, rfl⟩)
  exact ⟨h.hpos _ (gA_some g), by omega⟩
theorem sz_rowH {s : AS} {m : Nat} (h : AInv s m) (nm : HNm s.ho) : ∀ d ∈ (sortK s.ho).map (rowH s.ho), Sz d 1 122 := fun d md => by
  obtain ⟨k, mk, rfl⟩ := List.mem_map.mp md
  obtain ⟨x, g, me⟩ := sortK_get h.okh mk
  obtain ⟨n1, n2, n3⟩ := nm.2 _ me
  obtain ⟨b0, b1⟩ := hold_le h g
  have e : rowH s.ho k = .tuple [.str k, .str x.1, .str x.2.1, .int x.2.2] := by unfold rowH; rw [g]
  rw [e]
  have h1 := SzL.cons (Sz.str (k := 0) (l := 20) (n := 5) (by omega) n1.2 n1.1 (by omega)) (SzL.cons (Sz.str (k := 0) (l := 12) (n := 4) (by omega) n2.2 n2.1 (by omega)) (SzL.cons (Sz.str (k := 0) (l := 12) (n := 4) (by omega) n3.2 n3.1 (by omega)) (SzL.cons (Sz.int (k := 0) (n := 50) (by omega) (by omega) (show x.2.2.natAbs < 2 ^ 50 by have : (2:Nat) ^ 50 = 1125899906842624 := rfl; omega)) SzL.nil)))
  exact (SzL.tup9 h1 (Nat.le_of_ble_eq_true rfl)).mono (by omega) (by omega)
theorem sz_rowS {ks : ST} (h : SOk ks) : ∀ d ∈ (sortK ks).map (srowD ks), Sz d 1 90 := fun d md => by
  obtain ⟨k, mk, rfl⟩ := List.mem_map.mp md
  obtain ⟨x, g, me⟩ := sortK_get h.1 mk
  obtain ⟨n1, n2, n3⟩ := h.2.2 _ me
  rw [srow_some g]
  have h1 := SzL.cons (Sz.str (k := 0) (l := 20) (n := 5) (by omega) n1.2 n1.1 (by omega)) (SzL.cons (Sz.int (k := 0) (n := 7) (by omega) (by omega) (show x.1.natAbs < 2 ^ 7 by have : (2:Nat) ^ 7 = 128 := rfl; have n3 : x.1.natAbs ≤ 100 := n3; omega)) (SzL.cons (Sz.str (k := 0) (l := 40) (n := 6) (by omega) n2.2 n2.1 (by omega)) SzL.nil))
  exact (SzL.tup9 h1 (Nat.le_of_ble_eq_true rfl)).mono (by omega) (by omega)
theorem sz_rowE {se : SD} (h : SeOk se) {cs : List Int} (hc : ∀ c ∈ cs, c ∈ se.map (·.1)) : ∀ d ∈ cs.map (rowD se), Sz d 1 267 := fun d md => by
  obtain ⟨c, mc, rfl⟩ := List.mem_map.mp md
  obtain ⟨e, me, rfl⟩ := List.mem_map.mp (hc c mc)
  obtain ⟨n1, n2, n3, n4, n5⟩ := h.2.2 _ me
  have g := gA_mem h.1 me
  have e1 : rowD se e.1 = .tuple [.int e.1, .int e.2.1, .str e.2.2] := by unfold rowD seL seA; rw [g]; rfl
  rw [e1]
  have h1 := SzL.cons (Sz.int (k := 0) (n := 7) (by omega) (by omega) (show e.1.natAbs < 2 ^ 7 by have : (2:Nat) ^ 7 = 128 := rfl; omega)) (SzL.cons (Sz.int (k := 0) (n := 40) (by omega) (by omega) (show e.2.1.natAbs < 2 ^ 40 by have : (2:Nat) ^ 40 = 1099511627776 := rfl; omega)) (SzL.cons (Sz.str (k := 0) (l := 200) (n := 8) (by omega) n5 n4 (by omega)) SzL.nil))
  exact (SzL.tup9 h1 (Nat.le_of_ble_eq_true rfl)).mono (by omega) (by omega)
theorem sorI_mem {l : List Int} {x : Int} (h : x ∈ sorI l) : x ∈ l := (List.mergeSort_perm l _).mem_iff.mp h
theorem sorI_len (l : List Int) : (sorI l).length = l.length := List.length_mergeSort l
theorem su_le {s : AS} {m : Nat} (h : AInv s m) : 0 ≤ s.su ∧ s.su ≤ 1000000000000000 := by
  have h1 := h.sum
  have h2 := h.lim
  have h3 : 0 ≤ sB s.ac := sumI_nonneg fun y my => by
    obtain ⟨e, me, rfl⟩ := List.mem_map.mp my
    exact h.pos e me
  have h4 : 0 ≤ sH s.ho := sumI_nonneg fun y my => by
    obtain ⟨e, me, rfl⟩ := List.mem_map.mp my
    exact h.hpos e me
  exact ⟨by omega, h2⟩
theorem Sz_stT {m : MM} {se : SD} (h : MOk m) (k : SeOk se) : Sz (stT m se) 3 60000 := by
  obtain ⟨u0, u1⟩ := su_le h.ac
  have a1 := (SzL.all (sz_rowA h.ac h.an)).tup (by rw [List.length_map, sortK_len]; have := h.an.1; omega)
  have a2 := (SzL.all (sz_rowH h.ac h.hn)).tup (by rw [List.length_map, sortK_len]; have := h.hn.1; omega)
  have a3 := (SzL.all (sz_rowS h.st)).tup (by rw [List.length_map, sortK_len]; have := h.st.2.1; omega)
  have a4 := (SzL.all (sz_rowE k fun c => sorI_mem)).tup (by rw [List.length_map, sorI_len, List.length_map]; have := k.2.1; omega)
  rw [List.length_map, sortK_len] at a1 a2 a3
  rw [List.length_map, sorI_len, List.length_map] at a4
  have l1 := h.an.1
  have l2 := h.hn.1
  have l3 := h.st.2.1
  have l4 := k.2.1
  have h1 := SzL.cons (Sz.int (k := 2) (n := 50) (by omega) (by omega) (show m.1.su.natAbs < 2 ^ 50 by have : (2:Nat) ^ 50 = 1125899906842624 := rfl; omega)) (SzL.cons a1 (SzL.cons a2 (SzL.cons a3 (SzL.cons a4 SzL.nil))))
  exact (SzL.tup9 h1 (Nat.le_of_ble_eq_true rfl)).mono (by omega) (by omega)

theorem made_none {H : Hp} {x dx a : Addr} {o1 o2 : HO} (h : upd (upd H dx o1) x o2 a = none) : H a = none := by
  by_cases e : a = x
  · rw [e, upd_same] at h; cases h
  rw [upd_ne e] at h
  by_cases e2 : a = dx
  · rw [e2, upd_same] at h; cases h
  rw [upd_ne e2] at h; exact h
section
variable {P : Program} {w : World} {K : PySem.W.Frag} {mg : Str → Option Value} {base : Heap}
def spSTx (G C D S : Addr) : Sp := fun vs H Q _ => ∃ (q : Addr) (L : Loc) (m : MM) (se : SD), vs = [.ref q] ∧ EsAt G C D S H q L m se ∧ MOk m ∧ SeOk se ∧ ∀ H', Same H H' → Q (.str (txD (stT m se))) H'
theorem c_state_text {C_Accounts : Addr} {C_Sessions : Addr} {C_Store : Addr} {C_State : Addr} {C_BadText : Addr} {C_Refused : Addr} {C_BadCommand : Addr} {C_VERBS : Addr} (T : Txt K mg w C_Accounts C_Sessions C_Store C_State C_BadText C_Refused C_BadCommand C_VERBS) : CalX P w K mg base 32 "state_text" (spSTx C_State C_Accounts C_Store C_Sessions) := by
  have m_Accounts__rows := m_Accounts__rows (P := P) (w := w) (K := K) (base := base) T
  have m_Accounts__held := m_Accounts__held (P := P) (w := w) (K := K) (base := base) T
  have m_Accounts__supply := m_Accounts__supply (P := P) (w := w) (base := base) T
  have m_Store__rows := m_Store__rows (P := P) (w := w) (K := K) (base := base) T
  have m_Sessions__rows := m_Sessions__rows (P := P) (w := w) (K := K) (base := base) T
  have c_encode := c_encode (P := P) (w := w) (K := K) (base := base) T none
  refine calX T.d_state_text sc_state_text (fun vs H Q E h => ?_) (fun f cdv A outer s H vs Q E hr h => ?_)
  · obtain ⟨q, L, m, se, rfl, _⟩ := h; rfl
  obtain ⟨q, L, m, se, rfl, es, ok, so, out⟩ := h
  obtain ⟨dx, g⟩ := es.ins
  refine ⟨_, (pss_cons (ps_set (i := 1) sc_state_text.nd rfl (Or.inl rfl) (pe_callTy call_tuple_of (by rfl) T.z_tuple (by decide +kernel) (pa_cons (pe_mt0 m_Accounts__rows hr (by decide) (pe_fld (pv 0) rfl)) pa_nil)))
      (pss_cons (ps_set (i := 2) sc_state_text.nd rfl (Or.inl rfl) (pe_callTy call_tuple_of (by rfl) T.z_tuple (by decide +kernel) (pa_cons (pe_mt0 m_Accounts__held hr (by decide) (pe_fld (pv 0) rfl)) pa_nil)))
      (pss_cons (ps_set (i := 3) sc_state_text.nd rfl (Or.inl rfl) (pe_callTy call_tuple_of (by rfl) T.z_tuple (by decide +kernel) (pa_cons (pe_mt0 m_Store__rows hr (by decide) (pe_fld (pv 0) rfl)) pa_nil)))
      (pss_cons (ps_set (i := 4) sc_state_text.nd rfl (Or.inl rfl) (pe_callTy call_tuple_of (by rfl) T.z_tuple (by decide +kernel) (pa_cons (pe_mt0 m_Sessions__rows hr (by decide) (pe_fld (pv 0) rfl)) pa_nil)))
      (pss_cons (ps_set (i := 5) sc_state_text.nd rfl (Or.inl rfl) (pe_cX c_encode hr (by omega) (by rfl) (fun σ => passAt (takes_of rfl rfl rfl rfl) σ) (pa_cons (pe_tup (pa_cons (pe_mt0 m_Accounts__supply hr (by decide) (pe_fld (pv 0) rfl)) (pa_cons (pv 1) (pa_cons (pv 2) (pa_cons (pv 3) (pa_cons (pv 4) pa_nil)))))) pa_nil)))
      (pss_cons (ps_if (pt_cmpR op_gt (pe_callB call_len_str (by rfl) T.z_len (by decide +kernel) (pa_cons (pv 5) pa_nil)) (pe_gc (by rfl) T.c_MOST_STATE) (nomark _)) (pss_one (ps_raise rfl (takes_of rfl rfl rfl rfl) (pmk_ok T.x_BadText (by rfl)))) pss_nil)
      (pss_one (ps_ret (pv 5))))))))), ?_⟩
  walk_at "rds"
  have aw := ok.aw es.as.ac es.as.hs
  obtain ⟨dxa, ga⟩ := es.as.ac.ins
  refine ⟨q, C_State, dx, _, _, rfl, g, T.cl_State, T.na_State_accounts, rfl, ?_⟩
  refine ⟨L.p, dxa, _, rfl, ga, rfl, ?_⟩
  walk_at "rds"
  (try delta tNil)
  refine ⟨L.p, L.n, L.b, L.h, L.he, m.1, rfl, aw, ok.ac.sh, fun xs1 H1 r1 s1 nr1 hr1 dt1 => ?_⟩
  walk_at "rds"
  (try delta tNil)
  refine ⟨r1, _, rfl, .inl ⟨sq hr1, fun t1 nt1 => ?_⟩⟩
  have u1 := same_upd (o := .tup xs1) nt1
  have tt1 : upd H1 t1 (.tup xs1) t1 = some (.tup xs1) := upd_same
  have dt1 := DtAll.same u1 _ _ dt1
  generalize upd H1 t1 (.tup xs1) = G1 at u1 tt1 dt1 ⊢
  walk_at "rds"
  have v1 := s1.trans u1
  refine ⟨q, C_State, dx, _, _, rfl, v1 _ _ g, T.cl_State, T.na_State_accounts, rfl, ?_⟩
  refine ⟨L.p, dxa, _, rfl, v1 _ _ ga, rfl, ?_⟩
  walk_at "rds"
  (try delta tNil)
  refine ⟨L.p, L.n, L.b, L.h, L.he, m.1, rfl, ok.aw (es.as.ac.on v1) es.as.hs, ok.ac.okh, ok.ac.sh, fun xs2 H2 r2 s2 nr2 hr2 dt2 => ?_⟩
  walk_at "rds"
  (try delta tNil)
  refine ⟨r2, _, rfl, .inl ⟨sq hr2, fun t2 nt2 => ?_⟩⟩
  have u2 := same_upd (o := .tup xs2) nt2
  have tt2 : upd H2 t2 (.tup xs2) t2 = some (.tup xs2) := upd_same
  have dt2 := DtAll.same u2 _ _ dt2
  generalize upd H2 t2 (.tup xs2) = G2 at u2 tt2 dt2 ⊢
  walk_at "rds"
  have v2 := (v1.trans s2).trans u2
  obtain ⟨dxs, gs⟩ := es.as.st.ins
  refine ⟨q, C_State, dx, _, _, rfl, v2 _ _ g, T.cl_State, T.na_State_store, rfl, ?_⟩
  refine ⟨L.ps, dxs, _, rfl, v2 _ _ gs, rfl, ?_⟩
  walk_at "rds"
  (try delta tNil)
  have l200 := ok.st.2.1
  refine ⟨L.ps, L.n2, L.a2, m.2, rfl, es.as.st.on v2, by omega, ok.st.1, fun k mk => ?_, fun xs3 H3 r3 s3 nr3 hr3 dt3 => ?_⟩
  · obtain ⟨k1, k2, _⟩ := ok.st.2.2 k mk
    exact ⟨Nat.le_trans k1.1 (by decide), Nat.le_trans k2.1 (by decide), strOk_pr k1.2, strOk_pr k2.2⟩
  walk_at "rds"
  (try delta tNil)
  refine ⟨r3, _, rfl, .inl ⟨sq hr3, fun t3 nt3 => ?_⟩⟩
  have u3 := same_upd (o := .tup xs3) nt3
  have tt3 : upd H3 t3 (.tup xs3) t3 = some (.tup xs3) := upd_same
  have dt3 := DtAll.same u3 _ _ dt3
  generalize upd H3 t3 (.tup xs3) = G3 at u3 tt3 dt3 ⊢
  walk_at "rds"
  have v3 := (v2.trans s3).trans u3
  obtain ⟨⟨dxe, ge⟩, ge2, ge3, ge4⟩ := es.se
  refine ⟨q, C_State, dx, _, _, rfl, v3 _ _ g, T.cl_State, T.na_State_sessions, rfl, ?_⟩
  refine ⟨L.pe, dxe, _, rfl, v3 _ _ ge, rfl, ?_⟩
  walk_at "rds"
  (try delta tNil)
  have l60 := so.2.1
  refine ⟨L.pe, L.n3, L.a3, se, rfl, es.se.on v3, by omega, so.1, fun k mk => Nat.le_trans (so.2.2 k mk).2.2.2.1 (by decide), fun ys xs4 H4 r4 pm sd s4 nr4 hr4 dt4 => ?_⟩
  rw [sorI_eq pm sd] at dt4
  walk_at "rds"
  (try delta tNil)
  refine ⟨r4, _, rfl, .inl ⟨sq hr4, fun t4 nt4 => ?_⟩⟩
  have u4 := same_upd (o := .tup xs4) nt4
  have tt4 : upd H4 t4 (.tup xs4) t4 = some (.tup xs4) := upd_same
  have dt4 := DtAll.same u4 _ _ dt4
  generalize upd H4 t4 (.tup xs4) = G4 at u4 tt4 dt4 ⊢
  walk_at "rds"
  have v4 := (v3.trans s4).trans u4
  refine ⟨q, C_State, dx, _, _, rfl, v4 _ _ g, T.cl_State, T.na_State_accounts, rfl, ?_⟩
  refine ⟨L.p, dxa, _, rfl, v4 _ _ ga, rfl, ?_⟩
  walk_at "rds"
  (try delta tNil)
  refine ⟨L.p, L.n, L.b, L.h, L.he, m.1, rfl, ok.aw (es.as.ac.on v4) es.as.hs, ?_⟩
  walk_at "rds"
  intro t5 nt5
  have u5 := same_upd (o := .tup [V.int m.1.su, V.ref t1, V.ref t2, V.ref t3, V.ref t4]) nt5
  have tt5 : upd G4 t5 (.tup [V.int m.1.su, V.ref t1, V.ref t2, V.ref t3, V.ref t4]) t5 = some (.tup [V.int m.1.su, V.ref t1, V.ref t2, V.ref t3, V.ref t4]) := upd_same
  have w3 := (s4.trans u4).trans u5
  have w2 := (s3.trans u3).trans w3
  have w1 := (s2.trans u2).trans w2
  have dd : Dt K (upd G4 t5 (.tup [V.int m.1.su, V.ref t1, V.ref t2, V.ref t3, V.ref t4])) none (.ref t5) (stT m se) :=
    .tup (.inl tt5) (.cons (.int _) (.cons (.tup (.inl (w1 _ _ tt1)) (DtAll.same w1 _ _ dt1)) (.cons (.tup (.inl (w2 _ _ tt2)) (DtAll.same w2 _ _ dt2)) (.cons (.tup (.inl (w3 _ _ tt3)) (DtAll.same w3 _ _ dt3)) (.cons (.tup (.inl (u5 _ _ tt4)) (DtAll.same u5 _ _ dt4)) .nil)))))
  have v5 := v4.trans u5
  generalize upd G4 t5 (.tup [V.int m.1.su, V.ref t1, V.ref t2, V.ref t3, V.ref t4]) = G5 at dd v5 ⊢
  have sz := Sz_stT ok so
  have szl := sz.len
  have en := encT_ok (stT m se) 12 100000 sz.ok (Nat.le_trans sz.dp (by decide)) (by omega)
  walk_at "rds"
  (try delta tNil)
  refine ⟨_, stT m se, rfl, dd, sz.big, fun z ez H6 s6 => ?_, fun ez => by rw [en] at ez; cases ez⟩
  rw [en] at ez
  obtain rfl := Option.some.inj ez
  have sl := sizeLine_eq
  generalize txD (stT m se) = zz at szl out ⊢
  walk_at "rds"
  refine ifF (decide_eq_false (by omega)) ?_
  walk_at "rds"
  exact out _ (v5.trans s6)
/-- a new state -/
def spEsInit (G C D S : Addr) : Sp := fun vs H Q _ => ∃ (p dx : Addr), vs = [.ref p] ∧ H p = some (.ins G dx []) ∧
  ∀ (H' : Hp) (L : Loc), (∀ c o, H c = some o → c ≠ p → H' c = some o) → EsAt G C D S H' p L (⟨[], [], 0⟩, []) [] → (∀ x ∈ L.as ++ L.ss, H x = none) → Q .non H'
theorem k_State {C_Accounts : Addr} {C_Sessions : Addr} {C_Store : Addr} {C_State : Addr} {C_BadText : Addr} {C_Refused : Addr} {C_BadCommand : Addr} {C_VERBS : Addr} (T : Txt K mg w C_Accounts C_Sessions C_Store C_State C_BadText C_Refused C_BadCommand C_VERBS) : Mak P w K mg base 3 "State" C_State (spEsInit C_State C_Accounts C_Store C_Sessions) [] := by
  have k_Accounts := k_Accounts (P := P) (w := w) (base := base) T
  have k_Store := k_Store (P := P) (w := w) (base := base) T
  have k_Sessions := k_Sessions (P := P) (w := w) (base := base) T
  refine mak T.g_State T.mk_State sc_State____init__ (fun vs H Q E h => ?_) (fun f cdv A outer s H vs Q E hr h => ?_)
  · obtain ⟨p, dx, rfl, _⟩ := h; rfl
  obtain ⟨p, dx, rfl, hp, out⟩ := h
  have fresh : ∀ {H3 : Hp} {x : Addr}, (∀ c o, H c = some o → c ≠ p → H3 c = some o) → (∃ o, H3 p = some o) → H3 x = none → H x = none := fun {H3 x} k e z => by
    have n : x ≠ p := fun y => by obtain ⟨o, e⟩ := e; rw [y, e] at z; cases z
    cases hx : H x with
    | none => rfl
    | some o => rw [k x o hx n] at z; cases z
  have npp : ∀ {x : Addr}, H x = none → x ≠ p := fun h z => by rw [z, hp] at h; cases h
  refine ⟨_, (pss_cons (ps_fld (pv 0) (pe_mk0 k_Accounts hr (by decide) (by rfl)) rfl)
      (pss_cons (ps_fld (pv 0) (pe_mk0 k_Store hr (by decide) (by rfl)) rfl)
      (pss_one (ps_fld (pv 0) (pe_mk0 k_Sessions hr (by decide) (by rfl)) rfl)))), ?_⟩
  walk_at "rds"
  (try delta tNil)
  intro x1 d1 hx1 hd1 ne1
  refine ⟨x1, d1, rfl, upd_same, fun H1 n b h kp hn hb hh a1 => ⟨rfl, ?_⟩⟩
  have s1 : Same H H1 := Same.made hx1 hd1 kp
  have hn := made_none hn
  have hb := made_none hb
  have hh := made_none hh
  clear kp ne1 hd1
  walk_at "rds"
  refine ⟨p, C_State, dx, _, rfl, s1 _ _ hp, T.cl_State, T.na_State_accounts, by decide, ?_⟩
  have k2 : ∀ c o, H c = some o → c ≠ p → upd H1 p (.ins C_State dx (putF "accounts" (.ref x1) [])) c = some o := fun c o e n => by rw [upd_ne n]; exact s1 _ _ e
  have p2 : upd H1 p (.ins C_State dx (putF "accounts" (.ref x1) [])) p = some (.ins C_State dx (putF "accounts" (.ref x1) [])) := upd_same
  have a2 : AcAt C_Accounts (upd H1 p (.ins C_State dx (putF "accounts" (.ref x1) []))) x1 n b h [] [] 0 := a1.bt (S := [p]) (but_upd (by simp)) (fun x mx mp => by
    have mp := List.mem_singleton.mp mp
    simp only [List.mem_cons, List.not_mem_nil, or_false] at mx
    rcases mx with rfl | rfl | rfl | rfl
    · exact npp hx1 mp
    · exact npp hn mp
    · exact npp hb mp
    · exact npp hh mp) (fun x mx xs e => by rw [List.mem_singleton.mp mx, s1 _ _ hp] at e; cases e)
  generalize upd H1 p (.ins C_State dx (putF "accounts" (.ref x1) [])) = H2 at k2 p2 a2 ⊢
  walk_at "rds"
  intro x3 d3 hx3 hd3 ne3
  refine ⟨x3, d3, rfl, upd_same, fun H3 n2 av kp3 hn3 ha3 t3 => ⟨rfl, ?_⟩⟩
  have s3 : Same H2 H3 := Same.made hx3 hd3 kp3
  have hn3 := made_none hn3
  have ha3 := made_none ha3
  clear kp3 ne3 hd3
  walk_at "rds"
  refine ⟨p, C_State, dx, _, rfl, s3 _ _ p2, T.cl_State, T.na_State_store, by show (1 : Nat) < 1000; decide, ?_⟩
  have fx3 := fresh k2 ⟨_, p2⟩ hx3
  have fn3 := fresh k2 ⟨_, p2⟩ hn3
  have fa3 := fresh k2 ⟨_, p2⟩ ha3
  have k4 : ∀ c o, H c = some o → c ≠ p → upd H3 p (.ins C_State dx (putF "store" (.ref x3) (putF "accounts" (.ref x1) []))) c = some o := fun c o e n => by rw [upd_ne n]; exact s3 _ _ (k2 c o e n)
  have p4 : upd H3 p (.ins C_State dx (putF "store" (.ref x3) (putF "accounts" (.ref x1) []))) p = some (.ins C_State dx (putF "store" (.ref x3) (putF "accounts" (.ref x1) []))) := upd_same
  have bp : But [p] H3 (upd H3 p (.ins C_State dx (putF "store" (.ref x3) (putF "accounts" (.ref x1) [])))) := but_upd (by simp)
  have tp : ∀ x ∈ [p], ∀ xs, H3 x ≠ some (.tup xs) := fun x mx xs e => by rw [List.mem_singleton.mp mx, s3 _ _ p2] at e; cases e
  have np1 : ∀ x ∈ [x1, n, b, h], x ∉ [p] := fun x mx mp => by
    have mp := List.mem_singleton.mp mp
    simp only [List.mem_cons, List.not_mem_nil, or_false] at mx
    rcases mx with rfl | rfl | rfl | rfl
    · exact npp hx1 mp
    · exact npp hn mp
    · exact npp hb mp
    · exact npp hh mp
  have np3 : ∀ x ∈ [x3, n2, av], x ∉ [p] := fun x mx mp => by
    have mp := List.mem_singleton.mp mp
    simp only [List.mem_cons, List.not_mem_nil, or_false] at mx
    rcases mx with rfl | rfl | rfl
    · exact npp fx3 mp
    · exact npp fn3 mp
    · exact npp fa3 mp
  have ap4 : ∀ x ∈ [x1, n, b, h], x ∉ [x3, n2, av] := fun x mx my => by
    have e : H2 x = none := by
      simp only [List.mem_cons, List.not_mem_nil, or_false] at my
      rcases my with rfl | rfl | rfl
      · exact hx3
      · exact hn3
      · exact ha3
    exact (a2.lv x mx).1 e
  have as4 : ASAt C_Accounts C_Store (upd H3 p (.ins C_State dx (putF "store" (.ref x3) (putF "accounts" (.ref x1) [])))) x1 n b h x3 n2 av [] (⟨[], [], 0⟩, []) :=
    ⟨(a2.on s3).bt bp np1 tp, rfl, t3.bt bp np3, ap4⟩
  generalize upd H3 p (.ins C_State dx (putF "store" (.ref x3) (putF "accounts" (.ref x1) []))) = H4 at k4 p4 as4 ⊢
  clear a1 a2 t3 bp tp s3 p2
  walk_at "rds"
  intro x5 d5 hx5 hd5 ne5
  refine ⟨x5, d5, rfl, upd_same, fun H5 n5 a5 kp5 hn5 ha5 t5 => ⟨rfl, ?_⟩⟩
  have s5 : Same H4 H5 := Same.made hx5 hd5 kp5
  have hn5 := made_none hn5
  have ha5 := made_none ha5
  clear kp5 ne5 hd5
  walk_at "rds"
  refine ⟨p, C_State, dx, _, rfl, s5 _ _ p4, T.cl_State, T.na_State_sessions, by show (2 : Nat) < 1000; decide, ?_⟩
  have fx5 := fresh k4 ⟨_, p4⟩ hx5
  have fn5 := fresh k4 ⟨_, p4⟩ hn5
  have fa5 := fresh k4 ⟨_, p4⟩ ha5
  have bp : But [p] H5 (upd H5 p (.ins C_State dx (esF x1 x3 x5))) := but_upd (by simp)
  have tp : ∀ x ∈ [p], ∀ xs, H5 x ≠ some (.tup xs) := fun x mx xs e => by rw [List.mem_singleton.mp mx, s5 _ _ p4] at e; cases e
  refine out _ ⟨x1, n, b, h, x3, n2, av, x5, n5, a5, []⟩ (fun c o e n => by rw [upd_ne n]; exact s5 _ _ (k4 c o e n)) ⟨⟨dx, upd_same⟩, (as4.on s5).bt bp (fun x mx => ?_) tp, ?_, fun x mx my => ?_⟩ (fun x mx => ?_)
  · rcases List.mem_append.mp (show x ∈ [x1, n, b, h] ++ [x3, n2, av] from mx) with k | k
    · exact np1 x k
    · exact np3 x k
  · obtain ⟨⟨dx5, g1⟩, g2, g3, g4⟩ := t5
    have q : ∀ {x : Addr}, H x = none → x ∉ [p] := fun h m => npp h (List.mem_singleton.mp m)
    exact ⟨⟨dx5, bp _ _ (q fx5) g1⟩, bp _ _ (q fn5) g2, bp _ _ (q fa5) g3, g4⟩
  · have e : H4 x = none := by
      have my : x ∈ [x5, n5, a5] := my
      simp only [List.mem_cons, List.not_mem_nil, or_false] at my
      rcases my with rfl | rfl | rfl
      · exact hx5
      · exact hn5
      · exact ha5
    exact (as4.lv x mx).1 e
  · have mx : x ∈ [x1, n, b, h, x3, n2, av] ++ [x5, n5, a5] := mx
    simp only [List.mem_append, List.mem_cons, List.not_mem_nil, or_false] at mx
    rcases mx with (rfl | rfl | rfl | rfl | rfl | rfl | rfl) | rfl | rfl | rfl
    · exact hx1
    · exact hn
    · exact hb
    · exact hh
    · exact fx3
    · exact fn3
    · exact fa3
    · exact fx5
    · exact fn5
    · exact fa5
def spEsClone (G C D S : Addr) : Sp := fun vs H Q _ => ∃ (q : Addr) (L : Loc) (m : MM) (se : SD), vs = [.ref q] ∧ EsAt G C D S H q L m se ∧ MOk m ∧
  ∀ H' q' L', Same H H' → H q' = none → (∀ x ∈ L'.as ++ L'.ss, H x = none) → EsAt G C D S H' q' L' m se → Q (.ref q') H'
end

/-! ### what is parsed is one of the sixteen statements -/
theorem dv_lt : ∀ (n : Nat) (l : List Nat), l.length = n → PySem.NumText.AllDigits l → PySem.NumText.digitsVal l < 10 ^ n := by
  intro n
  induction n with
  | zero => intro l h _; rw [List.length_eq_zero_iff.mp h]; decide
  | succ n ih =>
    intro l h a
    rcases List.eq_nil_or_concat l with rfl | ⟨r, c, rfl⟩
    · cases h
    · rw [List.concat_eq_append] at h a ⊢
      rw [digitsVal_snoc]
      rw [List.length_append] at h
      have h1 := ih r (by simpa using h) (fun d m => a d (List.mem_append_left _ m))
      have hc := a c (List.mem_append_right _ (by simp))
      have : 10 ^ (n + 1) = 10 ^ n * 10 := Nat.pow_succ 10 n
      omega
theorem str_len {l : List Nat} : (⟨l.toArray⟩ : Str).length = l.length := rfl
theorem fit_nm {l : List Nat} (h : kindOk "name" l = true) : nmOk ⟨l.toArray⟩ := by
  have h : nmL l = true := h
  unfold nmL at h
  rw [Bool.and_eq_true, Bool.and_eq_true] at h
  have h1 := of_decide_eq_true h.1.2
  refine ⟨by rw [str_len]; omega, isPr_iff.mpr fun c m => ?_⟩
  have m : c ∈ l := by simpa using m
  have := of_decide_eq_true (List.all_eq_true.mp h.2 c m)
  exact (show ∀ d ∈ lettersL, 32 ≤ d ∧ d ≤ 126 ∧ d ≠ 37 by decide +kernel) c this
theorem fit_ky {l : List Nat} (h : kindOk "key" l = true) : kyOk ⟨l.toArray⟩ := by
  have h : kyL l = true := h
  unfold kyL at h
  rw [Bool.and_eq_true, Bool.and_eq_true] at h
  have h1 := of_decide_eq_true h.1.2
  refine ⟨by rw [str_len]; omega, isPr_iff.mpr fun c m => ?_⟩
  have m : c ∈ l := by simpa using m
  have := of_decide_eq_true (List.all_eq_true.mp h.2 c m)
  exact (show ∀ d ∈ keysL, 32 ≤ d ∧ d ≤ 126 ∧ d ≠ 37 by decide +kernel) c this
theorem fit_vl {l : List Nat} (h : kindOk "value" l = true) : vlOk ⟨l.toArray⟩ := by
  have h : vlL l = true := h
  unfold vlL at h
  rw [Bool.and_eq_true, Bool.and_eq_true] at h
  have h2 := h.2
  rw [Bool.and_eq_true] at h2
  have h1 := of_decide_eq_true h2.2
  refine ⟨by rw [str_len]; omega, ?_⟩
  show l.all prC = true
  exact h2.1
theorem fit_am {l : List Nat} (h : kindOk "amount" l = true) : dvL l < 10 ^ 12 := by
  have h : amL l = true := h
  unfold amL at h
  rw [Bool.and_eq_true] at h
  have h1 := of_decide_eq_true h.1
  obtain ⟨_, d2, _⟩ := dcL_iff.mp h.2
  have := dv_lt l.length l rfl d2
  have : 10 ^ l.length ≤ 10 ^ 12 := Nat.pow_le_pow_right (by omega) (by omega)
  show PySem.NumText.digitsVal l < 10 ^ 12
  omega
theorem argBad_cons {k : Str} {ks : List Str} {x : List Nat} {ws : List (List Nat)} (b : argBad (k :: ks) (x :: ws) = none) : kindOk k x = true ∧ argBad ks ws = none := by
  rw [argBad] at b
  split at b
  · exact ⟨by assumption, b⟩
  · cases b
theorem psW_stm {i : Nat} {v : List Nat} {ws : List (List Nat)} {xs : List V} (e : psW i (v :: ws) = .inr xs) : ∃ s, xs = stV s ∧ StmOk s := by
  cases lk : verbT.lookup (⟨v.toArray⟩ : Str) with
  | none => rw [psW_none lk] at e; cases e
  | some ks =>
  rw [psW_some lk] at e
  by_cases hl : ws.length = ks.length
  · rw [if_pos hl] at e
    cases hb : argBad ks ws with
    | some k => rw [hb] at e; cases e
    | none =>
    rw [hb] at e
    have e : (.str ⟨v.toArray⟩ :: argsV ks ws) = xs := by cases e; rfl
    have m := lookup_mem lk
    generalize (⟨v.toArray⟩ : Str) = vv at m e
    simp only [verbT, List.mem_cons, List.not_mem_nil, or_false, Prod.mk.injEq] at m
    subst e
    rcases m with ⟨rfl, rfl⟩ | ⟨rfl, rfl⟩ | ⟨rfl, rfl⟩ | ⟨rfl, rfl⟩ | ⟨rfl, rfl⟩ | ⟨rfl, rfl⟩ | ⟨rfl, rfl⟩ | ⟨rfl, rfl⟩ | ⟨rfl, rfl⟩ | ⟨rfl, rfl⟩ | ⟨rfl, rfl⟩ | ⟨rfl, rfl⟩ | ⟨rfl, rfl⟩ | ⟨rfl, rfl⟩ | ⟨rfl, rfl⟩ | ⟨rfl, rfl⟩
    · match ws, hl with
      | [x], _ => obtain ⟨h1, _⟩ := argBad_cons hb; exact ⟨.opn ⟨x.toArray⟩, rfl, fit_nm h1⟩
    · match ws, hl with
      | [x], _ => obtain ⟨h1, _⟩ := argBad_cons hb; exact ⟨.cls ⟨x.toArray⟩, rfl, fit_nm h1⟩
    · match ws, hl with
      | [x, y], _ => obtain ⟨h1, hb⟩ := argBad_cons hb; obtain ⟨h2, _⟩ := argBad_cons hb; exact ⟨.iss ⟨x.toArray⟩ (dvL y), rfl, fit_nm h1, fit_am h2⟩
    · match ws, hl with
      | [x, y], _ => obtain ⟨h1, hb⟩ := argBad_cons hb; obtain ⟨h2, _⟩ := argBad_cons hb; exact ⟨.brn ⟨x.toArray⟩ (dvL y), rfl, fit_nm h1, fit_am h2⟩
    · match ws, hl with
      | [x, y, z], _ => obtain ⟨h1, hb⟩ := argBad_cons hb; obtain ⟨h2, hb⟩ := argBad_cons hb; obtain ⟨h3, _⟩ := argBad_cons hb; exact ⟨.pay ⟨x.toArray⟩ ⟨y.toArray⟩ (dvL z), rfl, fit_nm h1, fit_nm h2, fit_am h3⟩
    · match ws, hl with
      | [x], _ => obtain ⟨h1, _⟩ := argBad_cons hb; exact ⟨.bal ⟨x.toArray⟩, rfl, fit_nm h1⟩
    · match ws, hl with
      | [x, y], _ => obtain ⟨h1, hb⟩ := argBad_cons hb; obtain ⟨h2, _⟩ := argBad_cons hb; exact ⟨.atl ⟨x.toArray⟩ (dvL y), rfl, fit_nm h1, fit_am h2⟩
    · match ws, hl with
      | [x, y, z, u], _ => obtain ⟨h1, hb⟩ := argBad_cons hb; obtain ⟨h2, hb⟩ := argBad_cons hb; obtain ⟨h3, hb⟩ := argBad_cons hb; obtain ⟨h4, _⟩ := argBad_cons hb; exact ⟨.hld ⟨x.toArray⟩ ⟨y.toArray⟩ (dvL z) ⟨u.toArray⟩, rfl, fit_nm h1, fit_nm h2, fit_am h3, fit_ky h4⟩
    · match ws, hl with
      | [x], _ => obtain ⟨h1, _⟩ := argBad_cons hb; exact ⟨.stl ⟨x.toArray⟩, rfl, fit_ky h1⟩
    · match ws, hl with
      | [x], _ => obtain ⟨h1, _⟩ := argBad_cons hb; exact ⟨.rel ⟨x.toArray⟩, rfl, fit_ky h1⟩
    · match ws, hl with
      | [x, y], _ => obtain ⟨h1, hb⟩ := argBad_cons hb; obtain ⟨h2, _⟩ := argBad_cons hb; exact ⟨.put ⟨x.toArray⟩ ⟨y.toArray⟩, rfl, fit_ky h1, fit_vl h2⟩
    · match ws, hl with
      | [x], _ => obtain ⟨h1, _⟩ := argBad_cons hb; exact ⟨.get ⟨x.toArray⟩, rfl, fit_ky h1⟩
    · match ws, hl with
      | [x], _ => obtain ⟨h1, _⟩ := argBad_cons hb; exact ⟨.drp ⟨x.toArray⟩, rfl, fit_ky h1⟩
    · match ws, hl with
      | [x, y, z], _ => obtain ⟨h1, hb⟩ := argBad_cons hb; obtain ⟨h2, hb⟩ := argBad_cons hb; obtain ⟨h3, _⟩ := argBad_cons hb; exact ⟨.swp ⟨x.toArray⟩ ⟨y.toArray⟩ ⟨z.toArray⟩, rfl, fit_ky h1, fit_vl h2, fit_vl h3⟩
    · match ws, hl with
      | [x, y], _ => obtain ⟨h1, hb⟩ := argBad_cons hb; obtain ⟨h2, _⟩ := argBad_cons hb; exact ⟨.sam ⟨x.toArray⟩ ⟨y.toArray⟩, rfl, fit_ky h1, fit_vl h2⟩
    · match ws, hl with
      | [x], _ => obtain ⟨h1, _⟩ := argBad_cons hb; exact ⟨.kys ⟨x.toArray⟩, rfl, fit_ky h1⟩
  · rw [if_neg hl] at e; cases e
theorem pcL_stm : ∀ {ps : List (List Nat)} {i : Nat} {rs : List (List V)}, pcL i ps = .inr rs → ∃ ss : List Stm, rs = ss.map stV ∧ ∀ s ∈ ss, StmOk s
  | [], _, _, e => by rw [pcL] at e; cases e; exact ⟨[], rfl, nofun⟩
  | p :: ps, i, rs, e => by
    rw [pcL] at e
    cases h : psR i p with
    | inl z => rw [h] at e; cases e
    | inr xs =>
    rw [h] at e
    dsimp only at e
    cases h2 : pcL (i + 1) ps with
    | inl z => rw [h2] at e; cases e
    | inr r =>
    rw [h2] at e
    cases e
    obtain ⟨ss, e1, e2⟩ := pcL_stm h2
    unfold psR at h
    by_cases h0 : p = []
    · rw [if_pos h0] at h; cases h
    rw [if_neg h0] at h
    by_cases h1 : [] ∈ spA 32 p
    · rw [if_pos h1] at h; cases h
    rw [if_neg h1] at h
    cases hs : spA 32 p with
    | nil =>
      obtain ⟨_, _, e⟩ := spA_ne 32 p
      rw [hs] at e; cases e
    | cons v ws =>
      rw [hs] at h
      obtain ⟨s, e3, e4⟩ := psW_stm h
      exact ⟨s :: ss, by rw [List.map_cons, e1, e3], fun x m => by
        rcases List.mem_cons.mp m with rfl | m
        · exact e4
        · exact e2 x m⟩
theorem pcAll_stm {cs : List Nat} {rs : List (List V)} (e : pcAll cs = .inr rs) : ∃ ss : List Stm, rs = ss.map stV ∧ ∀ s ∈ ss, StmOk s := by
  unfold pcAll at e
  split at e
  · cases e
  split at e
  · exact pcL_stm e
  · cases e
theorem vals_eq {K : PySem.W.Frag} {H : Hp} {A : Option Addr} : ∀ {xs ys : List V}, (∀ x ∈ xs, (∃ z, x = .str z) ∨ ∃ n, x = .int n) → DtAll K H A ys (xs.map vD) → ys = xs
  | [], ys, _, h => by cases h; rfl
  | x :: r, ys, k, h => by
    rw [List.map_cons] at h
    cases h with
    | cons h1 h2 =>
      rw [vals_eq (fun y m => k y (List.mem_cons_of_mem _ m)) h2]
      rcases k x List.mem_cons_self with ⟨z, rfl⟩ | ⟨n, rfl⟩
      · cases h1; rfl
      · cases h1; rfl
theorem stV_sc (s : Stm) : ∀ x ∈ stV s, (∃ z, x = .str z) ∨ ∃ n, x = .int n := by
  cases s <;> simp [stV]
theorem rows_at {K : PySem.W.Frag} {H : Hp} : ∀ {ss : List Stm} {xs : List V}, DtAll K H none xs ((ss.map stV).map rowT) → ∃ ts : List Addr, xs = ts.map V.ref ∧ ts.length = ss.length ∧ ∀ (j : Nat) (t : Addr) (s : Stm), ts[j]? = some t → ss[j]? = some s → SqT K H t (stV s)
  | [], xs, h => by cases h; exact ⟨[], rfl, rfl, fun _ _ _ e => by cases e⟩
  | s :: r, xs, h => by
    rw [List.map_cons, List.map_cons] at h
    cases h with
    | cons h1 h2 =>
      obtain ⟨ts, e1, e2, e3⟩ := rows_at h2
      unfold rowT at h1
      cases h1 with
      | tup ha hd =>
        rename_i a ys
        rw [vals_eq (stV_sc s) hd] at ha
        refine ⟨a :: ts, by rw [e1]; rfl, by rw [List.length_cons, List.length_cons, e2], fun j t s' g1 g2 => ?_⟩
        cases j with
        | zero =>
          obtain rfl := Option.some.inj g1
          obtain rfl := Option.some.inj g2
          exact ha.sq
        | succ j => exact e3 j t s' g1 g2
theorem pcL_len : ∀ {ps : List (List Nat)} {i : Nat} {rs : List (List V)}, pcL i ps = .inr rs → rs.length = ps.length
  | [], _, _, e => by rw [pcL] at e; cases e; rfl
  | p :: ps, i, rs, e => by
    rw [pcL] at e
    cases h : psR i p with
    | inl z => rw [h] at e; cases e
    | inr xs =>
    rw [h] at e
    dsimp only at e
    cases h2 : pcL (i + 1) ps with
    | inl z => rw [h2] at e; cases e
    | inr r =>
    rw [h2] at e
    cases e
    rw [List.length_cons, List.length_cons, pcL_len h2]
theorem pcAll_len {cs : List Nat} {rs : List (List V)} (e : pcAll cs = .inr rs) : rs.length ≤ 241 := by
  unfold pcAll at e
  split at e
  · cases e
  split at e
  · rw [pcL_len e]
    have := spA_len 59 cs
    omega
  · cases e
def RsnC (r : Str) : Prop := r.length ≤ 9 ∧ isPr r = true
theorem argBad_mem : ∀ {ks : List Str} {ws : List (List Nat)} {k : Str}, argBad ks ws = some k → k ∈ ks
  | [], _, _, e => by cases e
  | _ :: _, [], _, e => by cases e
  | a :: ks, x :: ws, k, e => by
    rw [argBad] at e
    split at e
    · exact List.mem_cons_of_mem _ (argBad_mem e)
    · cases e; exact List.mem_cons_self
theorem kinds_ok : ∀ x ∈ verbT, ∀ k ∈ x.2, k.length ≤ 9 ∧ isPr k = true := by decide +kernel
theorem psR_bad {i k : Nat} {p : List Nat} {r : Str} (e : psR i p = .inl (r, k)) : k = i ∧ RsnC r := by
  unfold psR at e
  split at e
  · cases e; exact ⟨rfl, by decide, by decide +kernel⟩
  split at e
  · cases e; exact ⟨rfl, by decide, by decide +kernel⟩
  cases hs : spA 32 p with
  | nil => rw [hs] at e; cases e
  | cons v ws =>
  rw [hs] at e
  cases lk : verbT.lookup (⟨v.toArray⟩ : Str) with
  | none => rw [psW_none lk] at e; cases e; exact ⟨rfl, by decide, by decide +kernel⟩
  | some ks =>
  rw [psW_some lk] at e
  split at e
  · cases hb : argBad ks ws with
    | none => rw [hb] at e; cases e
    | some k2 =>
      rw [hb] at e
      cases e
      exact ⟨rfl, kinds_ok _ (lookup_mem lk) _ (argBad_mem hb)⟩
  · cases e; exact ⟨rfl, by decide, by decide +kernel⟩
theorem pcL_bad : ∀ {ps : List (List Nat)} {i k : Nat} {r : Str}, pcL i ps = .inl (r, k) → k ≤ i + ps.length ∧ RsnC r
  | [], _, _, _, e => by rw [pcL] at e; cases e
  | p :: ps, i, k, r, e => by
    rw [pcL] at e
    cases h : psR i p with
    | inl z =>
      rw [h] at e
      obtain rfl : z = (r, k) := by cases e; rfl
      obtain ⟨h1, h2⟩ := psR_bad h
      exact ⟨by omega, h2⟩
    | inr xs =>
    rw [h] at e
    dsimp only at e
    cases h2 : pcL (i + 1) ps with
    | inl z =>
      rw [h2] at e
      obtain rfl : z = (r, k) := by cases e; rfl
      obtain ⟨h3, h4⟩ := pcL_bad h2
      exact ⟨by rw [List.length_cons]; omega, h4⟩
    | inr r2 => rw [h2] at e; cases e
theorem pcAll_bad {cs : List Nat} {r : Str} {k : Nat} (e : pcAll cs = .inl (r, k)) : k ≤ 241 ∧ RsnC r := by
  unfold pcAll at e
  split at e
  · cases e; exact ⟨by omega, by decide, by decide +kernel⟩
  split at e
  · obtain ⟨h1, h2⟩ := pcL_bad e
    have := spA_len 59 cs
    exact ⟨by omega, h2⟩
  · cases e; exact ⟨by omega, by decide, by decide +kernel⟩
/-- the statements of what was parsed -/
noncomputable def ssOf (rs : List (List V)) : List Stm := by
  classical exact if h : ∃ ss : List Stm, rs = ss.map stV ∧ ∀ s ∈ ss, StmOk s then Classical.choose h else []
theorem ssOf_eq {rs : List (List V)} (h : ∃ ss : List Stm, rs = ss.map stV ∧ ∀ s ∈ ss, StmOk s) : rs = (ssOf rs).map stV ∧ ∀ s ∈ ssOf rs, StmOk s := by
  have e : ssOf rs = Classical.choose h := by unfold ssOf; rw [dif_pos h]
  rw [e]
  exact Classical.choose_spec h
noncomputable def rtR (m : MM) (c : Int) (z : Str) : Sum Str (Str × MM) := match pcAll z.cps.toList with
  | .inl (r, k) => .inl (((Str.empty ++ "invalid ") ++ Str.ofString (toString (k : Int))) ++ " " ++ r)
  | .inr rs => runR m c (ssOf rs)
noncomputable def exR (m : MM) (se : SD) (c n : Int) (z : Str) : Str × MM × SD := if n < seL se c then ("stale", m, se) else if n = seL se c then (seA se c, m, se) else match rtR m c z with
  | .inl a => (a, m, pA se c (n, a))
  | .inr (a, m') => (a, m', pA se c (n, a))
section
variable {P : Program} {w : World} {K : PySem.W.Frag} {mg : Str → Option Value} {base : Heap}
theorem verbs_free {C_Accounts : Addr} {C_Sessions : Addr} {C_Store : Addr} {C_State : Addr} {C_BadText : Addr} {C_Refused : Addr} {C_BadCommand : Addr} {C_VERBS : Addr} (T : Txt K mg w C_Accounts C_Sessions C_Store C_State C_BadText C_Refused C_BadCommand C_VERBS) {z : Str} (h : verbT.lookup z = none) : PySem.W.nsIn K C_VERBS z = some none := by
  refine T.kn_VERBS z ?_
  refine Bool.eq_false_iff.mpr fun m => ?_
  have m := List.contains_iff_mem.mp m
  have key : ∀ x ∈ (["open", "close", "issue", "burn", "pay", "balance", "atleast", "hold", "settle", "release", "put", "get", "drop", "swap", "same", "keys"] : List Str), (verbT.lookup x).isSome = true := by decide +kernel
  have := key z m
  rw [h] at this
  cases this
def spRT (G C D S : Addr) : Sp := fun vs H Q _ => ∃ (q : Addr) (L : Loc) (m : MM) (se : SD) (c : Int) (z : Str), vs = [.ref q, .int c, .str z] ∧ EsAt G C D S H q L m se ∧ MOk m ∧ c.natAbs ≤ 100 ∧ z.length ≤ 10000 ∧
  match rtR m c z with
  | .inl a => ∀ H', Same H H' → Q (.str a) H'
  | .inr (a, m') => ∀ H' L', But [q] H H' → EsAt G C D S H' q L' m' se → MOk m' → (∀ x ∈ L'.as, H x = none) → L'.pe = L.pe → L'.n3 = L.n3 → L'.a3 = L.a3 → Q (.str a) H'
theorem c_run_text {C_Accounts : Addr} {C_Sessions : Addr} {C_Store : Addr} {C_State : Addr} {C_BadText : Addr} {C_Refused : Addr} {C_BadCommand : Addr} {C_VERBS : Addr} (T : Txt K mg w C_Accounts C_Sessions C_Store C_State C_BadText C_Refused C_BadCommand C_VERBS) : Cal P w K mg base 10 "run_text" (spRT C_State C_Accounts C_Store C_Sessions) [] := by
  have c_run := c_run (P := P) (w := w) (K := K) (base := base) T
  have c_parse_command := c_parse_command (P := P) (w := w) (K := K) (base := base) T
  refine cal T.d_run_text sc_run_text (fun vs H Q E h => ?_) (fun f cdv A outer s H vs Q E hr h => ?_)
  · obtain ⟨q, L, m, se, c, z, rfl, _⟩ := h; rfl
  obtain ⟨q, L, m, se, c, z, rfl, es, ok, hc, hz, out⟩ := h
  refine ⟨_, (pss_cons (ps_try_as (i := 4) (Wout := fun _ _ _ _ => False) rfl rfl sc_run_text.nd rfl rfl ⟨by rfl, by decide, .inl T.x_BadCommand.g⟩ takes0 (fun W pn xe tk po => (pss_one (ps_set (i := 3) sc_run_text.nd rfl (Or.inl rfl) (pe_cX c_parse_command hr (by omega) (by rfl) (fun σ => passAt tk σ) (pa_cons (pv 2) pa_nil))))) (fun a oe cls d pn hz hf => (pss_one (ps_ret (pe_joined (PJ.cons pe_str (PJ.cons (pe_fmt (pe_xf T.x_BadCommand.xf T.xn_BadCommand_statement hz hf (pv 4))) (PJ.cons pe_str (PJ.cons (pe_fmt (pe_xf T.x_BadCommand.xf T.xn_BadCommand_reason hz hf (pv 4))) PJ.nil)))))))))
      (pss_one (ps_ret (pe_c c_run hr (by omega) (by rfl) (pa_cons (pv 0) (pa_cons (pv 1) (pa_cons (pv 3) pa_nil))))))), ?_⟩
  walk_at "rds"
  (try delta tNil)
  unfold rtR at out
  refine ⟨hz, fun p hp v ws e hl => verbs_free T hl, fun rs er H1 b s1 nb dt => ?_, fun r k er H1 d s1 bd => ?_⟩
  · rw [er] at out
    obtain ⟨e1, e2⟩ := ssOf_eq (pcAll_stm er)
    replace out : (match runR m c (ssOf rs) with
      | .inl a => ∀ H', Same H H' → Q (.str a) H'
      | .inr (a, m') => ∀ H' L', But [q] H H' → EsAt C_State C_Accounts C_Store C_Sessions H' q L' m' se → MOk m' → (∀ x ∈ L'.as, H x = none) → L'.pe = L.pe → L'.n3 = L.n3 → L'.a3 = L.a3 → Q (.str a) H') := out
    generalize ssOf rs = ss at e1 e2 out
    subst e1
    cases dt with
    | lst _ hb hd =>
    obtain ⟨ts, f1, f2, f3⟩ := rows_at hd
    subst f1
    walk_at "rds"
    (try delta tNil)
    have ln : ss.length ≤ 1000 := by have := pcAll_len er; rw [List.length_map] at this; omega
    refine ⟨q, b, L, m, se, c, ts, ss, rfl, es.on s1, ok, hc, ln, hb, f2, f3, e2, ?_⟩
    cases hr : runR m c ss with
    | inl a =>
      rw [hr] at out
      exact fun H2 s2 => out H2 (s1.trans s2)
    | inr r =>
      obtain ⟨a, m'⟩ := r
      rw [hr] at out
      exact fun H2 L2 k2 es2 ok2 n2 p1 p2 p3 => out H2 L2 ((Same.but s1).trans k2) es2 ok2 (fun x mx => same_none s1 (n2 x mx)) p1 p2 p3
  · rw [er] at out
    replace out : ∀ H', Same H H' → Q (.str (((Str.empty ++ "invalid ") ++ Str.ofString (toString (k : Int))) ++ " " ++ r)) H' := out
    refine ⟨true, T.x_BadCommand.exm T.u_BadCommand_BadCommand, fun _ a0 ha0 => ?_, fun z => nomatch z⟩
    obtain ⟨k1, r1, _⟩ := pcAll_bad er
    have e0 : Str.empty.length = 0 := rfl
    have e1 : (Str.ofString "invalid ").length = 8 := by decide
    have e2 : (Str.ofString " ").length = 1 := by decide
    have sl := sizeLine_eq
    have lg : ((k : Nat) : Int).natAbs.log2 < 1000 := log2_of_lt (by omega) (by have : (2:Nat) ^ 20 ≤ 2 ^ 1000 := Nat.pow_le_pow_right (by omega) (by omega); have : (2:Nat) ^ 20 = 1048576 := rfl; omega)
    have li := itx_len (i := ((k : Nat) : Int)) (k := 1000) (by omega) lg
    walk_at "rds"
    have bd : H1 d = some (.xd [("statement", .int k), ("reason", .str r)]) := bd
    refine ⟨rfl, rfl, d, _, _, rfl, bd, rfl, .inr ⟨(k : Nat), rfl, by omega, _, rfl, by simp only [Str.length_append, e0, e1]; omega, ?_⟩⟩
    refine ⟨_, rfl, by simp only [Str.length_append, e0, e1, e2]; omega, ?_⟩
    walk_at "rds"
    refine ⟨rfl, rfl, d, _, _, rfl, bd, rfl, .inl ⟨r, rfl, by omega, _, rfl, by simp only [Str.length_append, e0, e1, e2]; omega, ?_⟩⟩
    exact out H1 s1
end
theorem EsAt.ses {G C D S : Addr} {H H2 : Hp} {q : Addr} {L : Loc} {m : MM} {se se' : SD} (e : EsAt G C D S H q L m se) (k : But2 L.n3 L.a3 H H2) (s2 : SeAt S H2 L.pe L.n3 L.a3 se') : EsAt G C D S H2 q L m se' := by
  obtain ⟨dx, g⟩ := e.ins
  have qn := e.qn.2
  have inn : ∀ x ∈ [L.n3, L.a3], x ∈ L.ss := fun x m => List.mem_cons_of_mem _ m
  obtain ⟨_, h2, h3, _⟩ := e.se
  refine ⟨⟨dx, k.but _ _ (fun m => qn (inn q m)) g⟩, e.as.bt k.but (fun x mx my => e.off x mx (inn x my)) (fun x mx xs ex => ?_), s2, e.off⟩
  simp only [List.mem_cons, List.not_mem_nil, or_false] at mx
  rcases mx with rfl | rfl
  · rw [h2] at ex; cases ex
  · rw [h3] at ex; cases ex
section
variable {P : Program} {w : World} {K : PySem.W.Frag} {mg : Str → Option Value} {base : Heap}
def Loc.all (L : Loc) : List Addr := L.as ++ L.ss
def spEx (G C D S : Addr) : Sp := fun vs H Q _ => ∃ (q t : Addr) (L : Loc) (m : MM) (se : SD) (c n : Int) (z : Str), vs = [.ref q, .ref t] ∧ H t = some (.tup [.int c, .int n, .str z]) ∧ EsAt G C D S H q L m se ∧ MOk m ∧ se.length ≤ 900 ∧ c.natAbs ≤ 100 ∧ z.length ≤ 10000 ∧
  ∀ H' L', But [q, L.n3, L.a3] H H' → EsAt G C D S H' q L' (exR m se c n z).2.1 (exR m se c n z).2.2 → MOk (exR m se c n z).2.1 → (L'.as = L.as ∨ ∀ x ∈ L'.as, H x = none) → L'.pe = L.pe → L'.n3 = L.n3 → L'.a3 = L.a3 → Q (.str (exR m se c n z).1) H'
theorem c_execute {C_Accounts : Addr} {C_Sessions : Addr} {C_Store : Addr} {C_State : Addr} {C_BadText : Addr} {C_Refused : Addr} {C_BadCommand : Addr} {C_VERBS : Addr} (T : Txt K mg w C_Accounts C_Sessions C_Store C_State C_BadText C_Refused C_BadCommand C_VERBS) : Cal P w K mg base 11 "execute" (spEx C_State C_Accounts C_Store C_Sessions) [] := by
  have c_run_text := c_run_text (P := P) (w := w) (K := K) (base := base) T
  have m_Sessions__last := m_Sessions__last (P := P) (w := w) (base := base) T
  have m_Sessions__answer := m_Sessions__answer (P := P) (w := w) (base := base) T
  have m_Sessions__remember := m_Sessions__remember (P := P) (w := w) (base := base) T
  refine cal T.d_execute sc_execute (fun vs H Q E h => ?_) (fun f cdv A outer s H vs Q E hr h => ?_)
  · obtain ⟨q, t, L, m, se, c, n, z, rfl, _⟩ := h; rfl
  obtain ⟨q, t, L, m, se, c, n, z, rfl, ht, es, ok, lse, hc, hz, out⟩ := h
  obtain ⟨dx, g⟩ := es.ins
  obtain ⟨dx3, g3⟩ := es.se.1
  refine ⟨_, (pss_cons (ps_asg (pv 1) (pg_tup (by rfl) (pgs_cons (pg_name (i := 2) sc_execute.nd rfl (Or.inl rfl)) (pgs_cons (pg_name (i := 3) sc_execute.nd rfl (Or.inl rfl)) (pgs_cons (pg_name (i := 4) sc_execute.nd rfl (Or.inl rfl)) pgs_nil)))))
      (pss_cons (ps_set (i := 5) sc_execute.nd rfl (Or.inl rfl) (pe_mt m_Sessions__last hr (by decide) (pe_fld (pv 0) rfl) (pa_cons (pv 2) pa_nil)))
      (pss_cons (ps_if (pt_cmpR op_lt (pv 3) (pv 5) (nomark _)) (pss_one (ps_ret pe_str)) pss_nil)
      (pss_cons (ps_if (pt_cmpR op_eq (pv 3) (pv 5) (nomark _)) (pss_one (ps_ret (pe_mt m_Sessions__answer hr (by decide) (pe_fld (pv 0) rfl) (pa_cons (pv 2) pa_nil)))) pss_nil)
      (pss_cons (ps_set (i := 6) sc_execute.nd rfl (Or.inl rfl) (pe_c c_run_text hr (by omega) (by rfl) (pa_cons (pv 0) (pa_cons (pv 2) (pa_cons (pv 4) pa_nil)))))
      (pss_cons (ps_expr (pe_mtX m_Sessions__remember hr (by decide) no_pass (pe_fld (pv 0) rfl) (pa_cons (pv 2) (pa_cons (pv 3) (pa_cons (pv 6) pa_nil)))))
      (pss_one (ps_ret (pv 6))))))))), ?_⟩
  walk_at "rds"
  refine ⟨t, _, rfl, .inl (.inl ht), rfl, _, _, rfl, _, _, rfl, _, _, rfl, rfl, ?_⟩
  walk_at "rds"
  refine ⟨q, C_State, dx, _, _, rfl, g, T.cl_State, T.na_State_sessions, rfl, ?_⟩
  refine ⟨L.pe, dx3, _, rfl, g3, rfl, ?_⟩
  walk_at "rds"
  (try delta tNil)
  refine ⟨L.pe, L.n3, L.a3, se, c, rfl, es.se, ?_⟩
  walk_at "rds"
  by_cases h1 : n < seL se c
  · refine ifT (decide_eq_true h1) ?_
    walk_at "rds"
    have e : exR m se c n z = (Str.ofString "stale", m, se) := if_pos h1
    rw [e] at out
    exact out H L (Same.but fun _ _ z => z) es ok (.inl rfl) rfl rfl rfl
  refine ifF (decide_eq_false h1) ?_
  walk_at "rds"
  by_cases h2 : n = seL se c
  · refine ifT (decide_eq_true (congrArg V.int h2)) ?_
    walk_at "rds"
    refine ⟨q, C_State, dx, _, _, rfl, g, T.cl_State, T.na_State_sessions, rfl, ?_⟩
    refine ⟨L.pe, dx3, _, rfl, g3, rfl, ?_⟩
    walk_at "rds"
    (try delta tNil)
    refine ⟨L.pe, L.n3, L.a3, se, c, rfl, es.se, ?_⟩
    have e : exR m se c n z = (seA se c, m, se) := (if_neg h1).trans (if_pos h2)
    rw [e] at out
    exact out H L (Same.but fun _ _ z => z) es ok (.inl rfl) rfl rfl rfl
  refine ifF (decide_eq_false fun z => h2 (V.int.inj z)) ?_
  walk_at "rds"
  (try delta tNil)
  have e : exR m se c n z = match rtR m c z with
    | .inl a => (a, m, pA se c (n, a))
    | .inr (a, m') => (a, m', pA se c (n, a)) := (if_neg h1).trans (if_neg h2)
  refine ⟨q, L, m, se, c, z, rfl, es, ok, hc, hz, ?_⟩
  cases hr : rtR m c z with
  | inl a =>
    rw [hr] at e
    have e : exR m se c n z = (a, m, pA se c (n, a)) := e
    rw [e] at out
    intro H1 s1
    walk_at "rds"
    refine ⟨q, C_State, dx, _, _, rfl, s1 _ _ g, T.cl_State, T.na_State_sessions, rfl, ?_⟩
    refine ⟨L.pe, dx3, _, rfl, s1 _ _ g3, rfl, ?_⟩
    walk_at "rds"
    (try delta tNil)
    refine ⟨L.pe, L.n3, L.a3, se, c, n, a, rfl, es.se.on s1, by omega, fun hlt H2 k2 se2 => ?_, fun hle => absurd hle (by omega)⟩
    walk_at "rds"
    refine out H2 L ((Same.but s1).trans (k2.but.mono fun x m => ?_)) ((es.on s1).ses k2 se2) ok (.inl rfl) rfl rfl rfl
    exact List.mem_cons_of_mem _ m
  | inr r =>
    obtain ⟨a, m'⟩ := r
    rw [hr] at e
    have e : exR m se c n z = (a, m', pA se c (n, a)) := e
    rw [e] at out
    intro H1 L1 k1 es1 ok1 new1 e1 e2 e3
    obtain ⟨dx1, g1⟩ := es1.ins
    obtain ⟨dx4, g4⟩ := es1.se.1
    walk_at "rds"
    refine ⟨q, C_State, dx1, _, _, rfl, g1, T.cl_State, T.na_State_sessions, rfl, ?_⟩
    refine ⟨L1.pe, dx4, _, rfl, g4, rfl, ?_⟩
    walk_at "rds"
    (try delta tNil)
    refine ⟨L1.pe, L1.n3, L1.a3, se, c, n, a, rfl, es1.se, by omega, fun hlt H2 k2 se2 => ?_, fun hle => absurd hle (by omega)⟩
    rw [e2, e3] at k2
    have k1' := k1.mono (S' := [q, L.n3, L.a3]) fun x m => by rw [List.mem_singleton.mp m]; simp
    have k2' := k2.but.mono (S' := [q, L.n3, L.a3]) fun x m => List.mem_cons_of_mem _ m
    walk_at "rds"
    refine out H2 L1 (k1'.trans k2') (es1.ses (by rw [e2, e3]; exact k2) se2) ok1 (.inr new1) e1 e2 e3
theorem m_State__clone {C_Accounts : Addr} {C_Sessions : Addr} {C_Store : Addr} {C_State : Addr} {C_BadText : Addr} {C_Refused : Addr} {C_BadCommand : Addr} {C_VERBS : Addr} (T : Txt K mg w C_Accounts C_Sessions C_Store C_State C_BadText C_Refused C_BadCommand C_VERBS) : Met P w K mg base 5 C_State "clone" (spEsClone C_State C_Accounts C_Store C_Sessions) [] := by
  have k_State := k_State (P := P) (w := w) (base := base) T
  have m_Accounts__clone := m_Accounts__clone (P := P) (w := w) (base := base) T
  have m_Store__clone := m_Store__clone (P := P) (w := w) (base := base) T
  have m_Sessions__clone := m_Sessions__clone (P := P) (w := w) (base := base) T
  refine met T.cl_State T.me_State__clone sc_State__clone (fun vs H Q E h => ?_) (fun f cdv A outer s H vs Q E hr h => ?_)
  · obtain ⟨q, L, m, se, rfl, _⟩ := h; rfl
  obtain ⟨q, L, m, se, rfl, es, ok, out⟩ := h
  refine ⟨_, (pss_cons (ps_set (i := 1) sc_State__clone.nd rfl (Or.inl rfl) (pe_mk0 k_State hr (by decide) (by rfl)))
      (pss_cons (ps_fld (pv 1) (pe_mt0 m_Accounts__clone hr (by decide) (pe_fld (pv 0) rfl)) rfl)
      (pss_cons (ps_fld (pv 1) (pe_mt0 m_Store__clone hr (by decide) (pe_fld (pv 0) rfl)) rfl)
      (pss_cons (ps_fld (pv 1) (pe_mt0 m_Sessions__clone hr (by decide) (pe_fld (pv 0) rfl)) rfl)
      (pss_one (ps_ret (pv 1))))))), ?_⟩
  walk_at "rds"
  (try delta tNil)
  intro x dx0 hx hdx ne
  refine ⟨x, dx0, rfl, upd_same, fun H1 L0 kp es0 fr0 => ⟨rfl, ?_⟩⟩
  have s1 : Same H H1 := Same.made hx hdx kp
  obtain ⟨dx, gx⟩ := es0.ins
  have es1 := es.on s1
  obtain ⟨dxq, gq⟩ := es1.ins
  obtain ⟨dxa, ga⟩ := es1.as.ac.ins
  clear kp hdx ne fr0 es0
  walk_at "rds"
  refine ⟨q, C_State, dxq, _, _, rfl, gq, T.cl_State, T.na_State_accounts, rfl, ?_⟩
  refine ⟨L.p, dxa, _, rfl, ga, rfl, ?_⟩
  walk_at "rds"
  (try delta tNil)
  refine ⟨L.p, L.n, L.b, L.h, L.he, m.1, rfl, ok.aw es1.as.ac es1.as.hs, fun H2 p1 n1 b1 h1 s2 np nn nb nh at1 => ?_⟩
  walk_at "rds"
  refine ⟨x, C_State, dx, _, rfl, s2 _ _ gx, T.cl_State, T.na_State_accounts, by show (3 : Nat) < 1000; decide, ?_⟩
  rw [esF_ac]
  have fH : ∀ {y : Addr}, H1 y = none → H y = none := fun h => same_none s1 h
  have fp := fH np
  have fn := fH nn
  have fb := fH nb
  have fh := fH nh
  have nxp : ∀ y ∈ [p1, n1, b1, h1], y ∉ [x] := fun y my mx => by
    have e : H1 x = none := by
      rw [List.mem_singleton.mp mx] at my
      simp only [List.mem_cons, List.not_mem_nil, or_false] at my
      rcases my with rfl | rfl | rfl | rfl
      · exact np
      · exact nn
      · exact nb
      · exact nh
    rw [gx] at e; cases e
  have gx2 := s2 _ _ gx
  have sA : Same H (upd H2 x (.ins C_State dx (esF p1 L0.ps L0.pe))) := same_mut (s1.trans s2) hx
  have a1 := at1.bt (S := [x]) (H' := upd H2 x (.ins C_State dx (esF p1 L0.ps L0.pe))) (but_upd (by simp)) nxp (fun y my xs e => by rw [List.mem_singleton.mp my, gx2] at e; cases e)
  have gx1 : upd H2 x (.ins C_State dx (esF p1 L0.ps L0.pe)) x = some (.ins C_State dx (esF p1 L0.ps L0.pe)) := upd_same
  generalize upd H2 x (.ins C_State dx (esF p1 L0.ps L0.pe)) = K1 at sA a1 gx1 ⊢
  clear np nn nb nh at1 s1 s2 gx gx2 gq ga es1 fH
  have es2 := es.on sA
  obtain ⟨dxq, gq⟩ := es2.ins
  obtain ⟨dxs, gs⟩ := es2.as.st.ins
  walk_at "rds"
  refine ⟨q, C_State, dxq, _, _, rfl, gq, T.cl_State, T.na_State_store, rfl, ?_⟩
  refine ⟨L.ps, dxs, _, rfl, gs, rfl, ?_⟩
  walk_at "rds"
  (try delta tNil)
  refine ⟨L.ps, L.n2, L.a2, m.2, rfl, es2.as.st, fun H3 p3 n3 a3 s3 np3 nn3 na3 st3 => ?_⟩
  walk_at "rds"
  refine ⟨x, C_State, dx, _, rfl, s3 _ _ gx1, T.cl_State, T.na_State_store, by show (3 : Nat) < 1000; decide, ?_⟩
  rw [esF_st]
  have fp3 := same_none sA np3
  have fn3 := same_none sA nn3
  have fa3 := same_none sA na3
  have nx3 : ∀ y ∈ [p3, n3, a3], y ∉ [x] := fun y my mx => by
    have e : K1 x = none := by
      rw [List.mem_singleton.mp mx] at my
      simp only [List.mem_cons, List.not_mem_nil, or_false] at my
      rcases my with rfl | rfl | rfl
      · exact np3
      · exact nn3
      · exact na3
    rw [gx1] at e; cases e
  have ap3 : ∀ y ∈ [p1, n1, b1, h1], y ∉ [p3, n3, a3] := fun y my mx => by
    have e : K1 y = none := by
      simp only [List.mem_cons, List.not_mem_nil, or_false] at mx
      rcases mx with rfl | rfl | rfl
      · exact np3
      · exact nn3
      · exact na3
    exact (a1.lv y my).1 e
  have gx3 := s3 _ _ gx1
  have tx3 : ∀ y ∈ [x], ∀ xs, H3 y ≠ some (.tup xs) := fun y my xs e => by rw [List.mem_singleton.mp my, gx3] at e; cases e
  have sB : Same H (upd H3 x (.ins C_State dx (esF p1 p3 L0.pe))) := same_mut (sA.trans s3) hx
  have as3 : ASAt C_Accounts C_Store (upd H3 x (.ins C_State dx (esF p1 p3 L0.pe))) p1 n1 b1 h1 p3 n3 a3 L.he m :=
    ⟨(a1.on s3).bt (S := [x]) (but_upd (by simp)) nxp tx3, es.as.hs, st3.bt (S := [x]) (but_upd (by simp)) nx3, ap3⟩
  have gx4 : upd H3 x (.ins C_State dx (esF p1 p3 L0.pe)) x = some (.ins C_State dx (esF p1 p3 L0.pe)) := upd_same
  generalize upd H3 x (.ins C_State dx (esF p1 p3 L0.pe)) = K2 at sB as3 gx4 ⊢
  clear np3 nn3 na3 st3 a1 gx1 gx3 tx3 gq gs es2 sA s3
  have es4 := es.on sB
  obtain ⟨dxq, gq⟩ := es4.ins
  obtain ⟨dxe, ge⟩ := es4.se.1
  walk_at "rds"
  refine ⟨q, C_State, dxq, _, _, rfl, gq, T.cl_State, T.na_State_sessions, rfl, ?_⟩
  refine ⟨L.pe, dxe, _, rfl, ge, rfl, ?_⟩
  walk_at "rds"
  (try delta tNil)
  refine ⟨L.pe, L.n3, L.a3, se, rfl, es4.se, fun H5 p5 n5 a5 s5 np5 nn5 na5 t5 => ?_⟩
  walk_at "rds"
  refine ⟨x, C_State, dx, _, rfl, s5 _ _ gx4, T.cl_State, T.na_State_sessions, by show (3 : Nat) < 1000; decide, ?_⟩
  rw [esF_se]
  have fp5 := same_none sB np5
  have fn5 := same_none sB nn5
  have fa5 := same_none sB na5
  have gx5 := s5 _ _ gx4
  have nx5 : ∀ {y : Addr}, K2 y = none → y ∉ [x] := fun h m => by rw [List.mem_singleton.mp m, gx4] at h; cases h
  have tx5 : ∀ y ∈ [x], ∀ xs, H5 y ≠ some (.tup xs) := fun y my xs e => by rw [List.mem_singleton.mp my, gx5] at e; cases e
  have sC : Same H (upd H5 x (.ins C_State dx (esF p1 p3 p5))) := same_mut (sB.trans s5) hx
  have bx : But [x] H5 (upd H5 x (.ins C_State dx (esF p1 p3 p5))) := but_upd (by simp)
  walk_at "rds"
  refine out _ x ⟨p1, n1, b1, h1, p3, n3, a3, p5, n5, a5, L.he⟩ sC hx (fun y my => ?_) ⟨⟨dx, upd_same⟩, (as3.on s5).bt bx (fun y my => ?_) tx5, ?_, fun y my mz => ?_⟩
  · have my : y ∈ [p1, n1, b1, h1, p3, n3, a3] ++ [p5, n5, a5] := my
    simp only [List.mem_append, List.mem_cons, List.not_mem_nil, or_false] at my
    rcases my with (rfl | rfl | rfl | rfl | rfl | rfl | rfl) | rfl | rfl | rfl
    · exact fp
    · exact fn
    · exact fb
    · exact fh
    · exact fp3
    · exact fn3
    · exact fa3
    · exact fp5
    · exact fn5
    · exact fa5
  · rcases List.mem_append.mp (show y ∈ [p1, n1, b1, h1] ++ [p3, n3, a3] from my) with k | k
    · exact nxp y k
    · exact nx3 y k
  · obtain ⟨⟨dx5, g1⟩, g2, g3, g4⟩ := t5
    exact ⟨⟨dx5, bx _ _ (nx5 np5) g1⟩, bx _ _ (nx5 nn5) g2, bx _ _ (nx5 na5) g3, g4⟩
  · have e : K2 y = none := by
      have mz : y ∈ [p5, n5, a5] := mz
      simp only [List.mem_cons, List.not_mem_nil, or_false] at mz
      rcases mz with rfl | rfl | rfl
      · exact np5
      · exact nn5
      · exact na5
    exact (as3.lv y my).1 e
end

/-! ### answers are printable and short -/
theorem prApp {a b : Str} (h : isPr a = true) (k : isPr b = true) : isPr (a ++ b) = true := by
  show (a ++ b).cps.toList.all prC = true
  rw [app_tl, List.all_append, show a.cps.toList.all prC = true from h, show b.cps.toList.all prC = true from k]
  rfl
theorem isPr_nat (n : Nat) : isPr (Str.ofString (toString (n : Int))) = true := by
  show (TL.tl (Str.ofString (toString (n : Int)))).all prC = true
  rw [TL.tl_num n]
  refine List.all_eq_true.mpr fun c m => ?_
  have := TL.numL_digits n c m
  unfold prC
  rw [decide_eq_true (show 32 ≤ c by omega), decide_eq_true (show c ≤ 126 by omega), decide_eq_true (show c ≠ 37 by omega)]
  rfl
theorem isPr_join {sep : Str} (hs : isPr sep = true) : ∀ {ys : List Str}, (∀ y ∈ ys, isPr y = true) → isPr (Txt.join sep ys) = true := by
  have e : ∀ l, Txt.join sep l = Str.join sep l := fun l => eq_of_beq (join_closes rfl)
  intro ys h
  rw [e]
  induction ys with
  | nil =>
    show isPr Str.empty = true
    decide +kernel
  | cons y r ih =>
    cases r with
    | nil => exact h y List.mem_cons_self
    | cons z r =>
      show isPr (y ++ sep ++ Str.join sep (z :: r)) = true
      exact prApp (prApp (h y List.mem_cons_self) hs) (ih fun x m => h x (List.mem_cons_of_mem _ m))
theorem keysT_pr {l : List Str} (h : ∀ y ∈ l, isPr y = true) : isPr (keysT l) = true := by
  unfold keysT
  split
  · decide +kernel
  · split
    · exact prApp (by decide +kernel) (isPr_nat _)
    · exact isPr_join (by decide +kernel) h
theorem ok_pr : isPr (Str.ofString "ok") = true := by decide +kernel
theorem stmR_pr {m m' : MM} {c : Int} {s : Stm} {z : Str} (h : MOk m) (e : stmR m c s = .inr (z, m')) : isPr z = true := by
  cases s with
  | opn n => obtain ⟨_, _, e1, _⟩ := outA_inr e; rw [e1]; exact ok_pr
  | cls n => obtain ⟨_, _, e1, _⟩ := outA_inr e; rw [e1]; exact ok_pr
  | iss n a => obtain ⟨_, _, e1, _⟩ := outA_inr e; rw [e1]; exact ok_pr
  | brn n a => obtain ⟨_, _, e1, _⟩ := outA_inr e; rw [e1]; exact ok_pr
  | pay x y a => obtain ⟨_, _, e1, _⟩ := outA_inr e; rw [e1]; exact ok_pr
  | hld x y a k => obtain ⟨_, _, e1, _⟩ := outA_inr e; rw [e1]; exact ok_pr
  | stl k => obtain ⟨_, _, e1, _⟩ := outA_inr e; rw [e1]; exact ok_pr
  | rel k => obtain ⟨_, _, e1, _⟩ := outA_inr e; rw [e1]; exact ok_pr
  | put k v => obtain ⟨_, _, e1, _⟩ := outS_inr e; rw [e1]; exact ok_pr
  | drp k => obtain ⟨_, _, e1, _⟩ := outS_inr e; rw [e1]; exact ok_pr
  | swp k o v => obtain ⟨_, _, e1, _⟩ := outS_inr e; rw [e1]; exact ok_pr
  | bal n =>
    have e : (match gA m.1.ac n with | none => .inl "missing" | some x => .inr (Str.ofString (toString x.2), m)) = (Sum.inr (z, m') : Sum Str (Str × MM)) := e
    cases g : gA m.1.ac n with
    | none => rw [g] at e; cases e
    | some x =>
      rw [g] at e
      cases e
      obtain ⟨b, hb⟩ := Int.eq_ofNat_of_zero_le (bal_le h.ac g).1
      show isPr (Str.ofString (toString x.2)) = true
      rw [hb]
      exact isPr_nat b
  | atl n a =>
    have e : (match gA m.1.ac n with | none => .inl "missing" | some x => need (decide ((a : Int) ≤ x.2)) m) = (Sum.inr (z, m') : Sum Str (Str × MM)) := e
    cases g : gA m.1.ac n with
    | none => rw [g] at e; cases e
    | some x => rw [g] at e; rw [(need_inr e).1]; exact ok_pr
  | get k =>
    have e : (match stRead m.2 k with | .inl z => .inl z | .inr v => .inr (v, m)) = (Sum.inr (z, m') : Sum Str (Str × MM)) := e
    unfold stRead at e
    cases g : gA m.2 k with
    | none => rw [g] at e; cases e
    | some x =>
      rw [g] at e
      cases e
      exact (h.st.2.2 _ (gA_some g)).2.1.2
  | sam k v =>
    have e : (match stRead m.2 k with | .inl z => .inl z | .inr w => need (decide (w = v)) m) = (Sum.inr (z, m') : Sum Str (Str × MM)) := e
    cases g : stRead m.2 k with
    | inl z => rw [g] at e; cases e
    | inr x => rw [g] at e; rw [(need_inr e).1]; exact ok_pr
  | kys k =>
    have e : (Sum.inr (keysT ((sortK m.2).filter fun z => Txt.startswith z k), m) : Sum Str (Str × MM)) = Sum.inr (z, m') := e
    cases e
    refine keysT_pr fun y my => ?_
    obtain ⟨x, _, mx⟩ := sortK_get h.st.1 (List.mem_filter.mp my).1
    exact (h.st.2.2 _ mx).1.2
theorem Rsn.pr {z : Str} (h : Rsn z) : isPr z = true := by
  unfold Rsn at h
  rcases h with rfl | rfl | rfl | rfl | rfl | rfl | rfl | rfl <;> decide +kernel
theorem stmR_rp {m : MM} {c : Int} {s : Stm} {z : Str} (e : stmR m c s = .inl z) : isPr z = true := by
  cases s with
  | opn n => exact (acOp_rsn (o := ⟨"create", c, n, n, 0, n⟩) (outA_inl e)).pr
  | cls n => exact (acOp_rsn (o := ⟨"close", c, n, n, 0, n⟩) (outA_inl e)).pr
  | iss n a => exact (acOp_rsn (o := ⟨"issue", c, n, n, a, n⟩) (outA_inl e)).pr
  | brn n a => exact (acOp_rsn (o := ⟨"burn", c, n, n, a, n⟩) (outA_inl e)).pr
  | pay x y a => exact (acOp_rsn (o := ⟨"pay", c, x, y, a, x⟩) (outA_inl e)).pr
  | hld x y a k => exact (acOp_rsn (o := ⟨"hold", c, x, y, a, k⟩) (outA_inl e)).pr
  | stl k => exact (acOp_rsn (o := ⟨"settle", c, k, k, 0, k⟩) (outA_inl e)).pr
  | rel k => exact (acOp_rsn (o := ⟨"release", c, k, k, 0, k⟩) (outA_inl e)).pr
  | put k v =>
    have e := outS_inl e
    unfold stPut at e
    split at e <;> split at e <;> cases e <;> decide +kernel
  | drp k =>
    have e := outS_inl e
    unfold stDrop at e
    split at e
    · split at e <;> cases e <;> decide +kernel
    · cases e; decide +kernel
  | swp k o v =>
    have e := outS_inl e
    unfold stSwap at e
    split at e
    · split at e <;> cases e <;> decide +kernel
    · cases e; decide +kernel
  | bal n =>
    have e : (match gA m.1.ac n with | none => .inl "missing" | some x => .inr (Str.ofString (toString x.2), m)) = (Sum.inl z : Sum Str (Str × MM)) := e
    split at e <;> cases e; decide +kernel
  | atl n a =>
    have e : (match gA m.1.ac n with | none => .inl "missing" | some x => need (decide ((a : Int) ≤ x.2)) m) = (Sum.inl z : Sum Str (Str × MM)) := e
    split at e
    · cases e; decide +kernel
    · rw [need_inl e]; decide +kernel
  | get k =>
    have e : (match stRead m.2 k with | .inl z => .inl z | .inr v => .inr (v, m)) = (Sum.inl z : Sum Str (Str × MM)) := e
    unfold stRead at e
    cases g : gA m.2 k with
    | none => rw [g] at e; cases e; decide +kernel
    | some x => rw [g] at e; cases e
  | sam k v =>
    have e : (match stRead m.2 k with | .inl z => .inl z | .inr w => need (decide (w = v)) m) = (Sum.inl z : Sum Str (Str × MM)) := e
    unfold stRead at e
    cases g : gA m.2 k with
    | none => rw [g] at e; cases e; decide +kernel
    | some x => rw [g] at e; rw [need_inl e]; decide +kernel
  | kys k => cases e
def txR (r : Sum Str (Str × MM)) : Str := match r with
  | .inl z => z
  | .inr (z, _) => z
def AnsOk (z : Str) : Prop := isPr z = true ∧ z.length ≤ 200
theorem idx_len {i : Nat} (h : i ≤ 1000) : (Str.ofString (toString (i : Int))).length ≤ 11 := itx_len (i := (i : Int)) (k := 10) (by omega) (log2_of_lt (by omega) (by have : (2:Nat) ^ 10 = 1024 := rfl; omega))
theorem goR_ok {c : Int} (hc : c.natAbs ≤ 100) : ∀ (ss : List Stm) (i : Nat) (ans : Str) (m : MM), MOk m → (∀ s ∈ ss, StmOk s) → AnsOk ans → i + ss.length ≤ 1000 → AnsOk (txR (goR c i ans m ss))
  | [], _, ans, _, _, _, h, _ => h
  | s :: r, i, ans, m, ok, so, h, hi => by
    rw [List.length_cons] at hi
    have e0 : Str.empty.length = 0 := rfl
    have e1 : (Str.ofString "refused ").length = 8 := by decide
    have e2 : (Str.ofString " ").length = 1 := by decide
    have e3 : (Str.ofString " long").length = 5 := by decide
    have p1 : isPr (Str.empty ++ Str.ofString "refused ") = true := by decide +kernel
    have p3 : isPr (Str.ofString " long") = true := by decide +kernel
    have li := idx_len (i := i) (by omega)
    rw [goR]
    cases hr : stmR m c s with
    | inl z =>
      refine ⟨prApp (prApp (prApp p1 (isPr_nat i)) (by decide +kernel)) (stmR_rp hr), ?_⟩
      have := stmR_rz hr
      show (Str.empty ++ Str.ofString "refused " ++ Str.ofString (toString (i : Int)) ++ Str.ofString " " ++ z).length ≤ 200
      simp only [Str.length_append, e0, e1, e2]; omega
    | inr q =>
      obtain ⟨res, m'⟩ := q
      dsimp only
      obtain ⟨ok', _⟩ := stmR_ok ok (so s List.mem_cons_self) hc hr
      have pr := stmR_pr ok hr
      have pn : isPr (if 0 < i then (Str.empty ++ ans) ++ Str.ofString ";" ++ res else res) = true := by
        split
        · exact prApp (prApp (prApp (by decide +kernel) h.1) (by decide +kernel)) pr
        · exact pr
      generalize hn : (if 0 < i then (Str.empty ++ ans) ++ Str.ofString ";" ++ res else res) = an at pn
      split
      · refine ⟨prApp (prApp p1 (isPr_nat i)) p3, ?_⟩
        show (Str.empty ++ Str.ofString "refused " ++ Str.ofString (toString (i : Int)) ++ Str.ofString " long").length ≤ 200
        simp only [Str.length_append, e0, e1, e3]; omega
      · rename_i h200
        exact goR_ok hc r (i + 1) an m' ok' (fun x mx => so x (List.mem_cons_of_mem _ mx)) ⟨pn, by omega⟩ (by omega)
theorem runR_ok {c : Int} {m : MM} {ss : List Stm} (hc : c.natAbs ≤ 100) (ok : MOk m) (so : ∀ s ∈ ss, StmOk s) (l : ss.length ≤ 1000) : AnsOk (txR (runR m c ss)) := goR_ok hc ss 0 _ m ok so ⟨by decide +kernel, by decide⟩ (by omega)
theorem rtR_ok {c : Int} {m : MM} {z : Str} (hc : c.natAbs ≤ 100) (ok : MOk m) : AnsOk (txR (rtR m c z)) := by
  unfold rtR
  cases h : pcAll z.cps.toList with
  | inl q =>
    obtain ⟨r, k⟩ := q
    obtain ⟨k1, r1, r2⟩ := pcAll_bad h
    have e0 : Str.empty.length = 0 := rfl
    have e1 : (Str.ofString "invalid ").length = 8 := by decide
    have e2 : (Str.ofString " ").length = 1 := by decide
    have li := idx_len (i := k) (by omega)
    refine ⟨prApp (prApp (prApp (by decide +kernel) (isPr_nat k)) (by decide +kernel)) r2, ?_⟩
    show (Str.empty ++ Str.ofString "invalid " ++ Str.ofString (toString (k : Int)) ++ Str.ofString " " ++ r).length ≤ 200
    simp only [Str.length_append, e0, e1, e2]; omega
  | inr rs =>
    obtain ⟨f1, f2⟩ := ssOf_eq (pcAll_stm h)
    have ln : (ssOf rs).length ≤ 1000 := by
      have := pcAll_len h
      rw [f1, List.length_map] at this
      omega
    exact runR_ok hc ok f2 ln

/-! ### _law_rich -/
def spRich : Sp := fun vs H Q _ => ∃ (c k : Int), vs = [.int c, .int k] ∧ 0 ≤ k ∧ k ≤ 100 ∧ ∀ r : Int, Q (.int r) H
section
variable {P : Program} {w : World} {K : PySem.W.Frag} {mg : Str → Option Value} {base : Heap}
theorem c__law_rich {C_Accounts : Addr} {C_Sessions : Addr} {C_Store : Addr} {C_State : Addr} {C_BadText : Addr} {C_Refused : Addr} {C_BadCommand : Addr} {C_VERBS : Addr} (T : Txt K mg w C_Accounts C_Sessions C_Store C_State C_BadText C_Refused C_BadCommand C_VERBS) : Cal P w K mg base 1 "_law_rich" spRich [] := by
  refine cal T.d__law_rich sc__law_rich (fun vs H Q E h => ?_) (fun f cdv A' outer s H vs Q E hr h => ?_)
  · obtain ⟨c, k, rfl, _⟩ := h; rfl
  obtain ⟨c, k, rfl, hk0, hk1, q⟩ := h
  refine ⟨_, (pss_cons (ps_if (pt_cmpR op_ge (pv 0) (pe_op op_pow pe_int pe_int) (nomark _)) (pss_one (ps_ret (pe_callTy call_int1 (by rfl) T.z_int (by decide +kernel) (pa_cons (pv 0) pa_nil)))) pss_nil)
      (pss_cons (ps_set (i := 2) sc__law_rich.nd rfl (Or.inl rfl) (pe_op op_mod (pe_callTy call_int1 (by rfl) T.z_int (by decide +kernel) (pa_cons (pe_op op_add (pe_op op_add (pe_op op_mul (pv 0) pe_int) (pe_op op_mul (pv 1) pe_int)) pe_int) pa_nil)) pe_int))
      (pss_one (ps_ret (pe_op op_add (pe_op op_mul (pv 2) pe_int) (pe_op op_mod (pe_callTy call_int1 (by rfl) T.z_int (by decide +kernel) (pa_cons (pe_op op_add (pe_op op_mul (pv 2) pe_int) (pv 0)) pa_nil)) pe_int)))))), ?_⟩
  walk_at "rds"
  refine ite2 (fun _ => ?_) (fun _ => ?_)
  · walk_at "rds"
    exact q _
  · walk_at "rds"
    exact q _
end

/-! ### statements as texts -/
def sTx : V → List Nat
  | .str z => z.cps.toList
  | .int n => (Str.ofString (toString n)).cps.toList
  | _ => []
theorem sTx_nat (n : Nat) : sTx (.int n) = TL.numL n := TL.tl_num n
theorem wrd_str (z : Str) : wrd z.cps.toList = .str z := congrArg V.str (str_eq_l.mpr rfl)
def ArgV (v : V) : Prop := (∃ z : Str, v = .str z ∧ z.length ≤ 1000) ∨ ∃ n : Nat, v = .int n ∧ n < 10 ^ 12
def FitK (k : Str) (x : V) : Prop := if k = "amount" then ∃ n : Nat, x = .int n ∧ n < 10 ^ 12 else ∃ z : Str, x = .str z ∧ kindOk k z.cps.toList = true
def Good (xs : List V) : Prop := ∃ (v : Str) (ks : List Str) (args : List V), xs = .str v :: args ∧ verbT.lookup v = some ks ∧ args.length = ks.length ∧ ∀ (i : Nat) (k : Str) (x : V), ks[i]? = some k → args[i]? = some x → FitK k x
theorem spA_jn {c : Nat} : ∀ {ls : List (List Nat)}, ls ≠ [] → (∀ l ∈ ls, c ∉ l) → spA c (jnL c ls) = ls
  | [], h, _ => absurd rfl h
  | [x], _, h => by rw [jnL]; exact spA_free (h x (by simp))
  | x :: y :: r, _, h => by
    rw [jnL, spA_word _ (h x (by simp)), spA_jn (by simp) fun l m => h l (List.mem_cons_of_mem _ m)]
theorem jnL_ne {c : Nat} {x : List Nat} {ls : List (List Nat)} (h : x ≠ []) : jnL c (x :: ls) ≠ [] := by
  cases ls with
  | nil => exact h
  | cons y r => rw [jnL]; simp
theorem jnL_mem {c : Nat} : ∀ {ls : List (List Nat)} {x : Nat}, x ∈ jnL c ls → x = c ∨ ∃ l ∈ ls, x ∈ l
  | [], _, h => nomatch h
  | [y], x, h => .inr ⟨y, by simp, h⟩
  | y :: z :: r, x, h => by
    rw [jnL] at h
    rcases List.mem_append.mp h with h | h
    · exact .inr ⟨y, by simp, h⟩
    · rcases List.mem_cons.mp h with h | h
      · exact .inl h
      · rcases jnL_mem h with h | ⟨l, m, h⟩
        · exact .inl h
        · exact .inr ⟨l, List.mem_cons_of_mem _ m, h⟩
/-- a word of a statement -/
def Wd (l : List Nat) : Prop := l ≠ [] ∧ 32 ∉ l ∧ 59 ∉ l ∧ ∀ c ∈ l, prC c = true
theorem wd_of {l : List Nat} {p : Nat → Bool} (h0 : 1 ≤ l.length) (h : l.all p = true) (hp : ∀ c, p c = true → c ≠ 32 ∧ c ≠ 59 ∧ prC c = true) : Wd l := by
  have k := fun c m => hp c (List.all_eq_true.mp h c m)
  exact ⟨fun z => by rw [z] at h0; simp at h0, fun m => (k _ m).1 rfl, fun m => (k _ m).2.1 rfl, fun c m => (k c m).2.2⟩
theorem wd_num (n : Nat) : Wd (TL.numL n) := by
  have d := TL.numL_digits n
  refine ⟨TL.numL_ne n, fun m => by have := d _ m; omega, fun m => by have := d _ m; omega, fun c m => ?_⟩
  have := d c m
  unfold prC
  rw [decide_eq_true (by omega), decide_eq_true (by omega), decide_eq_true (by omega)]; rfl
theorem small_mem {ch : List Nat} (h : ∀ c ∈ ch, c ≠ 32 ∧ c ≠ 59 ∧ prC c = true) : ∀ c, decide (c ∈ ch) = true → c ≠ 32 ∧ c ≠ 59 ∧ prC c = true := fun c e => h c (of_decide_eq_true e)
theorem wd_kind {k : Str} {l : List Nat} (h : kindOk k l = true) : Wd l ∧ l.length ≤ 40 := by
  unfold kindOk at h
  split at h
  · unfold nmL at h
    rw [Bool.and_eq_true, Bool.and_eq_true] at h
    have h2 := of_decide_eq_true h.1.2
    exact ⟨wd_of (of_decide_eq_true h.1.1) h.2 (small_mem (by decide +kernel)), by omega⟩
  split at h
  · unfold amL at h
    rw [Bool.and_eq_true] at h
    obtain ⟨a, b, _⟩ := dcL_iff.mp h.2
    have h2 := of_decide_eq_true h.1
    have e := dcL_num h.2
    exact ⟨by rw [← e]; exact wd_num _, by omega⟩
  split at h
  · unfold kyL at h
    rw [Bool.and_eq_true, Bool.and_eq_true] at h
    have h2 := of_decide_eq_true h.1.2
    exact ⟨wd_of (of_decide_eq_true h.1.1) h.2 (small_mem (by decide +kernel)), by omega⟩
  · unfold vlL at h
    rw [Bool.and_eq_true, Bool.and_eq_true, Bool.and_eq_true, Bool.and_eq_true] at h
    obtain ⟨⟨⟨h1, h2⟩, h3⟩, h4, h5⟩ := h
    have h5 := of_decide_eq_true h5
    exact ⟨⟨fun z => (by rw [z] at h1; cases h1), fun m => (by rw [decide_eq_true m] at h2; cases h2), fun m => (by rw [decide_eq_true m] at h3; cases h3), fun c m => List.all_eq_true.mp h4 c m⟩, by omega⟩
theorem wd_fit {k : Str} {x : V} (h : FitK k x) : Wd (sTx x) ∧ ArgV x := by
  unfold FitK at h
  split at h
  · obtain ⟨n, rfl, hn⟩ := h
    exact ⟨by rw [sTx_nat]; exact wd_num n, .inr ⟨n, rfl, hn⟩⟩
  · obtain ⟨z, rfl, hz⟩ := h
    obtain ⟨a, b⟩ := wd_kind hz
    rw [len_tl] at b
    exact ⟨a, .inl ⟨z, rfl, by omega⟩⟩
theorem wd_verb {v : Str} {ks : List Str} (h : verbT.lookup v = some ks) : Wd v.cps.toList ∧ v.length ≤ 1000 := by
  have m := lookup_mem h
  have key : ∀ x ∈ verbT, (x.1.cps.toList ≠ [] ∧ 32 ∉ x.1.cps.toList ∧ 59 ∉ x.1.cps.toList ∧ x.1.cps.toList.all prC = true) ∧ x.1.length ≤ 1000 := by decide +kernel
  obtain ⟨⟨a, b, c, d⟩, e⟩ := key _ m
  exact ⟨⟨a, b, c, fun y my => List.all_eq_true.mp d y my⟩, e⟩
theorem good_wd {xs : List V} (h : Good xs) : ∀ x ∈ xs, Wd (sTx x) ∧ ArgV x := by
  obtain ⟨v, ks, args, rfl, hl, len, fit⟩ := h
  intro x m
  rcases List.mem_cons.mp m with rfl | m
  · obtain ⟨a, b⟩ := wd_verb hl
    exact ⟨a, .inl ⟨v, rfl, b⟩⟩
  · obtain ⟨i, hi⟩ := List.getElem?_of_mem m
    have li := (List.getElem?_eq_some_iff.mp hi).1
    exact wd_fit (fit i ks[i] x (List.getElem?_eq_getElem (by omega)) hi)
theorem args_back : ∀ {ks : List Str} {args : List V}, args.length = ks.length → (∀ (i : Nat) (k : Str) (x : V), ks[i]? = some k → args[i]? = some x → FitK k x) → argBad ks (args.map sTx) = none ∧ argsV ks (args.map sTx) = args
  | [], [], _, _ => ⟨rfl, rfl⟩
  | [], _ :: _, h, _ => by simp at h
  | _ :: _, [], h, _ => by simp at h
  | k :: ks, x :: args, h, fit => by
    obtain ⟨a, b⟩ := args_back (ks := ks) (args := args) (by simpa using h) fun i k x e1 e2 => fit (i + 1) k x (by simpa using e1) (by simpa using e2)
    have f := fit 0 k x rfl rfl
    have hk : kindOk k (sTx x) = true ∧ argV k (sTx x) = x := by
      unfold FitK at f
      unfold argV
      split at f
      · rename_i ek
        obtain ⟨n, rfl, hn⟩ := f
        rw [if_pos ek, sTx_nat]
        refine ⟨?_, by unfold dvL; rw [TL.numL_val]⟩
        unfold kindOk
        rw [if_neg (by rw [ek]; decide +kernel), if_pos ek]
        unfold amL
        have := TL.numL_len (n := n) (k := 12) (by decide) hn
        rw [num_dcL, decide_eq_true (by omega)]; rfl
      · rename_i ek
        obtain ⟨z, rfl, hz⟩ := f
        rw [if_neg ek]
        exact ⟨hz, congrArg V.str (str_eq_l.mpr rfl)⟩
    refine ⟨?_, ?_⟩
    · show (if kindOk k (sTx x) = true then argBad ks (args.map sTx) else some k) = none
      rw [if_pos hk.1, a]
    · show argV k (sTx x) :: argsV ks (args.map sTx) = _
      rw [hk.2, b]
def stx (xs : List V) : List Nat := jnL 32 (xs.map sTx)
theorem stx_back {xs : List V} {i : Nat} (h : Good xs) : psR i (stx xs) = .inr xs ∧ spA 32 (stx xs) = xs.map sTx := by
  have w := good_wd h
  have hs : spA 32 (stx xs) = xs.map sTx := by
    refine spA_jn ?_ fun l m => ?_
    · obtain ⟨v, _, args, rfl, _⟩ := h; simp
    · obtain ⟨x, mx, rfl⟩ := List.mem_map.mp m
      exact (w x mx).1.2.1
  refine ⟨?_, hs⟩
  unfold psR
  have h1 : stx xs ≠ [] := by
    obtain ⟨v, _, args, rfl, _⟩ := h
    exact jnL_ne (w _ (by simp)).1.1
  rw [if_neg h1, hs, if_neg (fun m => by obtain ⟨x, mx, ex⟩ := List.mem_map.mp m; exact (w x mx).1.1 ex)]
  obtain ⟨v, ks, args, rfl, hl, len, fit⟩ := h
  obtain ⟨a, b⟩ := args_back len fit
  have ev : (⟨(sTx (.str v)).toArray⟩ : Str) = v := str_eq_l.mpr rfl
  rw [List.map_cons, psW_some (by rw [ev]; exact hl), List.length_map, if_pos len, a, b, ev]
def ctx (xss : List (List V)) : List Nat := jnL 59 (xss.map stx)
theorem pcL_good : ∀ {xss : List (List V)} {k : Nat}, (∀ xs ∈ xss, Good xs) → pcL k (xss.map stx) = .inr xss
  | [], _, _ => by rw [List.map_nil, pcL]
  | xs :: r, k, h => by
    rw [List.map_cons, pcL, (stx_back (h xs (by simp))).1, pcL_good fun y m => h y (List.mem_cons_of_mem _ m)]
theorem stx_free {xs : List V} (h : Good xs) : 59 ∉ stx xs ∧ ∀ c ∈ stx xs, prC c = true := by
  have w := good_wd h
  constructor
  · intro m
    rcases jnL_mem m with e | ⟨l, ml, e⟩
    · cases e
    · obtain ⟨x, mx, rfl⟩ := List.mem_map.mp ml
      exact (w x mx).1.2.2.1 e
  · intro c m
    rcases jnL_mem m with e | ⟨l, ml, e⟩
    · rw [e]; decide
    · obtain ⟨x, mx, rfl⟩ := List.mem_map.mp ml
      exact (w x mx).1.2.2.2 c e
theorem ctx_back {xss : List (List V)} (hn : xss ≠ []) (h : ∀ xs ∈ xss, Good xs) (hl : (ctx xss).length ≤ 240) : pcAll (ctx xss) = .inr xss ∧ spA 59 (ctx xss) = xss.map stx := by
  have hs : spA 59 (ctx xss) = xss.map stx := spA_jn (by simpa using hn) fun l m => by
    obtain ⟨x, mx, rfl⟩ := List.mem_map.mp m
    exact (stx_free (h x mx)).1
  refine ⟨?_, hs⟩
  unfold pcAll
  rw [if_neg (by omega), if_pos, hs, pcL_good h]
  refine List.all_eq_true.mpr fun c m => ?_
  rcases jnL_mem m with e | ⟨l, ml, e⟩
  · rw [e]; decide
  · obtain ⟨x, mx, rfl⟩ := List.mem_map.mp ml
    exact (stx_free (h x mx)).2 c e
theorem ctx_verbs {xss : List (List V)} (hn : xss ≠ []) (h : ∀ xs ∈ xss, Good xs) (hs : spA 59 (ctx xss) = xss.map stx) : ∀ p ∈ spA 59 (ctx xss), ∀ v ws, spA 32 p = v :: ws → ∃ ks, verbT.lookup (⟨v.toArray⟩ : Str) = some ks := by
  intro p m v ws e
  rw [hs] at m
  obtain ⟨xs, mx, rfl⟩ := List.mem_map.mp m
  rw [(stx_back (i := 0) (h xs mx)).2] at e
  obtain ⟨v', ks, args, rfl, hl, _⟩ := h xs mx
  rw [List.map_cons] at e
  injection e with e _
  refine ⟨ks, ?_⟩
  rw [← e, show (⟨(sTx (.str v')).toArray⟩ : Str) = v' from str_eq_l.mpr rfl]
  exact hl

theorem argV_len {x : V} (h : ArgV x) : (sTx x).length ≤ 1000 := by
  rcases h with ⟨z, rfl, hz⟩ | ⟨n, rfl, hn⟩
  · show z.cps.toList.length ≤ 1000
    rw [len_tl]; exact hz
  · rw [sTx_nat]
    have := TL.numL_len (n := n) (k := 12) (by decide) hn
    omega
theorem jnL_le {c m : Nat} : ∀ {ls : List (List Nat)}, (∀ l ∈ ls, l.length ≤ m) → (jnL c ls).length ≤ (m + 1) * ls.length
  | [], _ => Nat.zero_le _
  | [x], h => by
    have := h x (by simp)
    show x.length ≤ (m + 1) * 1
    omega
  | x :: y :: r, h => by
    have a := jnL_le (c := c) (ls := y :: r) fun l ml => h l (List.mem_cons_of_mem _ ml)
    have b := h x (by simp)
    rw [jnL, List.length_append, List.length_cons, List.length_cons (a := x), Nat.mul_succ]
    omega

def spCellI (K : PySem.W.Frag) : Sp := fun vs H Q _ => ∃ (a : Addr) (ns : List Int) (k : Nat), vs = [.ref a, .int k] ∧ SqL K H a (ns.map V.int) ∧ Q (.int (ns.getD k 0)) H
def spWord : Sp := fun vs H Q _ => ∃ (n : Nat) (ch : Str) (seed step : Int), vs = [.int n, .str ch, .int seed, .int step] ∧ n ≤ 100 ∧ 0 < ch.length ∧ ch.length ≤ 1000 ∧ ∀ z : Str, z.length = n → (∀ c ∈ z.cps.toList, c ∈ ch.cps.toList) → Q (.str z) H
section
variable {P : Program} {w : World} {K : PySem.W.Frag} {mg : Str → Option Value} {base : Heap}
theorem c__law_word {C_Accounts : Addr} {C_Sessions : Addr} {C_Store : Addr} {C_State : Addr} {C_BadText : Addr} {C_Refused : Addr} {C_BadCommand : Addr} {C_VERBS : Addr} (T : Txt K mg w C_Accounts C_Sessions C_Store C_State C_BadText C_Refused C_BadCommand C_VERBS) : Cal P w K mg base 1 "_law_word" spWord [] := by
  refine cal T.d__law_word sc__law_word (fun vs H Q E h => ?_) (fun f cdv A' outer s H vs Q E hr h => ?_)
  · obtain ⟨n, ch, seed, step, rfl, _⟩ := h; rfl
  obtain ⟨n, ch, seed, step, rfl, hn, h0, h1, q⟩ := h
  refine ⟨_, (pss_cons (ps_set (i := 4) sc__law_word.nd rfl (Or.inl rfl) pe_str)
      (pss_cons (ps_set (i := 5) sc__law_word.nd rfl (Or.inl rfl) (pe_callTy call_int1 (by rfl) T.z_int (by decide +kernel) (pa_cons (pv 2) pa_nil)))
      (pss_cons (ps_for PassesOwn.never rfl (pi_range1 (by rfl) T.z_range (pa_cons (pv 0) pa_nil)) (pg_name (i := 6) sc__law_word.nd rfl (Or.inl rfl)) (pss_cons (ps_set (i := 4) sc__law_word.nd rfl (Or.inl rfl) (pe_op op_add_str (pv 4) (pe_ix ix_str (pv 1) (pe_op op_mod (pe_callTy call_int1 (by rfl) T.z_int (by decide +kernel) (pa_cons (pe_op op_add (pv 5) (pe_op op_mul (pv 6) (pv 3))) pa_nil)) (pe_callB call_len_str (by rfl) T.z_len (by decide +kernel) (pa_cons (pv 1) pa_nil))) (fun _ _ => rfl))))
      (pss_one (ps_set (i := 5) sc__law_word.nd rfl (Or.inl rfl) (pe_op op_fdiv (pv 5) (pe_callB call_len_str (by rfl) T.z_len (by decide +kernel) (pa_cons (pv 1) pa_nil)))))))
      (pss_one (ps_ret (pv 4)))))), ?_⟩
  walk_at "rds"
  refine for_it walk_range (Pv := fun i σ H' => H' = H ∧ ∃ (z : Str) (r : Int) (y : Option V), σ = [some (.int n), some (.str ch), some (.int seed), some (.int step), some (.str z), some (.int r), y] ∧ z.length = i ∧ ∀ c ∈ z.cps.toList, c ∈ ch.cps.toList) ⟨rfl, _, _, _, rfl, by decide, (fun c m => by cases m)⟩ (fun _ _ _ _ _ => trivial) (fun i x σ H1 H2 hi hp hy => ?_) (fun σ H1 hp => ?_)
  · obtain ⟨rfl, z, r, y, rfl, hz, hc⟩ := hp
    obtain ⟨rfl, rfl⟩ := hy
    have hi' : i < n := by omega
    walk_at "rds"
    obtain ⟨c, hcm, hat⟩ := atI_lt (xs := ch.cps.toList) (i := (r + (0 + (i : Int)) * step) % (ch.length : Int)) (Int.emod_nonneg _ (by omega)) (by rw [len_tl]; exact Int.emod_lt_of_pos _ (by omega))
    refine ⟨ch, _, c, rfl, rfl, sz1000 (by omega), hat, ?_⟩
    refine ⟨z, _, rfl, rfl, ?_, ?_⟩
    · exact sz1000 (by rw [hz]; show i + 1 ≤ 100000; omega)
    walk_at "rds"
    refine ⟨rfl, z ++ ⟨#[c]⟩, _, _, rfl, ?_, ?_⟩
    · rw [Str.length_append, hz]; rfl
    · intro d hd
      rw [app_tl] at hd
      rcases List.mem_append.mp hd with hd | hd
      · exact hc d hd
      · rw [List.mem_singleton.mp hd]; exact hcm
  · obtain ⟨rfl, z, r, y, rfl, hz, hc⟩ := hp
    walk_at "rds"
    exact q z (by omega) hc
end

section
variable {P : Program} {w : World} {K : PySem.W.Frag} {mg : Str → Option Value} {base : Heap}
theorem c__law_cell {C_Accounts : Addr} {C_Sessions : Addr} {C_Store : Addr} {C_State : Addr} {C_BadText : Addr} {C_Refused : Addr} {C_BadCommand : Addr} {C_VERBS : Addr} (T : Txt K mg w C_Accounts C_Sessions C_Store C_State C_BadText C_Refused C_BadCommand C_VERBS) : Cal P w K mg base 1 "_law_cell" (spCellI K) [] := by
  refine cal T.d__law_cell sc__law_cell (fun vs H Q E h => ?_) (fun f cdv A outer s H vs Q E hr h => ?_)
  · obtain ⟨a, ns, k, rfl, _⟩ := h; rfl
  obtain ⟨a, ns, k, rfl, hS, q⟩ := h
  refine ⟨_, (pss_cons (ps_if (pt_cmpR op_lt (pv 1) (pe_callB (klen (K := K)) (by rfl) T.z_len (by decide +kernel) (pa_cons (pv 0) pa_nil)) (nomark _)) (pss_one (ps_ret (pe_callTy call_int1 (by rfl) T.z_int (by decide +kernel) (pa_cons (pe_ix (kixl (K := K)) (pv 0) (pv 1) (fun _ _ => rfl)) pa_nil)))) pss_nil)
      (pss_one (ps_ret pe_int))), ?_⟩
  refine ⟨.int k, rfl, .ref a, rfl, a, _, rfl, .inl hS, _, _, rfl, rfl, _, rfl, ite2 (fun e => ?_) (fun e => ?_)⟩
  · have e := of_decide_eq_true e
    rw [List.length_map] at e
    have e1 : k < ns.length := by omega
    have g : (ns.map V.int)[k]? = some (.int (ns.getD k 0)) := by
      rw [List.getElem?_map, List.getD_eq_getElem?_getD, List.getElem?_eq_getElem e1]; rfl
    refine ⟨.ref a, rfl, .int k, rfl, a, _, _, _, rfl, rfl, hS, atI_nat g, ?_⟩
    walk_at "rds"
    exact q
  · have e2 : ¬ ((k : Int) < ((ns.map V.int).length : Int)) := fun z => e (decide_eq_true z)
    rw [List.length_map] at e2
    have e1 : ns.getD k 0 = 0 := by
      rw [List.getD_eq_getElem?_getD, List.getElem?_eq_none (by omega)]; rfl
    rw [e1] at q
    exact q
end

def formsT : List (Str × Str) := [("open", "n"), ("close", "n"), ("issue", "na"), ("burn", "na"), ("pay", "nna"), ("balance", "n"), ("atleast", "na"), ("hold", "nnak"), ("settle", "k"), ("release", "k"), ("put", "kv"), ("get", "k"), ("drop", "k"), ("swap", "kvv"), ("same", "kv"), ("keys", "k")]
def conv (c : Nat) : Str := if c = 110 then "name" else if c = 97 then "amount" else if c = 107 then "key" else "value"
theorem forms_ok : ∀ x ∈ formsT, verbT.lookup x.1 = some (x.2.cps.toList.map conv) ∧ x.2.length ≤ 4 := by decide +kernel
def spStr (k : Str) : Sp := fun vs H Q _ => ∃ (c : Int), vs = [.int c] ∧ ∀ H' (z : Str), Same H H' → kindOk k z.cps.toList = true → Q (.str z) H'
def spForms : Sp := fun vs H Q _ => vs = [] ∧ ∀ H' b (as : List Addr), Same H H' → H' b = some (.lst (as.map V.ref)) → as.length = 16 → (∀ (i : Nat) (a : Addr) (x : Str × Str), as[i]? = some a → formsT[i]? = some x → H' a = some (.tup [.str x.1, .str x.2])) → Q (.ref b) H'
def spStmt : Sp := fun vs H Q _ => ∃ (a b c : Int), vs = [.int a, .int b, .int c] ∧ ∀ H' t xs, Same H H' → H t = none → H' t = some (.tup xs) → Good xs → Q (.ref t) H'
section
variable {P : Program} {w : World} {K : PySem.W.Frag} {mg : Str → Option Value} {base : Heap}
theorem c__law_name {C_Accounts : Addr} {C_Sessions : Addr} {C_Store : Addr} {C_State : Addr} {C_BadText : Addr} {C_Refused : Addr} {C_BadCommand : Addr} {C_VERBS : Addr} (T : Txt K mg w C_Accounts C_Sessions C_Store C_State C_BadText C_Refused C_BadCommand C_VERBS) : Cal P w K mg base 2 "_law_name" (spStr "name") [] := by
  have c__law_word := c__law_word (P := P) (w := w) (base := base) T
  refine cal T.d__law_name sc__law_name (fun vs H Q E h => ?_) (fun f cdv A' outer s H vs Q E hr h => ?_)
  · obtain ⟨c, rfl, _⟩ := h; rfl
  obtain ⟨c, rfl, q⟩ := h
  refine ⟨_, (pss_cons (ps_if (pt_cmpR op_lt (pe_op op_mod (pe_callTy call_int1 (by rfl) T.z_int (by decide +kernel) (pa_cons (pv 0) pa_nil)) pe_int) pe_int (nomark _)) (pss_one (ps_ret (pe_ix (kixl (K := K)) (pe_lst (pa_cons pe_str (pa_cons pe_str (pa_cons pe_str pa_nil)))) (pe_op op_mod (pe_op op_fdiv (pv 0) pe_int) pe_int) (fun _ _ => rfl)))) pss_nil)
      (pss_cons (ps_set (i := 1) sc__law_name.nd rfl (Or.inl rfl) (pe_op op_add pe_int (pe_op op_mod (pe_op op_fdiv (pv 0) pe_int) pe_int)))
      (pss_one (ps_ret (pe_c c__law_word hr (by omega) (by rfl) (pa_cons (pv 1) (pa_cons pe_str (pa_cons (pe_op op_fdiv (pv 0) pe_int) (pa_cons pe_int pa_nil))))))))), ?_⟩
  walk_at "rds"
  refine ite2 (fun _ => ?_) (fun _ => ?_)
  · walk_at "rds"
    intro L hL
    walk_at "rds"
    obtain ⟨v, hv, hat⟩ := atI_lt (xs := [V.str "ann", .str "bob", .str "eve"]) (i := c / 4 % 3) (by omega) (by show c / 4 % 3 < 3; omega)
    have : ∃ z : Str, v = .str z ∧ kindOk "name" z.cps.toList = true := by
      simp only [List.mem_cons, List.not_mem_nil, or_false] at hv
      rcases hv with rfl | rfl | rfl <;> exact ⟨_, rfl, by decide +kernel⟩
    obtain ⟨z, rfl, hz⟩ := this
    refine ⟨L, _, _, _, rfl, rfl, sq upd_same, hat, ?_⟩
    exact q _ _ (same_upd hL) hz
  walk_at "rds"
  obtain ⟨n, hn⟩ := Int.eq_ofNat_of_zero_le (show 0 ≤ 1 + c / 4 % 12 by omega)
  delta tNil
  refine ⟨n, _, _, _, by rw [← hn]; rfl, by omega, by decide +kernel, by decide +kernel, fun z hz hc => ?_⟩
  refine q _ z (Same.refl _) ?_
  unfold kindOk
  rw [if_pos rfl]
  unfold nmL
  rw [len_tl, hz, decide_eq_true (by omega), decide_eq_true (by omega)]
  exact List.all_eq_true.mpr fun d m => decide_eq_true (hc d m)
theorem c__law_key {C_Accounts : Addr} {C_Sessions : Addr} {C_Store : Addr} {C_State : Addr} {C_BadText : Addr} {C_Refused : Addr} {C_BadCommand : Addr} {C_VERBS : Addr} (T : Txt K mg w C_Accounts C_Sessions C_Store C_State C_BadText C_Refused C_BadCommand C_VERBS) : Cal P w K mg base 2 "_law_key" (spStr "key") [] := by
  have c__law_word := c__law_word (P := P) (w := w) (base := base) T
  refine cal T.d__law_key sc__law_key (fun vs H Q E h => ?_) (fun f cdv A' outer s H vs Q E hr h => ?_)
  · obtain ⟨c, rfl, _⟩ := h; rfl
  obtain ⟨c, rfl, q⟩ := h
  refine ⟨_, (pss_cons (ps_if (pt_cmpR op_lt (pe_op op_mod (pe_callTy call_int1 (by rfl) T.z_int (by decide +kernel) (pa_cons (pv 0) pa_nil)) pe_int) pe_int (nomark _)) (pss_one (ps_ret (pe_ix (kixl (K := K)) (pe_lst (pa_cons pe_str (pa_cons pe_str (pa_cons pe_str pa_nil)))) (pe_op op_mod (pe_op op_fdiv (pv 0) pe_int) pe_int) (fun _ _ => rfl)))) pss_nil)
      (pss_cons (ps_set (i := 1) sc__law_key.nd rfl (Or.inl rfl) (pe_op op_add pe_int (pe_op op_mod (pe_op op_fdiv (pv 0) pe_int) pe_int)))
      (pss_one (ps_ret (pe_c c__law_word hr (by omega) (by rfl) (pa_cons (pv 1) (pa_cons pe_str (pa_cons (pe_op op_fdiv (pv 0) pe_int) (pa_cons pe_int pa_nil))))))))), ?_⟩
  walk_at "rds"
  refine ite2 (fun _ => ?_) (fun _ => ?_)
  · walk_at "rds"
    intro L hL
    walk_at "rds"
    obtain ⟨v, hv, hat⟩ := atI_lt (xs := [V.str "k", .str "k.1", .str "k.22"]) (i := c / 4 % 3) (by omega) (by show c / 4 % 3 < 3; omega)
    have : ∃ z : Str, v = .str z ∧ kindOk "key" z.cps.toList = true := by
      simp only [List.mem_cons, List.not_mem_nil, or_false] at hv
      rcases hv with rfl | rfl | rfl <;> exact ⟨_, rfl, by decide +kernel⟩
    obtain ⟨z, rfl, hz⟩ := this
    refine ⟨L, _, _, _, rfl, rfl, sq upd_same, hat, ?_⟩
    exact q _ _ (same_upd hL) hz
  walk_at "rds"
  obtain ⟨n, hn⟩ := Int.eq_ofNat_of_zero_le (show 0 ≤ 1 + c / 4 % 20 by omega)
  delta tNil
  refine ⟨n, _, _, _, by rw [← hn]; rfl, by omega, by decide +kernel, by decide +kernel, fun z hz hc => ?_⟩
  refine q _ z (Same.refl _) ?_
  unfold kindOk
  rw [if_neg (by decide +kernel), if_neg (by decide +kernel), if_pos rfl]
  unfold kyL
  rw [len_tl, hz, decide_eq_true (by omega), decide_eq_true (by omega)]
  exact List.all_eq_true.mpr fun d m => decide_eq_true ((show ∀ d ∈ (Str.ofString "abcdefghijklmnopqrstuvwxyz0123456789.").cps.toList, d ∈ keysL by decide +kernel) d (hc d m))
theorem c__law_value {C_Accounts : Addr} {C_Sessions : Addr} {C_Store : Addr} {C_State : Addr} {C_BadText : Addr} {C_Refused : Addr} {C_BadCommand : Addr} {C_VERBS : Addr} (T : Txt K mg w C_Accounts C_Sessions C_Store C_State C_BadText C_Refused C_BadCommand C_VERBS) : Cal P w K mg base 2 "_law_value" (spStr "value") [] := by
  have c__law_word := c__law_word (P := P) (w := w) (base := base) T
  refine cal T.d__law_value sc__law_value (fun vs H Q E h => ?_) (fun f cdv A' outer s H vs Q E hr h => ?_)
  · obtain ⟨c, rfl, _⟩ := h; rfl
  obtain ⟨c, rfl, q⟩ := h
  refine ⟨_, (pss_cons (ps_if (pt_cmpR op_lt (pe_op op_mod (pe_callTy call_int1 (by rfl) T.z_int (by decide +kernel) (pa_cons (pv 0) pa_nil)) pe_int) pe_int (nomark _)) (pss_one (ps_ret (pe_ix (kixl (K := K)) (pe_lst (pa_cons pe_str (pa_cons pe_str (pa_cons pe_str pa_nil)))) (pe_op op_mod (pe_op op_fdiv (pv 0) pe_int) pe_int) (fun _ _ => rfl)))) pss_nil)
      (pss_cons (ps_set (i := 1) sc__law_value.nd rfl (Or.inl rfl) (pe_op op_add pe_int (pe_op op_mod (pe_op op_fdiv (pv 0) pe_int) pe_int)))
      (pss_cons (ps_set (i := 2) sc__law_value.nd rfl (Or.inl rfl) pe_str)
      (pss_one (ps_ret (pe_c c__law_word hr (by omega) (by rfl) (pa_cons (pv 1) (pa_cons (pv 2) (pa_cons (pe_op op_fdiv (pv 0) pe_int) (pa_cons pe_int pa_nil)))))))))), ?_⟩
  walk_at "rds"
  refine ite2 (fun _ => ?_) (fun _ => ?_)
  · walk_at "rds"
    intro L hL
    walk_at "rds"
    obtain ⟨v, hv, hat⟩ := atI_lt (xs := [V.str "x", .str "yy", .str "0"]) (i := c / 4 % 3) (by omega) (by show c / 4 % 3 < 3; omega)
    have : ∃ z : Str, v = .str z ∧ kindOk "value" z.cps.toList = true := by
      simp only [List.mem_cons, List.not_mem_nil, or_false] at hv
      rcases hv with rfl | rfl | rfl <;> exact ⟨_, rfl, by decide +kernel⟩
    obtain ⟨z, rfl, hz⟩ := this
    refine ⟨L, _, _, _, rfl, rfl, sq upd_same, hat, ?_⟩
    exact q _ _ (same_upd hL) hz
  walk_at "rds"
  obtain ⟨n, hn⟩ := Int.eq_ofNat_of_zero_le (show 0 ≤ 1 + c / 4 % 40 by omega)
  delta tNil
  refine ⟨n, _, _, _, by rw [← hn]; rfl, by omega, by decide +kernel, by decide +kernel, fun z hz hc => ?_⟩
  refine q _ z (Same.refl _) ?_
  unfold kindOk
  rw [if_neg (by decide +kernel), if_neg (by decide +kernel), if_neg (by decide +kernel)]
  have hz2 := len_tl z
  have hk : ∀ d ∈ (Str.ofString "!\"#$&'()*+,-./0123456789:<=>?@ABCDEFGHIJKLMNOPQRSTUVWXYZ[\\]^_`abcdefghijklmnopqrstuvwxyz{|}~").cps.toList, d ≠ 32 ∧ d ≠ 59 ∧ prC d = true := by decide +kernel
  have hc2 := fun d m => hk d (hc d m)
  unfold vlL
  have he : z.cps.toList.isEmpty = false := by
    cases e : z.cps.toList with
    | nil => rw [e] at hz2; simp at hz2; omega
    | cons _ _ => rfl
  rw [he, decide_eq_false (fun m => (hc2 _ m).1 rfl), decide_eq_false (fun m => (hc2 _ m).2.1 rfl), List.all_eq_true.mpr (fun d m => (hc2 d m).2.2), decide_eq_true (by omega)]
  rfl
theorem c__law_amount {C_Accounts : Addr} {C_Sessions : Addr} {C_Store : Addr} {C_State : Addr} {C_BadText : Addr} {C_Refused : Addr} {C_BadCommand : Addr} {C_VERBS : Addr} (T : Txt K mg w C_Accounts C_Sessions C_Store C_State C_BadText C_Refused C_BadCommand C_VERBS) : Cal P w K mg base 2 "_law_amount" (fun vs H Q _ => ∃ (c : Int), vs = [.int c] ∧ ∀ n : Nat, n < 10 ^ 12 → Q (.int n) H) [] := by
  refine cal T.d__law_amount sc__law_amount (fun vs H Q E h => ?_) (fun f cdv A' outer s H vs Q E hr h => ?_)
  · obtain ⟨c, rfl, _⟩ := h; rfl
  obtain ⟨c, rfl, q⟩ := h
  refine ⟨_, (pss_cons (ps_if (pt_cmpR op_lt (pe_op op_mod (pe_callTy call_int1 (by rfl) T.z_int (by decide +kernel) (pa_cons (pv 0) pa_nil)) pe_int) pe_int (nomark _)) (pss_one (ps_ret (pe_op op_mod (pe_op op_fdiv (pv 0) pe_int) pe_int))) pss_nil)
      (pss_cons (ps_if (pt_cmpR op_eq (pe_op op_mod (pe_op op_fdiv (pv 0) pe_int) pe_int) pe_int (nomark _)) (pss_one (ps_ret (pe_op op_sub (pe_op op_sub (pe_op op_pow pe_int pe_int) pe_int) (pe_op op_mod (pe_op op_fdiv (pv 0) pe_int) pe_int)))) pss_nil)
      (pss_one (ps_ret (pe_op op_mod (pe_op op_fdiv (pv 0) pe_int) (pe_op op_pow pe_int pe_int)))))), ?_⟩
  walk_at "rds"
  have nat : ∀ i : Int, 0 ≤ i → i < 10 ^ 12 → Q (.int i) H := fun i h0 h1 => by
    obtain ⟨n, rfl⟩ := Int.eq_ofNat_of_zero_le h0
    exact q n (by omega)
  have e12 : (10:Int)^Int.toNat 12 = 1000000000000 := by decide
  refine ite2 (fun _ => ?_) (fun _ => ?_)
  · walk_at "rds"
    exact nat _ (by omega) (by omega)
  walk_at "rds"
  refine ite2 (fun _ => ?_) (fun _ => ?_)
  · walk_at "rds"
    rw [e12]
    show Q (.int (1000000000000 - 1 - c / 32 % 3)) H
    exact nat _ (by omega) (by omega)
  walk_at "rds"
  rw [e12]
  show Q (.int (c / 32 % 1000000000000)) H
  exact nat _ (by omega) (by omega)
theorem c__law_forms {C_Accounts : Addr} {C_Sessions : Addr} {C_Store : Addr} {C_State : Addr} {C_BadText : Addr} {C_Refused : Addr} {C_BadCommand : Addr} {C_VERBS : Addr} (T : Txt K mg w C_Accounts C_Sessions C_Store C_State C_BadText C_Refused C_BadCommand C_VERBS) : Cal P w K mg base 1 "_law_forms" spForms [] := by
  refine cal T.d__law_forms sc__law_forms (fun vs H Q E h => ?_) (fun f cdv A' outer s H vs Q E hr h => ?_)
  · obtain ⟨rfl, _⟩ := h; rfl
  obtain ⟨rfl, q⟩ := h
  refine ⟨_, (pss_cons (ps_set (i := 0) sc__law_forms.nd rfl (Or.inl rfl) (pe_lst (pa_cons (pe_tup (pa_cons pe_str (pa_cons pe_str pa_nil))) (pa_cons (pe_tup (pa_cons pe_str (pa_cons pe_str pa_nil))) (pa_cons (pe_tup (pa_cons pe_str (pa_cons pe_str pa_nil))) (pa_cons (pe_tup (pa_cons pe_str (pa_cons pe_str pa_nil))) (pa_cons (pe_tup (pa_cons pe_str (pa_cons pe_str pa_nil))) (pa_cons (pe_tup (pa_cons pe_str (pa_cons pe_str pa_nil))) pa_nil))))))))
      (pss_cons (ps_set (i := 0) sc__law_forms.nd rfl (Or.inl rfl) (pe_op op_cat (pv 0) (pe_lst (pa_cons (pe_tup (pa_cons pe_str (pa_cons pe_str pa_nil))) (pa_cons (pe_tup (pa_cons pe_str (pa_cons pe_str pa_nil))) (pa_cons (pe_tup (pa_cons pe_str (pa_cons pe_str pa_nil))) (pa_cons (pe_tup (pa_cons pe_str (pa_cons pe_str pa_nil))) (pa_cons (pe_tup (pa_cons pe_str (pa_cons pe_str pa_nil))) pa_nil))))))))
      (pss_one (ps_ret (pe_op op_cat (pv 0) (pe_lst (pa_cons (pe_tup (pa_cons pe_str (pa_cons pe_str pa_nil))) (pa_cons (pe_tup (pa_cons pe_str (pa_cons pe_str pa_nil))) (pa_cons (pe_tup (pa_cons pe_str (pa_cons pe_str pa_nil))) (pa_cons (pe_tup (pa_cons pe_str (pa_cons pe_str pa_nil))) (pa_cons (pe_tup (pa_cons pe_str (pa_cons pe_str pa_nil))) pa_nil))))))))))), ?_⟩
  have sl := sizeLine_eq
  walk_at "rds"
  intro t0 n0
  have s0 := same_upd (o := (.tup [.str (Str.ofString "open"), .str (Str.ofString "n")])) n0
  have h0 : upd H t0 (.tup [.str (Str.ofString "open"), .str (Str.ofString "n")]) t0 = some (.tup [.str (Str.ofString "open"), .str (Str.ofString "n")]) := upd_same
  generalize upd H t0 (.tup [.str (Str.ofString "open"), .str (Str.ofString "n")]) = H0 at s0 h0 ⊢
  walk_at "rds"
  intro t1 n1
  have s1 := same_upd (o := (.tup [.str (Str.ofString "close"), .str (Str.ofString "n")])) n1
  have h1 : upd H0 t1 (.tup [.str (Str.ofString "close"), .str (Str.ofString "n")]) t1 = some (.tup [.str (Str.ofString "close"), .str (Str.ofString "n")]) := upd_same
  generalize upd H0 t1 (.tup [.str (Str.ofString "close"), .str (Str.ofString "n")]) = H1 at s1 h1 ⊢
  walk_at "rds"
  intro t2 n2
  have s2 := same_upd (o := (.tup [.str (Str.ofString "issue"), .str (Str.ofString "na")])) n2
  have h2 : upd H1 t2 (.tup [.str (Str.ofString "issue"), .str (Str.ofString "na")]) t2 = some (.tup [.str (Str.ofString "issue"), .str (Str.ofString "na")]) := upd_same
  generalize upd H1 t2 (.tup [.str (Str.ofString "issue"), .str (Str.ofString "na")]) = H2 at s2 h2 ⊢
  walk_at "rds"
  intro t3 n3
  have s3 := same_upd (o := (.tup [.str (Str.ofString "burn"), .str (Str.ofString "na")])) n3
  have h3 : upd H2 t3 (.tup [.str (Str.ofString "burn"), .str (Str.ofString "na")]) t3 = some (.tup [.str (Str.ofString "burn"), .str (Str.ofString "na")]) := upd_same
  generalize upd H2 t3 (.tup [.str (Str.ofString "burn"), .str (Str.ofString "na")]) = H3 at s3 h3 ⊢
  walk_at "rds"
  intro t4 n4
  have s4 := same_upd (o := (.tup [.str (Str.ofString "pay"), .str (Str.ofString "nna")])) n4
  have h4 : upd H3 t4 (.tup [.str (Str.ofString "pay"), .str (Str.ofString "nna")]) t4 = some (.tup [.str (Str.ofString "pay"), .str (Str.ofString "nna")]) := upd_same
  generalize upd H3 t4 (.tup [.str (Str.ofString "pay"), .str (Str.ofString "nna")]) = H4 at s4 h4 ⊢
  walk_at "rds"
  intro t5 n5
  have s5 := same_upd (o := (.tup [.str (Str.ofString "balance"), .str (Str.ofString "n")])) n5
  have h5 : upd H4 t5 (.tup [.str (Str.ofString "balance"), .str (Str.ofString "n")]) t5 = some (.tup [.str (Str.ofString "balance"), .str (Str.ofString "n")]) := upd_same
  generalize upd H4 t5 (.tup [.str (Str.ofString "balance"), .str (Str.ofString "n")]) = H5 at s5 h5 ⊢
  walk_at "rds"
  intro L0 m0
  have u0 := same_upd (o := .lst [V.ref t0, V.ref t1, V.ref t2, V.ref t3, V.ref t4, V.ref t5]) m0
  have l0 : upd H5 L0 (.lst [V.ref t0, V.ref t1, V.ref t2, V.ref t3, V.ref t4, V.ref t5]) L0 = some (.lst [V.ref t0, V.ref t1, V.ref t2, V.ref t3, V.ref t4, V.ref t5]) := upd_same
  generalize upd H5 L0 (.lst [V.ref t0, V.ref t1, V.ref t2, V.ref t3, V.ref t4, V.ref t5]) = G0 at u0 l0 ⊢
  walk_at "rds"
  intro t6 n6
  have s6 := same_upd (o := (.tup [.str (Str.ofString "atleast"), .str (Str.ofString "na")])) n6
  have h6 : upd G0 t6 (.tup [.str (Str.ofString "atleast"), .str (Str.ofString "na")]) t6 = some (.tup [.str (Str.ofString "atleast"), .str (Str.ofString "na")]) := upd_same
  generalize upd G0 t6 (.tup [.str (Str.ofString "atleast"), .str (Str.ofString "na")]) = H6 at s6 h6 ⊢
  walk_at "rds"
  intro t7 n7
  have s7 := same_upd (o := (.tup [.str (Str.ofString "hold"), .str (Str.ofString "nnak")])) n7
  have h7 : upd H6 t7 (.tup [.str (Str.ofString "hold"), .str (Str.ofString "nnak")]) t7 = some (.tup [.str (Str.ofString "hold"), .str (Str.ofString "nnak")]) := upd_same
  generalize upd H6 t7 (.tup [.str (Str.ofString "hold"), .str (Str.ofString "nnak")]) = H7 at s7 h7 ⊢
  walk_at "rds"
  intro t8 n8
  have s8 := same_upd (o := (.tup [.str (Str.ofString "settle"), .str (Str.ofString "k")])) n8
  have h8 : upd H7 t8 (.tup [.str (Str.ofString "settle"), .str (Str.ofString "k")]) t8 = some (.tup [.str (Str.ofString "settle"), .str (Str.ofString "k")]) := upd_same
  generalize upd H7 t8 (.tup [.str (Str.ofString "settle"), .str (Str.ofString "k")]) = H8 at s8 h8 ⊢
  walk_at "rds"
  intro t9 n9
  have s9 := same_upd (o := (.tup [.str (Str.ofString "release"), .str (Str.ofString "k")])) n9
  have h9 : upd H8 t9 (.tup [.str (Str.ofString "release"), .str (Str.ofString "k")]) t9 = some (.tup [.str (Str.ofString "release"), .str (Str.ofString "k")]) := upd_same
  generalize upd H8 t9 (.tup [.str (Str.ofString "release"), .str (Str.ofString "k")]) = H9 at s9 h9 ⊢
  walk_at "rds"
  intro t10 n10
  have s10 := same_upd (o := (.tup [.str (Str.ofString "put"), .str (Str.ofString "kv")])) n10
  have h10 : upd H9 t10 (.tup [.str (Str.ofString "put"), .str (Str.ofString "kv")]) t10 = some (.tup [.str (Str.ofString "put"), .str (Str.ofString "kv")]) := upd_same
  generalize upd H9 t10 (.tup [.str (Str.ofString "put"), .str (Str.ofString "kv")]) = H10 at s10 h10 ⊢
  walk_at "rds"
  intro L1 m1
  have u1 := same_upd (o := .lst [V.ref t6, V.ref t7, V.ref t8, V.ref t9, V.ref t10]) m1
  have l1 : upd H10 L1 (.lst [V.ref t6, V.ref t7, V.ref t8, V.ref t9, V.ref t10]) L1 = some (.lst [V.ref t6, V.ref t7, V.ref t8, V.ref t9, V.ref t10]) := upd_same
  generalize upd H10 L1 (.lst [V.ref t6, V.ref t7, V.ref t8, V.ref t9, V.ref t10]) = G1 at u1 l1 ⊢
  walk_at "rds"
  refine ⟨L0, L1, _, _, rfl, rfl, (((((s6.trans s7).trans s8).trans s9).trans s10).trans u1) _ _ l0, l1, by rw [sl]; show 11 ≤ 16777216; decide, fun M1 k1 => ?_⟩
  have w1 := same_upd (o := .lst [V.ref t0, V.ref t1, V.ref t2, V.ref t3, V.ref t4, V.ref t5, V.ref t6, V.ref t7, V.ref t8, V.ref t9, V.ref t10]) k1
  have r1 : upd G1 M1 (.lst [V.ref t0, V.ref t1, V.ref t2, V.ref t3, V.ref t4, V.ref t5, V.ref t6, V.ref t7, V.ref t8, V.ref t9, V.ref t10]) M1 = some (.lst [V.ref t0, V.ref t1, V.ref t2, V.ref t3, V.ref t4, V.ref t5, V.ref t6, V.ref t7, V.ref t8, V.ref t9, V.ref t10]) := upd_same
  show gName 0 (V.ref M1) _ (upd G1 M1 (.lst [V.ref t0, V.ref t1, V.ref t2, V.ref t3, V.ref t4, V.ref t5, V.ref t6, V.ref t7, V.ref t8, V.ref t9, V.ref t10])) _
  generalize upd G1 M1 (.lst [V.ref t0, V.ref t1, V.ref t2, V.ref t3, V.ref t4, V.ref t5, V.ref t6, V.ref t7, V.ref t8, V.ref t9, V.ref t10]) = F1 at w1 r1 ⊢
  walk_at "rds"
  intro t11 n11
  have s11 := same_upd (o := (.tup [.str (Str.ofString "get"), .str (Str.ofString "k")])) n11
  have h11 : upd F1 t11 (.tup [.str (Str.ofString "get"), .str (Str.ofString "k")]) t11 = some (.tup [.str (Str.ofString "get"), .str (Str.ofString "k")]) := upd_same
  generalize upd F1 t11 (.tup [.str (Str.ofString "get"), .str (Str.ofString "k")]) = H11 at s11 h11 ⊢
  walk_at "rds"
  intro t12 n12
  have s12 := same_upd (o := (.tup [.str (Str.ofString "drop"), .str (Str.ofString "k")])) n12
  have h12 : upd H11 t12 (.tup [.str (Str.ofString "drop"), .str (Str.ofString "k")]) t12 = some (.tup [.str (Str.ofString "drop"), .str (Str.ofString "k")]) := upd_same
  generalize upd H11 t12 (.tup [.str (Str.ofString "drop"), .str (Str.ofString "k")]) = H12 at s12 h12 ⊢
  walk_at "rds"
  intro t13 n13
  have s13 := same_upd (o := (.tup [.str (Str.ofString "swap"), .str (Str.ofString "kvv")])) n13
  have h13 : upd H12 t13 (.tup [.str (Str.ofString "swap"), .str (Str.ofString "kvv")]) t13 = some (.tup [.str (Str.ofString "swap"), .str (Str.ofString "kvv")]) := upd_same
  generalize upd H12 t13 (.tup [.str (Str.ofString "swap"), .str (Str.ofString "kvv")]) = H13 at s13 h13 ⊢
  walk_at "rds"
  intro t14 n14
  have s14 := same_upd (o := (.tup [.str (Str.ofString "same"), .str (Str.ofString "kv")])) n14
  have h14 : upd H13 t14 (.tup [.str (Str.ofString "same"), .str (Str.ofString "kv")]) t14 = some (.tup [.str (Str.ofString "same"), .str (Str.ofString "kv")]) := upd_same
  generalize upd H13 t14 (.tup [.str (Str.ofString "same"), .str (Str.ofString "kv")]) = H14 at s14 h14 ⊢
  walk_at "rds"
  intro t15 n15
  have s15 := same_upd (o := (.tup [.str (Str.ofString "keys"), .str (Str.ofString "k")])) n15
  have h15 : upd H14 t15 (.tup [.str (Str.ofString "keys"), .str (Str.ofString "k")]) t15 = some (.tup [.str (Str.ofString "keys"), .str (Str.ofString "k")]) := upd_same
  generalize upd H14 t15 (.tup [.str (Str.ofString "keys"), .str (Str.ofString "k")]) = H15 at s15 h15 ⊢
  walk_at "rds"
  intro L2 m2
  have u2 := same_upd (o := .lst [V.ref t11, V.ref t12, V.ref t13, V.ref t14, V.ref t15]) m2
  have l2 : upd H15 L2 (.lst [V.ref t11, V.ref t12, V.ref t13, V.ref t14, V.ref t15]) L2 = some (.lst [V.ref t11, V.ref t12, V.ref t13, V.ref t14, V.ref t15]) := upd_same
  generalize upd H15 L2 (.lst [V.ref t11, V.ref t12, V.ref t13, V.ref t14, V.ref t15]) = G2 at u2 l2 ⊢
  walk_at "rds"
  refine ⟨M1, L2, _, _, rfl, rfl, (((((s11.trans s12).trans s13).trans s14).trans s15).trans u2) _ _ r1, l2, by rw [sl]; show 16 ≤ 16777216; decide, fun M2 k2 => ?_⟩
  have w2 := same_upd (o := .lst [V.ref t0, V.ref t1, V.ref t2, V.ref t3, V.ref t4, V.ref t5, V.ref t6, V.ref t7, V.ref t8, V.ref t9, V.ref t10, V.ref t11, V.ref t12, V.ref t13, V.ref t14, V.ref t15]) k2
  have r2 : upd G2 M2 (.lst [V.ref t0, V.ref t1, V.ref t2, V.ref t3, V.ref t4, V.ref t5, V.ref t6, V.ref t7, V.ref t8, V.ref t9, V.ref t10, V.ref t11, V.ref t12, V.ref t13, V.ref t14, V.ref t15]) M2 = some (.lst [V.ref t0, V.ref t1, V.ref t2, V.ref t3, V.ref t4, V.ref t5, V.ref t6, V.ref t7, V.ref t8, V.ref t9, V.ref t10, V.ref t11, V.ref t12, V.ref t13, V.ref t14, V.ref t15]) := upd_same
  clear n0 n1 n2 n3 n4 n5 n6 n7 n8 n9 n10 n11 n12 n13 n14 n15
  have sa : Same H _ := ((((((((((((((((((((s0.trans s1).trans s2).trans s3).trans s4).trans s5).trans u0).trans s6).trans s7).trans s8).trans s9).trans s10).trans u1).trans w1).trans s11).trans s12).trans s13).trans s14).trans s15).trans u2).trans w2)
  refine q _ M2 [t0, t1, t2, t3, t4, t5, t6, t7, t8, t9, t10, t11, t12, t13, t14, t15] sa r2 rfl fun i a x e1 e2 => ?_
  match i, e1, e2 with
  | 0, e1, e2 =>
    obtain rfl : t0 = a := Option.some.inj e1
    obtain rfl : (Str.ofString "open", Str.ofString "n") = x := Option.some.inj e2
    exact (((((((((((((((((((s1.trans s2).trans s3).trans s4).trans s5).trans u0).trans s6).trans s7).trans s8).trans s9).trans s10).trans u1).trans w1).trans s11).trans s12).trans s13).trans s14).trans s15).trans u2).trans w2) _ _ h0
  | 1, e1, e2 =>
    obtain rfl : t1 = a := Option.some.inj e1
    obtain rfl : (Str.ofString "close", Str.ofString "n") = x := Option.some.inj e2
    exact ((((((((((((((((((s2.trans s3).trans s4).trans s5).trans u0).trans s6).trans s7).trans s8).trans s9).trans s10).trans u1).trans w1).trans s11).trans s12).trans s13).trans s14).trans s15).trans u2).trans w2) _ _ h1
  | 2, e1, e2 =>
    obtain rfl : t2 = a := Option.some.inj e1
    obtain rfl : (Str.ofString "issue", Str.ofString "na") = x := Option.some.inj e2
    exact (((((((((((((((((s3.trans s4).trans s5).trans u0).trans s6).trans s7).trans s8).trans s9).trans s10).trans u1).trans w1).trans s11).trans s12).trans s13).trans s14).trans s15).trans u2).trans w2) _ _ h2
  | 3, e1, e2 =>
    obtain rfl : t3 = a := Option.some.inj e1
    obtain rfl : (Str.ofString "burn", Str.ofString "na") = x := Option.some.inj e2
    exact ((((((((((((((((s4.trans s5).trans u0).trans s6).trans s7).trans s8).trans s9).trans s10).trans u1).trans w1).trans s11).trans s12).trans s13).trans s14).trans s15).trans u2).trans w2) _ _ h3
  | 4, e1, e2 =>
    obtain rfl : t4 = a := Option.some.inj e1
    obtain rfl : (Str.ofString "pay", Str.ofString "nna") = x := Option.some.inj e2
    exact (((((((((((((((s5.trans u0).trans s6).trans s7).trans s8).trans s9).trans s10).trans u1).trans w1).trans s11).trans s12).trans s13).trans s14).trans s15).trans u2).trans w2) _ _ h4
  | 5, e1, e2 =>
    obtain rfl : t5 = a := Option.some.inj e1
    obtain rfl : (Str.ofString "balance", Str.ofString "n") = x := Option.some.inj e2
    exact ((((((((((((((u0.trans s6).trans s7).trans s8).trans s9).trans s10).trans u1).trans w1).trans s11).trans s12).trans s13).trans s14).trans s15).trans u2).trans w2) _ _ h5
  | 6, e1, e2 =>
    obtain rfl : t6 = a := Option.some.inj e1
    obtain rfl : (Str.ofString "atleast", Str.ofString "na") = x := Option.some.inj e2
    exact ((((((((((((s7.trans s8).trans s9).trans s10).trans u1).trans w1).trans s11).trans s12).trans s13).trans s14).trans s15).trans u2).trans w2) _ _ h6
  | 7, e1, e2 =>
    obtain rfl : t7 = a := Option.some.inj e1
    obtain rfl : (Str.ofString "hold", Str.ofString "nnak") = x := Option.some.inj e2
    exact (((((((((((s8.trans s9).trans s10).trans u1).trans w1).trans s11).trans s12).trans s13).trans s14).trans s15).trans u2).trans w2) _ _ h7
  | 8, e1, e2 =>
    obtain rfl : t8 = a := Option.some.inj e1
    obtain rfl : (Str.ofString "settle", Str.ofString "k") = x := Option.some.inj e2
    exact ((((((((((s9.trans s10).trans u1).trans w1).trans s11).trans s12).trans s13).trans s14).trans s15).trans u2).trans w2) _ _ h8
  | 9, e1, e2 =>
    obtain rfl : t9 = a := Option.some.inj e1
    obtain rfl : (Str.ofString "release", Str.ofString "k") = x := Option.some.inj e2
    exact (((((((((s10.trans u1).trans w1).trans s11).trans s12).trans s13).trans s14).trans s15).trans u2).trans w2) _ _ h9
  | 10, e1, e2 =>
    obtain rfl : t10 = a := Option.some.inj e1
    obtain rfl : (Str.ofString "put", Str.ofString "kv") = x := Option.some.inj e2
    exact ((((((((u1.trans w1).trans s11).trans s12).trans s13).trans s14).trans s15).trans u2).trans w2) _ _ h10
  | 11, e1, e2 =>
    obtain rfl : t11 = a := Option.some.inj e1
    obtain rfl : (Str.ofString "get", Str.ofString "k") = x := Option.some.inj e2
    exact (((((s12.trans s13).trans s14).trans s15).trans u2).trans w2) _ _ h11
  | 12, e1, e2 =>
    obtain rfl : t12 = a := Option.some.inj e1
    obtain rfl : (Str.ofString "drop", Str.ofString "k") = x := Option.some.inj e2
    exact ((((s13.trans s14).trans s15).trans u2).trans w2) _ _ h12
  | 13, e1, e2 =>
    obtain rfl : t13 = a := Option.some.inj e1
    obtain rfl : (Str.ofString "swap", Str.ofString "kvv") = x := Option.some.inj e2
    exact (((s14.trans s15).trans u2).trans w2) _ _ h13
  | 14, e1, e2 =>
    obtain rfl : t14 = a := Option.some.inj e1
    obtain rfl : (Str.ofString "same", Str.ofString "kv") = x := Option.some.inj e2
    exact ((s15.trans u2).trans w2) _ _ h14
  | 15, e1, e2 =>
    obtain rfl : t15 = a := Option.some.inj e1
    obtain rfl : (Str.ofString "keys", Str.ofString "k") = x := Option.some.inj e2
    exact (u2.trans w2) _ _ h15
  | n + 16, e1, e2 => cases e1
end
theorem sgnD (c m : Nat) : decide (V.str ⟨#[c]⟩ = V.str ⟨#[m]⟩) = decide (c = m) := by
  apply decide_eq_decide.mpr
  constructor
  · intro h
    have := congrArg (fun v => match v with | V.str s => s.cps.toList | _ => []) h
    have : [c] = [m] := this
    simpa using this
  · rintro rfl; rfl
section
variable {P : Program} {w : World} {K : PySem.W.Frag} {mg : Str → Option Value} {base : Heap}
theorem c__law_statement {C_Accounts : Addr} {C_Sessions : Addr} {C_Store : Addr} {C_State : Addr} {C_BadText : Addr} {C_Refused : Addr} {C_BadCommand : Addr} {C_VERBS : Addr} (T : Txt K mg w C_Accounts C_Sessions C_Store C_State C_BadText C_Refused C_BadCommand C_VERBS) : Cal P w K mg base 3 "_law_statement" spStmt [] := by
  have c__law_forms := c__law_forms (P := P) (w := w) (base := base) T
  have c__law_name := c__law_name (P := P) (w := w) (base := base) T
  have c__law_amount := c__law_amount (P := P) (w := w) (base := base) T
  have c__law_key := c__law_key (P := P) (w := w) (base := base) T
  have c__law_value := c__law_value (P := P) (w := w) (base := base) T
  refine cal T.d__law_statement sc__law_statement (fun vs H Q E h => ?_) (fun f cdv A' outer s H vs Q E hr h => ?_)
  · obtain ⟨a, b, c, rfl, _⟩ := h; rfl
  obtain ⟨a, b, c, rfl, q⟩ := h
  refine ⟨_, (pss_cons (ps_asg (pe_ix (kixl (K := K)) (pe_c0 c__law_forms hr (by omega) (by rfl)) (pe_op op_mod (pe_callTy call_int1 (by rfl) T.z_int (by decide +kernel) (pa_cons (pv 0) pa_nil)) pe_int) (fun _ _ => rfl)) (pg_tup (by rfl) (pgs_cons (pg_name (i := 3) sc__law_statement.nd rfl (Or.inl rfl)) (pgs_cons (pg_name (i := 4) sc__law_statement.nd rfl (Or.inl rfl)) pgs_nil))))
      (pss_cons (ps_set (i := 5) sc__law_statement.nd rfl (Or.inl rfl) (pe_lst (pa_cons (pv 3) pa_nil)))
      (pss_cons (ps_set (i := 6) sc__law_statement.nd rfl (Or.inl rfl) (pe_lst (pa_cons (pv 1) (pa_cons (pv 2) (pa_cons (pe_op op_fdiv (pv 2) pe_int) (pa_cons (pe_op op_fdiv (pv 2) pe_int) pa_nil))))))
      (pss_cons (ps_for PassesOwn.never rfl (pi_range1 (by rfl) T.z_range (pa_cons (pe_callB call_len_str (by rfl) T.z_len (by decide +kernel) (pa_cons (pv 4) pa_nil)) pa_nil)) (pg_name (i := 7) sc__law_statement.nd rfl (Or.inl rfl)) (pss_one (ps_if (pt_cmpR op_eq (pe_ix ix_str (pv 4) (pv 7) (fun _ _ => rfl)) pe_str (nomark _)) (pss_one (ps_expr (pe_bm PySem.F.plainAttrs_list PySem.F.slot_list_append PySem.F.type_list_append mt_append (pv 5) (pa_cons (pe_c c__law_name hr (by omega) (by rfl) (pa_cons (pe_ix (kixl (K := K)) (pv 6) (pv 7) (fun _ _ => rfl)) pa_nil)) pa_nil)))) (pss_one (ps_if (pt_cmpR op_eq (pe_ix ix_str (pv 4) (pv 7) (fun _ _ => rfl)) pe_str (nomark _)) (pss_one (ps_expr (pe_bm PySem.F.plainAttrs_list PySem.F.slot_list_append PySem.F.type_list_append mt_append (pv 5) (pa_cons (pe_c c__law_amount hr (by omega) (by rfl) (pa_cons (pe_ix (kixl (K := K)) (pv 6) (pv 7) (fun _ _ => rfl)) pa_nil)) pa_nil)))) (pss_one (ps_if (pt_cmpR op_eq (pe_ix ix_str (pv 4) (pv 7) (fun _ _ => rfl)) pe_str (nomark _)) (pss_one (ps_expr (pe_bm PySem.F.plainAttrs_list PySem.F.slot_list_append PySem.F.type_list_append mt_append (pv 5) (pa_cons (pe_c c__law_key hr (by omega) (by rfl) (pa_cons (pe_ix (kixl (K := K)) (pv 6) (pv 7) (fun _ _ => rfl)) pa_nil)) pa_nil)))) (pss_one (ps_expr (pe_bm PySem.F.plainAttrs_list PySem.F.slot_list_append PySem.F.type_list_append mt_append (pv 5) (pa_cons (pe_c c__law_value hr (by omega) (by rfl) (pa_cons (pe_ix (kixl (K := K)) (pv 6) (pv 7) (fun _ _ => rfl)) pa_nil)) pa_nil)))))))))))
      (pss_one (ps_ret (pe_callTy call_tuple_of (by rfl) T.z_tuple (by decide +kernel) (pa_cons (pv 5) pa_nil)))))))), ?_⟩
  have sl := sizeLine_eq
  walk_at "rds"
  delta tNil
  refine ⟨rfl, fun H1 L as s1 hL la hf => ?_⟩
  obtain ⟨i, hi⟩ := Int.eq_ofNat_of_zero_le (show 0 ≤ a % 16 by omega)
  have i16 : i < 16 := by omega
  have g1 : as[i]? = some as[i] := List.getElem?_eq_getElem (by omega)
  have g2 : formsT[i]? = some formsT[i] := List.getElem?_eq_getElem (show i < formsT.length from i16)
  obtain ⟨hv, hk⟩ := forms_ok _ (List.mem_of_getElem? g2)
  have ht := hf i _ _ g1 g2
  generalize formsT[i] = fo at hv hk ht g2
  obtain ⟨verb, kinds⟩ := fo
  generalize as[i] = t at ht g1
  have hv : verbT.lookup verb = some (kinds.cps.toList.map conv) := hv
  have hk : kinds.length ≤ 4 := hk
  have ht : H1 t = some (.tup [.str verb, .str kinds]) := ht
  walk_at "rds"
  refine ⟨L, _, ((i : Nat) : Int), _, rfl, congrArg V.int hi, sq hL, atI_nat (by rw [List.getElem?_map, g1]; rfl), t, _, rfl, .inl (.inl ht), rfl, _, _, rfl, _, _, rfl, rfl, ?_⟩
  walk_at "rds"
  intro p hp
  have sp := s1.trans (same_upd (o := .lst [.str verb]) hp)
  have hp1 : upd H1 p (.lst [.str verb]) p = some (.lst [.str verb]) := upd_same
  have hp0 : H p = none := by
    cases e : H p with
    | none => rfl
    | some o => rw [s1 _ _ e] at hp; cases hp
  generalize upd H1 p (.lst [.str verb]) = H2 at sp hp1 ⊢
  walk_at "rds"
  intro cl hcl
  have nep : cl ≠ p := fun z => by rw [z, hp1] at hcl; cases hcl
  have sc := sp.trans (same_upd (o := .lst [.int b, .int c, .int (c / 36), .int (c / 720)]) hcl)
  have hp2 := (same_upd (o := .lst [.int b, .int c, .int (c / 36), .int (c / 720)]) hcl) _ _ hp1
  have hcl2 : upd H2 cl (.lst [.int b, .int c, .int (c / 36), .int (c / 720)]) cl = some (.lst [.int b, .int c, .int (c / 36), .int (c / 720)]) := upd_same
  generalize upd H2 cl (.lst [.int b, .int c, .int (c / 36), .int (c / 720)]) = H3 at sc hp2 hcl2 ⊢
  walk_at "rds"
  refine for_it walk_range (Pv := fun i σ H' => ∃ (xs : List V) (y : Option V), σ = [some (.int a), some (.int b), some (.int c), some (.str verb), some (.str kinds), some (.ref p), some (.ref cl), y] ∧ Same H H' ∧ H' cl = some (.lst [.int b, .int c, .int (c / 36), .int (c / 720)]) ∧ H' p = some (.lst (.str verb :: xs)) ∧ xs.length = i ∧ ∀ (j : Nat) (k : Str) (x : V), (kinds.cps.toList.map conv)[j]? = some k → xs[j]? = some x → FitK k x) ⟨[], none, rfl, sc, hcl2, hp2, rfl, fun _ _ _ _ e => by cases e⟩ (fun _ _ _ _ _ => trivial) (fun j x σ H6 H7 hj hp3 hy => ?_) (fun σ H6 hp3 => ?_)
  · obtain ⟨xs, y, rfl, s6, hc6, hp6, lx, fit⟩ := hp3
    obtain ⟨rfl, rfl⟩ := hy
    show gName 7 (V.int (0 + (j : Int))) _ H7 _
    rw [Int.zero_add]
    have hj2 : j < kinds.cps.toList.length := by have := len_tl kinds; omega
    have gd : kinds.cps.toList[j]? = some kinds.cps.toList[j] := List.getElem?_eq_getElem hj2
    have en : Str.ofString "n" = ⟨#[110]⟩ := by decide
    have ea : Str.ofString "a" = ⟨#[97]⟩ := by decide
    have ek : Str.ofString "k" = ⟨#[107]⟩ := by decide
    generalize kinds.cps.toList[j] = d at gd
    have four : ∃ v : Int, [V.int b, .int c, .int (c / 36), .int (c / 720)][j]? = some (.int v) := by
      have : j < 4 := by have := len_tl kinds; omega
      match j, this with
      | 0, _ => exact ⟨_, rfl⟩
      | 1, _ => exact ⟨_, rfl⟩
      | 2, _ => exact ⟨_, rfl⟩
      | 3, _ => exact ⟨_, rfl⟩
    obtain ⟨v, hv4⟩ := four
    have done : ∀ (H8 : Hp) (x : V), Same H7 H8 → FitK (conv d) x → ∃ (xs' : List V) (y : Option V), ([some (.int a), some (.int b), some (.int c), some (.str verb), some (.str kinds), some (.ref p), some (.ref cl), some (.int (j : Nat))] : L2.St) = [some (.int a), some (.int b), some (.int c), some (.str verb), some (.str kinds), some (.ref p), some (.ref cl), y] ∧ Same H (upd H8 p (.lst (.str verb :: xs ++ [x]))) ∧ upd H8 p (.lst (.str verb :: xs ++ [x])) cl = some (.lst [.int b, .int c, .int (c / 36), .int (c / 720)]) ∧ upd H8 p (.lst (.str verb :: xs ++ [x])) p = some (.lst (.str verb :: xs')) ∧ xs'.length = j + 1 ∧ ∀ (j : Nat) (k : Str) (x : V), (kinds.cps.toList.map conv)[j]? = some k → xs'[j]? = some x → FitK k x := fun H8 x s8 fx => by
      refine ⟨xs ++ [x], _, rfl, same_mut (s6.trans s8) hp0, by rw [upd_ne nep]; exact s8 _ _ hc6, upd_same, by simp [lx], fun j' k' x' e1 e2 => ?_⟩
      by_cases hlt : j' < j
      · exact fit j' k' x' e1 (by rw [List.getElem?_append_left (by omega)] at e2; exact e2)
      · rw [List.getElem?_append_right (by omega)] at e2
        have ej : j' = j := by
          have := (List.getElem?_eq_some_iff.mp e2).1
          simp at this; omega
        subst ej
        rw [lx, Nat.sub_self] at e2
        rw [List.getElem?_map, gd] at e1
        obtain rfl : conv d = k' := Option.some.inj e1
        obtain rfl : x = x' := Option.some.inj e2
        exact fx
    walk_at "rds"
    have lsz : (V.str verb :: xs).length < sizeLine := by
      rw [List.length_cons]
      exact sz1000' (by have := len_tl kinds; omega)
    refine ⟨kinds, _, d, rfl, rfl, sz1000 (by omega), atI_nat gd, ?_⟩
    walk_at "rds"
    rw [en, sgnD]
    by_cases hd : d = 110
    · refine ifT (decide_eq_true hd) ?_
      walk_at "rds"
      refine ⟨.inl ⟨rfl, _, sq hp6⟩, ?_⟩
      walk_at "rds"
      refine ⟨cl, _, ((j : Nat) : Int), _, rfl, rfl, sq hc6, atI_nat hv4, ?_⟩
      refine ⟨v, rfl, fun H8 z s8 hz => ?_⟩
      refine ⟨p, _, _, rfl, rfl, s8 _ _ hp6, lsz, ?_⟩
      exact done _ _ s8 (by unfold conv FitK; rw [if_pos hd, if_neg (by decide +kernel)]; exact ⟨z, rfl, hz⟩)
    refine ifF (decide_eq_false hd) ?_
    walk_at "rds"
    refine ⟨kinds, _, d, rfl, rfl, sz1000 (by omega), atI_nat gd, ?_⟩
    walk_at "rds"
    rw [ea, sgnD]
    by_cases hda : d = 97
    · refine ifT (decide_eq_true hda) ?_
      walk_at "rds"
      refine ⟨.inl ⟨rfl, _, sq hp6⟩, ?_⟩
      walk_at "rds"
      refine ⟨cl, _, ((j : Nat) : Int), _, rfl, rfl, sq hc6, atI_nat hv4, ?_⟩
      refine ⟨v, rfl, fun n hn => ?_⟩
      have s8 := Same.refl H7
      refine ⟨p, _, _, rfl, rfl, s8 _ _ hp6, lsz, ?_⟩
      exact done _ _ s8 (by unfold conv FitK; rw [if_neg hd, if_pos hda, if_pos rfl]; exact ⟨n, rfl, hn⟩)
    refine ifF (decide_eq_false hda) ?_
    walk_at "rds"
    refine ⟨kinds, _, d, rfl, rfl, sz1000 (by omega), atI_nat gd, ?_⟩
    walk_at "rds"
    rw [ek, sgnD]
    by_cases hdk : d = 107
    · refine ifT (decide_eq_true hdk) ?_
      walk_at "rds"
      refine ⟨.inl ⟨rfl, _, sq hp6⟩, ?_⟩
      walk_at "rds"
      refine ⟨cl, _, ((j : Nat) : Int), _, rfl, rfl, sq hc6, atI_nat hv4, ?_⟩
      refine ⟨v, rfl, fun H8 z s8 hz => ?_⟩
      refine ⟨p, _, _, rfl, rfl, s8 _ _ hp6, lsz, ?_⟩
      exact done _ _ s8 (by unfold conv FitK; rw [if_neg hd, if_neg hda, if_pos hdk, if_neg (by decide +kernel)]; exact ⟨z, rfl, hz⟩)
    refine ifF (decide_eq_false hdk) ?_
    walk_at "rds"
    refine ⟨.inl ⟨rfl, _, sq hp6⟩, ?_⟩
    walk_at "rds"
    refine ⟨cl, _, ((j : Nat) : Int), _, rfl, rfl, sq hc6, atI_nat hv4, ?_⟩
    refine ⟨v, rfl, fun H8 z s8 hz => ?_⟩
    refine ⟨p, _, _, rfl, rfl, s8 _ _ hp6, lsz, ?_⟩
    exact done _ _ s8 (by unfold conv FitK; rw [if_neg hd, if_neg hda, if_neg hdk, if_neg (by decide +kernel)]; exact ⟨z, rfl, hz⟩)
  · obtain ⟨xs, y, rfl, s6, hc6, hp6, lx, fit⟩ := hp3
    walk_at "rds"
    refine ⟨p, _, rfl, .inl ⟨sq hp6, fun t' ht' => ?_⟩⟩
    have h0 : H t' = none := by
      cases e : H t' with
      | none => rfl
      | some o => rw [s6 _ _ e] at ht'; cases ht'
    exact q _ t' _ (s6.trans (same_upd ht')) h0 upd_same ⟨verb, _, xs, rfl, hv, by rw [List.length_map, len_tl, lx]; omega, fit⟩
end

/-- ' '.join([str(y) for y in x]), x at i, y at j -/
def teJ (K : PySem.W.Frag) (i j : Nat) : TE := tM1 (rJn K) (tC (.str " ")) (tLc (iTup K (tVar i)) (gName j) tYes (tCB rStrM (tCons (tVar j) tNil)) [j])
theorem kpiT {X : Cx} {K : PySem.W.Frag} {tg e : Expr} {t : TE} (hK : X.K = K) (h : PE X e t) : PI X tg e (iTup K t) := by
  subst hK; exact pi_tup h
def lcScope : Expr → Scope
  | .ListComp _ _ s _ => s
  | .Call _ (e :: _) _ _ => lcScope e
  | _ => defScope (.Pass default)
def retScope : List Stmt → Scope
  | .Return (some e) _ :: _ => lcScope e
  | _ => defScope (.Pass default)
theorem teJ_run {K : PySem.W.Frag} {σ : L2.St} {H : Hp} {Q : VK} {i j : Nat} {a : Addr} {xs : List V} (hi : σ[i]? = some (some (.ref a))) (hij : i ≠ j) (hj : j < σ.length) (ht : H a = some (.tup xs)) (ha : ∀ x ∈ xs, ArgV x) (hn : xs.length ≤ 100)
    (q : ∀ H', Same H H' → Q (.str ⟨(stx xs).toArray⟩) H') : teJ K i j σ H Q := by
  refine ⟨⟨_, rfl⟩, _, hi, a, rfl, ⟨xs, .inl (.inl ht)⟩, fun D hD => ?_⟩
  refine lc_it (walk_tup (K := K) (a := a) (xs := xs)) (Pv := fun k H' => Same H H' ∧ H' D = some (.lst ((xs.take k).map fun x => wrd (sTx x)))) ⟨same_upd hD, upd_same⟩ (fun _ _ _ h => .inl (.inl (h.1 _ _ ht))) (fun k x H6 H7 hk hp hy => ?_) (fun H6 hp => ?_)
  · obtain ⟨s6, hD6⟩ := hp
    obtain ⟨rfl, hx⟩ := hy
    have e : (xs.take (k + 1)).map (fun x => wrd (sTx x)) = (xs.take k).map (fun x => wrd (sTx x)) ++ [wrd (sTx x)] := by rw [List.take_add_one, hx, List.map_append]; rfl
    refine ⟨wipe_set, tyes ?_⟩
    refine ⟨x, by rw [List.getElem?_set_self (by rw [show wipe σ [j] = σ.set j none from rfl, List.length_set]; exact hj)], ?_⟩
    have fin : ∀ y : V, y = wrd (sTx x) → ∃ acc, H7 D = some (.lst acc) ∧ acc.length < sizeLine ∧ Same H (upd H7 D (.lst (acc ++ [y]))) ∧ upd H7 D (.lst (acc ++ [y])) D = some (.lst ((xs.take (k + 1)).map fun x => wrd (sTx x))) := fun y ey => by
      refine ⟨_, hD6, by rw [List.length_map, List.length_take]; exact sz1000' (by omega), same_mut s6 hD, ?_⟩
      rw [upd_same, e, ey]
    rcases ha x (List.mem_of_getElem? hx) with ⟨z, rfl, _⟩ | ⟨n, rfl, h12⟩
    · exact .inl ⟨z, rfl, fin _ (wrd_str z).symm⟩
    · refine .inr ⟨(n : Int), rfl, ?_, fin _ (wrd_str _).symm⟩
      by_cases h0 : n = 0
      · subst h0; decide
      · exact (Nat.log2_lt (by omega)).mpr (Nat.lt_of_le_of_lt (show (n : Int).natAbs ≤ 10 ^ 12 by omega) (by decide +kernel))
  · obtain ⟨s6, hD6⟩ := hp
    rw [List.take_length] at hD6
    have hD7 : H6 D = some (.lst (((xs.map sTx).map fun l => (⟨l.toArray⟩ : Str)).map V.str)) := by rw [hD6, List.map_map, List.map_map]; rfl
    refine ⟨_, D, _, rfl, rfl, .inl (sq hD7), ?_, ?_⟩
    · have := sum_le (m := 1000) ((xs.map sTx).map fun l => (⟨l.toArray⟩ : Str)) fun y my => by
        rw [List.map_map] at my
        obtain ⟨x, mx, rfl⟩ := List.mem_map.mp my
        show (⟨(sTx x).toArray⟩ : Str).length ≤ 1000
        rw [wl]
        exact argV_len (ha x mx)
      rw [show (Str.ofString " ").length = 1 from rfl]
      rw [List.length_map, List.length_map] at this ⊢
      omega
    · rw [show Str.ofString " " = ⟨#[32]⟩ from by decide, txtjoin_tl]
      exact q _ s6
/-- rows of statements -/
def RowsS (H : Hp) (p : Addr) (xss : List (List V)) : Prop := ∃ as : List Addr, H p = some (.lst (as.map V.ref)) ∧ as.length = xss.length ∧ ∀ (i : Nat) (a : Addr) (xs : List V), as[i]? = some a → xss[i]? = some xs → H a = some (.tup xs)
def spCmd : Sp := fun vs H Q _ => ∃ (p : Addr) (xss : List (List V)), vs = [.ref p] ∧ RowsS H p xss ∧ (∀ xs ∈ xss, Good xs) ∧ xss.length ≤ 10 ∧ ∀ H', Same H H' → Q (.str ⟨(ctx xss).toArray⟩) H'

section
variable {P : Program} {w : World} {K : PySem.W.Frag} {mg : Str → Option Value} {base : Heap}
theorem good_len {xs : List V} (h : Good xs) : xs.length ≤ 6 := by
  obtain ⟨v, ks, args, rfl, hl, len, _⟩ := h
  have key : ∀ x ∈ verbT, x.2.length ≤ 5 := by decide +kernel
  have := key _ (lookup_mem hl)
  rw [List.length_cons]
  show args.length + 1 ≤ 6
  have : ks.length ≤ 5 := this
  omega
theorem stx_len {xs : List V} (h : Good xs) : (stx xs).length ≤ 10000 := by
  have a := jnL_le (c := 32) (m := 1000) (ls := xs.map sTx) fun l ml => by
    obtain ⟨x, mx, rfl⟩ := List.mem_map.mp ml
    exact argV_len (good_wd h x mx).2
  have b := good_len h
  rw [List.length_map] at a
  show (jnL 32 (xs.map sTx)).length ≤ 10000
  omega
theorem c__law_text {C_Accounts : Addr} {C_Sessions : Addr} {C_Store : Addr} {C_State : Addr} {C_BadText : Addr} {C_Refused : Addr} {C_BadCommand : Addr} {C_VERBS : Addr} (T : Txt K mg w C_Accounts C_Sessions C_Store C_State C_BadText C_Refused C_BadCommand C_VERBS) : Cal P w K mg base 1 "_law_text" spCmd [] := by
  refine cal T.d__law_text sc__law_text (fun vs H Q E h => ?_) (fun f cdv A' outer s H vs Q E hr h => ?_)
  · obtain ⟨p, xss, rfl, _⟩ := h; rfl
  obtain ⟨p, xss, rfl, ⟨as, hp, la, hx⟩, hg, hn, q⟩ := h
  refine ⟨_, (pss_cons (ps_set (i := 1) sc__law_text.nd rfl (Or.inl rfl) (pe_lst pa_nil))
      (pss_cons (ps_for PassesOwn.never rfl (pi_list (pv 0)) (pg_name (i := 2) sc__law_text.nd rfl (Or.inl rfl)) (pss_one (ps_expr (pe_bm PySem.F.plainAttrs_list PySem.F.slot_list_append PySem.F.type_list_append mt_append (pv 1) (pa_cons (pe_join pe_str (pe_lc (own := [("part", 3)]) (g := gName 3) (by rfl) sc__law_text.nd (pi_tup (pv 2)) (blkOk_by (own := [("part", 3)]) (N := ["parsed", "rows", "statement", "part"]) (sc := defScope s__law_text) (by decide +kernel)) (fun _ _ _ _ _ => pg_name (i := 3) sc__law_text.nd rfl (Or.inl rfl)) (fun _ _ _ _ _ => pts_nil) (fun _ _ _ _ _ => (pe_callTy call_strM (by rfl) T.z_str (by decide +kernel) (pa_cons (pv 3) pa_nil))))) pa_nil)))))
      (pss_one (ps_ret (pe_join pe_str (pv 1)))))), ?_⟩
  walk_at "rds"
  intro r hr
  walk_at "rds"
  have sr := same_upd (o := .lst []) hr
  have hp0 := sr _ _ hp
  have hr0 : upd H r (.lst []) r = some (.lst []) := upd_same
  generalize upd H r (.lst []) = H0 at sr hp0 hr0
  refine ⟨⟨_, sq hp0⟩, ?_⟩
  refine for_it (walk_list (K := K) (a := p) (xs := as.map V.ref)) (Pv := fun k σ H' => ∃ y2 : Option V, σ = [some (.ref p), some (.ref r), y2, none] ∧ Same H H' ∧ H' r = some (.lst ((xss.take k).map fun xs => wrd (stx xs)))) ⟨none, rfl, sr, hr0⟩ (fun _ _ _ _ h => by obtain ⟨_, _, h, _⟩ := h; exact sq (h _ _ hp)) (fun k x σ H6 H7 hk hp2 hy => ?_) (fun σ H6 hp2 => ?_)
  · obtain ⟨y2, rfl, s6, hr6⟩ := hp2
    obtain ⟨rfl, e5⟩ := hy
    rw [List.length_map] at hk
    have g1 : as[k]? = some as[k] := List.getElem?_eq_getElem hk
    have g2 : xss[k]? = some xss[k] := List.getElem?_eq_getElem (by omega)
    have ex : x = .ref as[k] := by rw [List.getElem?_map, g1] at e5; exact (Option.some.inj e5).symm
    subst ex
    have ht := s6 _ _ (hx k _ _ g1 g2)
    have gk := hg xss[k] (List.mem_of_getElem? g2)
    have e : (xss.take (k + 1)).map (fun xs => wrd (stx xs)) = (xss.take k).map (fun xs => wrd (stx xs)) ++ [wrd (stx xss[k])] := by rw [List.take_add_one, g2, List.map_append]; rfl
    walk_at "rds"
    refine ⟨.inl ⟨rfl, _, sq hr6⟩, ?_⟩
    refine teJ_run (K := K) (i := 2) (j := 3) (σ := [some (.ref p), some (.ref r), some (.ref as[k]), none]) rfl (by decide) (by show 3 < 4; decide) ht (fun y my => (good_wd gk y my).2) (by have := good_len gk; omega) fun H8 s8 => ?_
    refine ⟨r, _, _, rfl, rfl, s8 _ _ hr6, by rw [List.length_map, List.length_take]; exact sz1000' (by omega), ?_⟩
    refine ⟨_, rfl, same_mut (s6.trans s8) hr, ?_⟩
    rw [upd_same, e]; rfl
  · obtain ⟨y2, rfl, s6, hD6⟩ := hp2
    rw [List.length_map, la, List.take_length] at hD6
    have hD7 : H6 r = some (.lst (((xss.map stx).map fun l => (⟨l.toArray⟩ : Str)).map V.str)) := by rw [hD6, List.map_map, List.map_map]; rfl
    walk_at "rds"
    refine ⟨_, r, _, rfl, rfl, .inl (sq hD7), ?_, ?_⟩
    · have := sum_le (m := 10000) ((xss.map stx).map fun l => (⟨l.toArray⟩ : Str)) fun y my => by
        rw [List.map_map] at my
        obtain ⟨x, mx, rfl⟩ := List.mem_map.mp my
        show (⟨(stx x).toArray⟩ : Str).length ≤ 10000
        rw [wl]
        exact stx_len (hg x mx)
      rw [show (Str.ofString ";").length = 1 from rfl]
      rw [List.length_map, List.length_map] at this ⊢
      omega
    · rw [show Str.ofString ";" = ⟨#[59]⟩ from by decide, txtjoin_tl]
      exact q _ s6
end

/-! ### cuts of texts -/
theorem cut_to {z : Str} {n : Nat} : (cutS z none (some (n : Int))).cps.toList = z.cps.toList.take n := by
  unfold cutS
  rw [HT.sIx_none, HT.sIx_nat]
  show (z.cps.toList.drop 0).take (min n z.length - 0) = _
  rw [List.drop_zero, Nat.sub_zero, ← len_tl]
  by_cases h : n ≤ z.cps.toList.length
  · rw [Nat.min_eq_left h]
  · rw [Nat.min_eq_right (by omega), List.take_of_length_le (Nat.le_refl _), List.take_of_length_le (by omega)]
theorem cut_from {z : Str} {n : Nat} : (cutS z (some (n : Int)) none).cps.toList = z.cps.toList.drop n := by
  unfold cutS
  rw [HT.sIx_none, HT.sIx_nat]
  show (z.cps.toList.drop (min n z.length)).take (z.length - min n z.length) = _
  rw [← len_tl]
  by_cases h : n ≤ z.cps.toList.length
  · rw [Nat.min_eq_left h, List.take_of_length_le (by rw [List.length_drop]; omega)]
  · rw [Nat.min_eq_right (by omega), List.drop_length, List.take_nil, List.drop_eq_nil_of_le (by omega)]
theorem cut_mid {z : Str} {i e : Nat} (h : i ≤ z.length) : (cutS z (some (i : Int)) (some (e : Int))).cps.toList = (z.cps.toList.drop i).take (e - i) := by
  unfold cutS
  rw [HT.sIx_nat, HT.sIx_nat]
  show (z.cps.toList.drop (min i z.length)).take (min e z.length - min i z.length) = _
  rw [Nat.min_eq_left h]
  by_cases g : e ≤ z.length
  · rw [Nat.min_eq_left g]
  · rw [Nat.min_eq_right (by omega), List.take_of_length_le (by rw [List.length_drop, len_tl]; omega), List.take_of_length_le (by rw [List.length_drop, len_tl]; omega)]
theorem pr_cut {y z : Str} {l : List Nat} (hp : isPr z = true) (h : y.cps.toList = l) (hl : ∀ c ∈ l, c ∈ z.cps.toList) : isPr y = true := by
  unfold isPr at hp ⊢
  rw [h]
  exact List.all_eq_true.mpr fun c hc => List.all_eq_true.mp hp c (hl c hc)

--@SPLIT
/-! ### a state's cells stand while others change -/
def InD (H : Hp) (x : Addr) : Prop := (∃ C dx fs, H x = some (.ins C dx fs)) ∨ ∃ d, H x = some (.dK d)
theorem InD.nt {H : Hp} {x : Addr} (h : InD H x) (xs : List V) : H x ≠ some (.tup xs) := fun z => by
  rcases h with ⟨_, _, _, e⟩ | ⟨_, e⟩ <;> rw [e] at z <;> cases z
theorem InD.ex {H : Hp} {x : Addr} (h : InD H x) : H x ≠ none := fun z => by
  rcases h with ⟨_, _, _, e⟩ | ⟨_, e⟩ <;> rw [e] at z <;> cases z
theorem sqBt {K : PySem.W.Frag} {S : List Addr} {H H' : Hp} {a : Addr} {xs : List V} (h : SqL K H a xs) (k : But S H H') (hs : ∀ x ∈ S, InD H x) : SqL K H' a xs := by
  have key : ∀ {o : HO}, H a = some o → (∀ C dx fs, o ≠ .ins C dx fs) → (∀ d, o ≠ .dK d) → H' a = some o := fun e n1 n2 => k _ _ (fun m => by
    rcases hs a m with ⟨C, dx, fs, z⟩ | ⟨d, z⟩
    · rw [e] at z; exact n1 C dx fs (Option.some.inj z)
    · rw [e] at z; exact n2 d (Option.some.inj z)) e
  exact h.elim (fun r => .inl (r.elim (fun e => .inl (key e (fun _ _ _ z => nomatch z) (fun _ z => nomatch z))) (fun ⟨w, e⟩ => .inr ⟨w, key e (fun _ _ _ z => nomatch z) (fun _ z => nomatch z)⟩))) .inr
theorem sqOn {K : PySem.W.Frag} {H H' : Hp} {a : Addr} {xs : List V} (h : SqL K H a xs) (s : Same H H') : SqL K H' a xs := h.elim (fun r => .inl (r.elim (fun e => .inl (s _ _ e)) (fun ⟨w, e⟩ => .inr ⟨w, s _ _ e⟩))) .inr
theorem SeAt.bt {C : Addr} {S : List Addr} {H H' : Hp} {p n a : Addr} {ks : SD} (h : SeAt C H p n a ks) (k : But S H H') (hs : ∀ x ∈ [p, n, a], x ∉ S) : SeAt C H' p n a ks := by
  obtain ⟨⟨dx, h1⟩, h2, h3, h4⟩ := h
  exact ⟨⟨dx, k _ _ (hs _ (by simp)) h1⟩, k _ _ (hs _ (by simp)) h2, k _ _ (hs _ (by simp)) h3, h4⟩
theorem EsAt.bt {G C D S : Addr} {H H' : Hp} {q : Addr} {L : Loc} {m : MM} {se : SD} {Z : List Addr} (e : EsAt G C D S H q L m se) (k : But Z H H') (hz : ∀ x ∈ q :: (L.as ++ L.ss), x ∉ Z) (ht : ∀ x ∈ Z, ∀ xs, H x ≠ some (.tup xs)) : EsAt G C D S H' q L m se := by
  obtain ⟨⟨dx, g⟩, h2, h3, h4⟩ := e
  exact ⟨⟨dx, k _ _ (hz _ List.mem_cons_self) g⟩, h2.bt k (fun x m => hz x (List.mem_cons_of_mem _ (List.mem_append_left _ m))) ht, h3.bt k (fun x m => hz x (List.mem_cons_of_mem _ (List.mem_append_right _ m))), h4⟩
theorem EsAt.ind {G C D S : Addr} {H : Hp} {q : Addr} {L : Loc} {m : MM} {se : SD} (e : EsAt G C D S H q L m se) : ∀ x ∈ q :: L.ss, InD H x := fun x mx => by
  obtain ⟨⟨dx, g⟩, _, ⟨⟨dx3, g3⟩, h2, h3, _⟩, _⟩ := e
  have mx : x ∈ [q, L.pe, L.n3, L.a3] := mx
  simp only [List.mem_cons, List.not_mem_nil, or_false] at mx
  rcases mx with rfl | rfl | rfl | rfl
  · exact .inl ⟨_, _, _, g⟩
  · exact .inl ⟨_, _, _, g3⟩
  · exact .inr ⟨_, h2⟩
  · exact .inr ⟨_, h3⟩
theorem EsAt.lv {G C D S : Addr} {H : Hp} {q : Addr} {L : Loc} {m : MM} {se : SD} (e : EsAt G C D S H q L m se) : ∀ x ∈ q :: (L.as ++ L.ss), H x ≠ none := fun x mx => by
  rcases List.mem_cons.mp mx with rfl | mx
  · exact (e.ind _ List.mem_cons_self).ex
  rcases List.mem_append.mp mx with mx | mx
  · exact (e.as.lv x mx).1
  · exact (e.ind x (List.mem_cons_of_mem _ mx)).ex
/-! ### what execute leaves -/
def mR (m : MM) (r : Sum Str (Str × MM)) : MM := match r with
  | .inl _ => m
  | .inr (_, m') => m'
theorem exR_new {m : MM} {se : SD} {c n : Int} {z : Str} (h : seL se c < n) : exR m se c n z = (txR (rtR m c z), mR m (rtR m c z), pA se c (n, txR (rtR m c z))) := by
  have e : exR m se c n z = match rtR m c z with
    | .inl a => (a, m, pA se c (n, a))
    | .inr (a, m') => (a, m', pA se c (n, a)) := (if_neg (by omega)).trans (if_neg (by omega))
  rw [e]
  cases rtR m c z with
  | inl a => rfl
  | inr p => rfl
theorem exR_old {m : MM} {se : SD} {c n : Int} {z : Str} (h : n ≤ seL se c) : exR m se c n z = (if n < seL se c then Str.ofString "stale" else seA se c, m, se) := by
  unfold exR
  by_cases h1 : n < seL se c
  · rw [if_pos h1, if_pos h1]
  · rw [if_neg h1, if_neg h1, if_pos (by omega)]
theorem nodup_len' : ∀ {xs ys : List Int}, xs.Nodup → (∀ a ∈ xs, a ∈ ys) → xs.length ≤ ys.length
  | [], _, _, _ => Nat.zero_le _
  | x :: r, ys, nd, h => by
    rw [List.nodup_cons] at nd
    have mx := h x List.mem_cons_self
    have := nodup_len' (xs := r) (ys := ys.erase x) nd.2 fun a ha => by
      have ne : a ≠ x := fun z => nd.1 (z ▸ ha)
      exact (List.mem_erase_of_ne ne).mpr (h a (List.mem_cons_of_mem _ ha))
    rw [List.length_erase_of_mem mx] at this
    have : 0 < ys.length := List.length_pos_of_mem mx
    rw [List.length_cons]; omega
theorem MOk_nil : MOk (⟨[], [], 0⟩, []) :=
  ⟨⟨List.nodup_nil, List.nodup_nil, Nat.zero_le _, Nat.zero_le _, (fun _ m => nomatch m), (fun _ m => nomatch m), (fun _ m => nomatch m), rfl, by decide, (fun _ m => nomatch m), (fun _ m => nomatch m)⟩, ⟨List.nodup_nil, Nat.zero_le _, (fun _ m => nomatch m)⟩, ⟨Nat.zero_le _, (fun _ m => nomatch m)⟩, ⟨Nat.zero_le _, (fun _ m => nomatch m)⟩⟩
theorem ex_ans {m : MM} {se : SD} {c n : Int} {z : Str} (hc : c.natAbs ≤ 100) (ok : MOk m) (h : AnsOk (seA se c)) : AnsOk (exR m se c n z).1 := by
  by_cases hl : seL se c < n
  · rw [exR_new hl]; exact rtR_ok hc ok
  · rw [exR_old (by omega)]
    show AnsOk (if n < seL se c then Str.ofString "stale" else seA se c)
    split
    · exact ⟨by decide +kernel, by decide⟩
    · exact h
theorem EsAt.three {G C D S : Addr} {H : Hp} {q : Addr} {L : Loc} {m : MM} {se : SD} (e : EsAt G C D S H q L m se) : ∀ x ∈ [q, L.n3, L.a3], InD H x := fun x mx => by
  refine e.ind x ?_
  simp only [Loc.ss, List.mem_cons, List.not_mem_nil, or_false] at mx ⊢
  rcases mx with rfl | rfl | rfl <;> simp
theorem spRT_of {G C D S : Addr} {H : Hp} {q : Addr} {L : Loc} {m : MM} {se : SD} {c : Int} {z : Str} {Q : VK} {E : XK} (es : EsAt G C D S H q L m se) (ok : MOk m) (hc : c.natAbs ≤ 100) (hz : z.length ≤ 10000)
    (h : ∀ H' L', But [q] H H' → EsAt G C D S H' q L' (mR m (rtR m c z)) se → MOk (mR m (rtR m c z)) → (L'.as = L.as ∨ ∀ x ∈ L'.as, H x = none) → L'.pe = L.pe → L'.n3 = L.n3 → L'.a3 = L.a3 → Q (.str (txR (rtR m c z))) H') : spRT G C D S [.ref q, .int c, .str z] H Q E :=
  ⟨q, L, m, se, c, z, rfl, es, ok, hc, hz, by
    cases hr : rtR m c z with
    | inl a => rw [hr] at h; exact fun H' s => h H' L (Same.but s) (es.on s) ok (.inl rfl) rfl rfl rfl
    | inr p => rw [hr] at h; exact fun H' L' k e o n a b c => h H' L' k e o (.inr n) a b c⟩

/-! ### the sessions that the law leads -/
def cl4 : List Int := [-1, -2, -3, -100]
structure SeG (se : SD) : Prop where
  ok : kOk se
  cl : ∀ k ∈ se, k.1 ∈ cl4
  vl : ∀ k ∈ se, (0 ≤ k.2.1 ∧ k.2.1 ≤ 10 ^ 12) ∧ AnsOk k.2.2
theorem SeG.len {se : SD} (h : SeG se) : se.length ≤ 4 := by
  have := nodup_len' (ys := cl4) h.ok fun a m => by
    obtain ⟨k, mk, rfl⟩ := List.mem_map.mp m
    exact h.cl k mk
  rw [List.length_map] at this
  exact this
theorem cl4_abs {c : Int} (h : c ∈ cl4) : c.natAbs ≤ 100 := (show ∀ c ∈ cl4, c.natAbs ≤ 100 by decide) c h
theorem SeG.seOk {se : SD} (h : SeG se) : SeOk se := by
  have := h.len
  refine ⟨h.ok, by omega, fun k m => ?_⟩
  obtain ⟨⟨a, b⟩, c, d⟩ := h.vl k m
  exact ⟨cl4_abs (h.cl k m), a, b, d, c⟩
theorem SeG.put {se : SD} (h : SeG se) {c n : Int} {a : Str} (hc : c ∈ cl4) (h0 : 0 ≤ n) (h1 : n ≤ 10 ^ 12) (ha : AnsOk a) : SeG (pA se c (n, a)) := by
  refine ⟨pA_ok c _ h.ok, fun k m => ?_, fun k m => ?_⟩
  · rcases pA_mem m with rfl | ⟨m, _⟩
    · exact hc
    · exact h.cl k m
  · rcases pA_mem m with rfl | ⟨m, _⟩
    · exact ⟨⟨h0, h1⟩, ha⟩
    · exact h.vl k m
theorem SeG.last {se : SD} (h : SeG se) (c : Int) : (0 ≤ seL se c ∧ seL se c ≤ 10 ^ 12) ∧ AnsOk (seA se c) := by
  unfold seL seA
  cases g : gA se c with
  | none => exact ⟨⟨Int.le_refl 0, by decide⟩, by decide +kernel, by decide⟩
  | some x => exact h.vl _ (gA_some g)

/-! ### how long the texts of drawn statements are -/
theorem fit_len {k : Str} {x : V} (h : FitK k x) : (sTx x).length ≤ 40 := by
  unfold FitK at h
  split at h
  · obtain ⟨n, rfl, hn⟩ := h
    rw [sTx_nat]
    have := TL.numL_len (n := n) (k := 12) (by decide) hn
    omega
  · obtain ⟨z, rfl, hz⟩ := h
    show z.cps.toList.length ≤ 40
    unfold kindOk at hz
    split at hz
    · unfold nmL at hz
      rw [Bool.and_eq_true, Bool.and_eq_true] at hz
      have := of_decide_eq_true hz.1.2
      omega
    split at hz
    · unfold kyL at hz
      rw [Bool.and_eq_true, Bool.and_eq_true] at hz
      have := of_decide_eq_true hz.1.2
      omega
    · unfold vlL at hz
      rw [Bool.and_eq_true] at hz
      have h2 := hz.2
      rw [Bool.and_eq_true] at h2
      have := of_decide_eq_true h2.2
      omega
theorem stx_246 {xs : List V} (h : Good xs) : (stx xs).length ≤ 246 := by
  have g6 := good_len h
  obtain ⟨v, ks, args, rfl, hl, la, hf⟩ := h
  have hv : v.length ≤ 40 := (show ∀ x ∈ verbT, x.1.length ≤ 40 by decide +kernel) _ (lookup_mem hl)
  unfold stx
  have := jnL_le (c := 32) (m := 40) (ls := (V.str v :: args).map sTx) fun l m => by
    obtain ⟨x, mx, rfl⟩ := List.mem_map.mp m
    rcases List.mem_cons.mp mx with rfl | mx
    · show v.cps.toList.length ≤ 40
      rw [len_tl]; exact hv
    · obtain ⟨i, hi, e⟩ := List.getElem_of_mem mx
      have hk : i < ks.length := by omega
      exact fit_len (hf i ks[i] x (List.getElem?_eq_getElem hk) (by rw [List.getElem?_eq_getElem hi, e]))
  rw [List.length_map] at this
  have : 41 * (V.str v :: args).length ≤ 41 * 6 := Nat.mul_le_mul_left 41 g6
  omega
theorem ctx_len {xss : List (List V)} (h : ∀ xs ∈ xss, Good xs) (l : xss.length ≤ 10) : (ctx xss).length ≤ 2470 := by
  unfold ctx
  have := jnL_le (c := 59) (m := 246) (ls := xss.map stx) fun l m => by
    obtain ⟨x, mx, rfl⟩ := List.mem_map.mp m
    exact stx_246 (h x mx)
  rw [List.length_map] at this
  have : 247 * xss.length ≤ 247 * 10 := Nat.mul_le_mul_left 247 l
  omega

/-! ### no part holds the sign -/
theorem spA_no {c : Nat} : ∀ (p : List Nat), ∀ l ∈ spA c p, c ∉ l
  | [], l, hl => by rw [List.mem_singleton.mp hl]; simp
  | a :: r, l, hl => by
    rw [spA] at hl
    split at hl
    · rcases List.mem_cons.mp hl with rfl | hl
      · simp
      · exact spA_no r l hl
    · rename_i hne
      obtain ⟨u, q, e⟩ := spA_ne c r
      rw [e] at hl
      have ih := spA_no (c := c) r
      rw [e] at ih
      rcases List.mem_cons.mp hl with rfl | hl
      · intro m
        rcases List.mem_append.mp m with m | m
        · have := List.mem_singleton.mp m
          subst this
          simp at hne
        · exact ih u List.mem_cons_self m
      · exact ih l (List.mem_cons_of_mem _ hl)

/-! ### texts without a space -/
def NoS (z : Str) : Prop := 32 ∉ z.cps.toList
theorem NoS_app {a b : Str} (h : NoS a) (k : NoS b) : NoS (a ++ b) := by
  show 32 ∉ (a ++ b).cps.toList
  rw [app_tl]
  intro m
  rcases List.mem_append.mp m with m | m
  · exact h m
  · exact k m
theorem NoS_nat (n : Nat) : NoS (Str.ofString (toString (n : Int))) := by
  show 32 ∉ TL.tl (Str.ofString (toString (n : Int)))
  rw [TL.tl_num n]
  intro m
  have := TL.numL_digits n 32 m
  omega
theorem NoS_join {sep : Str} (hs : NoS sep) : ∀ {ys : List Str}, (∀ y ∈ ys, NoS y) → NoS (Txt.join sep ys) := by
  have e : ∀ l, Txt.join sep l = Str.join sep l := fun l => eq_of_beq (join_closes rfl)
  intro ys h
  rw [e]
  induction ys with
  | nil =>
    show NoS Str.empty
    unfold NoS; decide +kernel
  | cons y r ih =>
    cases r with
    | nil => exact h y List.mem_cons_self
    | cons z r =>
      show NoS (y ++ sep ++ Str.join sep (z :: r))
      exact NoS_app (NoS_app (h y List.mem_cons_self) hs) (ih fun x m => h x (List.mem_cons_of_mem _ m))
theorem keysT_ns {l : List Str} (h : ∀ y ∈ l, NoS y) : NoS (keysT l) := by
  unfold keysT
  split
  · unfold NoS; decide +kernel
  · split
    · exact NoS_app (by unfold NoS; decide +kernel) (NoS_nat _)
    · exact NoS_join (by unfold NoS; decide +kernel) h
theorem ok_ns : NoS (Str.ofString "ok") := by unfold NoS; decide +kernel
def NSp (ks : ST) : Prop := ∀ k ∈ ks, NoS k.1 ∧ NoS k.2.2
def StmNs : Stm → Prop
  | .put k v => NoS k ∧ NoS v
  | .swp _ _ v => NoS v
  | _ => True
theorem stmR_ns {m m' : MM} {c : Int} {s : Stm} {z : Str} (h : MOk m) (ns : NSp m.2) (hs : StmNs s) (e : stmR m c s = .inr (z, m')) : NoS z ∧ NSp m'.2 := by
  cases s with
  | opn n => obtain ⟨_, _, e1, e2⟩ := outA_inr e; rw [e1, e2]; exact ⟨ok_ns, ns⟩
  | cls n => obtain ⟨_, _, e1, e2⟩ := outA_inr e; rw [e1, e2]; exact ⟨ok_ns, ns⟩
  | iss n a => obtain ⟨_, _, e1, e2⟩ := outA_inr e; rw [e1, e2]; exact ⟨ok_ns, ns⟩
  | brn n a => obtain ⟨_, _, e1, e2⟩ := outA_inr e; rw [e1, e2]; exact ⟨ok_ns, ns⟩
  | pay x y a => obtain ⟨_, _, e1, e2⟩ := outA_inr e; rw [e1, e2]; exact ⟨ok_ns, ns⟩
  | hld x y a k => obtain ⟨_, _, e1, e2⟩ := outA_inr e; rw [e1, e2]; exact ⟨ok_ns, ns⟩
  | stl k => obtain ⟨_, _, e1, e2⟩ := outA_inr e; rw [e1, e2]; exact ⟨ok_ns, ns⟩
  | rel k => obtain ⟨_, _, e1, e2⟩ := outA_inr e; rw [e1, e2]; exact ⟨ok_ns, ns⟩
  | put k v =>
    obtain ⟨s', e0, e1, e2⟩ := outS_inr e
    rw [e1, e2]
    refine ⟨ok_ns, ?_⟩
    have e3 : s' = pA m.2 k (c, v) := by
      unfold stPut at e0
      split at e0 <;> split at e0 <;> cases e0 <;> rfl
    rw [e3]
    intro x mx
    rcases pA_mem mx with rfl | ⟨mx, _⟩
    · exact hs
    · exact ns x mx
  | drp k =>
    obtain ⟨s', e0, e1, e2⟩ := outS_inr e
    rw [e1, e2]
    refine ⟨ok_ns, ?_⟩
    have e3 : s' = rmA m.2 k := by
      unfold stDrop at e0
      split at e0
      · split at e0 <;> cases e0; rfl
      · cases e0
    rw [e3]
    exact fun x mx => ns x (List.mem_filter.mp mx).1
  | swp k o v =>
    obtain ⟨s', e0, e1, e2⟩ := outS_inr e
    rw [e1, e2]
    refine ⟨ok_ns, ?_⟩
    unfold stSwap at e0
    cases g : gA m.2 k with
    | none => rw [g] at e0; cases e0
    | some x =>
      rw [g] at e0
      have e3 : s' = pA m.2 k (x.1, v) := by
        dsimp only at e0
        split at e0 <;> cases e0; rfl
      rw [e3]
      intro y my
      rcases pA_mem my with rfl | ⟨my, _⟩
      · exact ⟨(ns _ (gA_some g)).1, hs⟩
      · exact ns y my
  | bal n =>
    have e : (match gA m.1.ac n with | none => .inl "missing" | some x => .inr (Str.ofString (toString x.2), m)) = (Sum.inr (z, m') : Sum Str (Str × MM)) := e
    cases g : gA m.1.ac n with
    | none => rw [g] at e; cases e
    | some x =>
      rw [g] at e
      cases e
      obtain ⟨b, hb⟩ := Int.eq_ofNat_of_zero_le (bal_le h.ac g).1
      refine ⟨?_, ns⟩
      show NoS (Str.ofString (toString x.2))
      rw [hb]
      exact NoS_nat b
  | atl n a =>
    have e : (match gA m.1.ac n with | none => .inl "missing" | some x => need (decide ((a : Int) ≤ x.2)) m) = (Sum.inr (z, m') : Sum Str (Str × MM)) := e
    cases g : gA m.1.ac n with
    | none => rw [g] at e; cases e
    | some x => rw [g] at e; rw [(need_inr e).1, (need_inr e).2]; exact ⟨ok_ns, ns⟩
  | get k =>
    have e : (match stRead m.2 k with | .inl z => .inl z | .inr v => .inr (v, m)) = (Sum.inr (z, m') : Sum Str (Str × MM)) := e
    unfold stRead at e
    cases g : gA m.2 k with
    | none => rw [g] at e; cases e
    | some x =>
      rw [g] at e
      cases e
      exact ⟨(ns _ (gA_some g)).2, ns⟩
  | sam k v =>
    have e : (match stRead m.2 k with | .inl z => .inl z | .inr w => need (decide (w = v)) m) = (Sum.inr (z, m') : Sum Str (Str × MM)) := e
    cases g : stRead m.2 k with
    | inl z => rw [g] at e; cases e
    | inr x => rw [g] at e; rw [(need_inr e).1, (need_inr e).2]; exact ⟨ok_ns, ns⟩
  | kys k =>
    have e : (Sum.inr (keysT ((sortK m.2).filter fun z => Txt.startswith z k), m) : Sum Str (Str × MM)) = Sum.inr (z, m') := e
    cases e
    refine ⟨keysT_ns fun y my => ?_, ns⟩
    obtain ⟨x, _, mx⟩ := sortK_get h.st.1 (List.mem_filter.mp my).1
    exact (ns _ mx).1
/-! ### one statement after the other -/
theorem join_snoc {sep : Str} (ys : List Str) (y : Str) (h : ys ≠ []) : Txt.join sep (ys ++ [y]) = Txt.join sep ys ++ sep ++ y := by
  have e : ∀ l, Txt.join sep l = Str.join sep l := fun l => eq_of_beq (join_closes rfl)
  rw [e, e]
  induction ys with
  | nil => exact absurd rfl h
  | cons x r ih =>
    cases r with
    | nil => rfl
    | cons z r =>
      show x ++ sep ++ Str.join sep ((z :: r) ++ [y]) = x ++ sep ++ Str.join sep (z :: r) ++ sep ++ y
      rw [ih (by simp)]
      simp only [Str.append_assoc]
/-- the answer so far -/
def ansOf (rs : List Str) : Str := Txt.join (Str.ofString ";") rs
theorem ans_step {rs : List Str} {i : Nat} {res : Str} (hi : rs.length = i) : (if 0 < i then (Str.empty ++ ansOf rs) ++ Str.ofString ";" ++ res else res) = ansOf (rs ++ [res]) := by
  unfold ansOf
  cases rs with
  | nil =>
    have : i = 0 := hi.symm
    subst this
    rfl
  | cons x r =>
    rw [if_pos (by rw [← hi, List.length_cons]; omega), join_snoc _ _ (by simp)]
    rw [PySem.Str.empty_append]
/-- what one statement by itself is told -/
def oneR (m : MM) (c : Int) (s : Stm) : Sum Str (Str × MM) := match stmR m c s with
  | .inl z => .inl z
  | .inr (res, m') => if 200 < res.length then .inl "long" else .inr (res, m')
theorem run_one (m : MM) (c : Int) (s : Stm) : runR m c [s] = match oneR m c s with
  | .inl z => .inl (Str.ofString "refused 0 " ++ z)
  | .inr p => .inr p := by
  show goR c 0 "" m [s] = _
  rw [goR]
  unfold oneR
  have e0 : ((Str.empty ++ "refused ") ++ Str.ofString (toString ((0 : Nat) : Int))) ++ " " = Str.ofString "refused 0 " := by decide +kernel
  cases stmR m c s with
  | inl z =>
    dsimp only
    rw [e0]
  | inr p =>
    obtain ⟨res, m'⟩ := p
    dsimp only
    have e1 : (if 0 < 0 then (Str.empty ++ Str.ofString "") ++ Str.ofString ";" ++ res else res) = res := if_neg (Nat.lt_irrefl 0)
    by_cases h : 200 < res.length
    · rw [if_pos (by rw [if_neg (Nat.lt_irrefl 0)]; exact h), if_pos h]
      exact congrArg Sum.inl (show ((Str.empty ++ Str.ofString "refused ") ++ Str.ofString (toString ((0 : Nat) : Int))) ++ Str.ofString " long" = Str.ofString "refused 0 " ++ Str.ofString "long" by decide +kernel)
    · rw [if_neg (by rw [if_neg (Nat.lt_irrefl 0)]; exact h), if_neg h]
      rw [goR, if_neg (Nat.lt_irrefl 0)]
theorem go_step {c : Int} {i : Nat} {rs : List Str} {m : MM} {s : Stm} {r : List Stm} (hi : rs.length = i) : goR c i (ansOf rs) m (s :: r) = match oneR m c s with
  | .inl z => .inl (((Str.empty ++ "refused ") ++ Str.ofString (toString (i : Int))) ++ " " ++ z)
  | .inr (res, m') => if 200 < (ansOf (rs ++ [res])).length then .inl (((Str.empty ++ "refused ") ++ Str.ofString (toString (i : Int))) ++ " long") else goR c (i + 1) (ansOf (rs ++ [res])) m' r := by
  rw [goR]
  unfold oneR
  cases stmR m c s with
  | inl z => rfl
  | inr p =>
    obtain ⟨res, m'⟩ := p
    dsimp only
    have e := ans_step (res := res) hi
    rw [show (if 0 < i then (Str.empty ++ ansOf rs) ++ (";" : Str) ++ res else res) = ansOf (rs ++ [res]) from e]
    by_cases h : 200 < res.length
    · rw [if_pos h]
      have : 200 < (ansOf (rs ++ [res])).length := by
        rw [← e]
        split
        · simp only [Str.length_append]; omega
        · exact h
      rw [if_pos this]
      show _ = Sum.inl (((Str.empty ++ "refused ") ++ Str.ofString (toString (i : Int))) ++ Str.ofString " " ++ Str.ofString "long")
      rw [Str.append_assoc _ (Str.ofString " ")]
      rfl
    · rw [if_neg h]
/-! ### no text of a statement that was parsed holds a space -/
theorem argsV_str : ∀ {ks : List Str} {ws : List (List Nat)} {z : Str}, V.str z ∈ argsV ks ws → z.cps.toList ∈ ws
  | [], _, _, m => by rw [argsV] at m; cases m; simp
  | _ :: _, [], _, m => by rw [argsV] at m; cases m; simp
  | k :: ks, l :: ls, z, m => by
    rw [argsV] at m
    rcases List.mem_cons.mp m with m | m
    · unfold argV at m
      split at m
      · cases m
      · have := V.str.inj m
        rw [this]
        simp
    · exact List.mem_cons_of_mem _ (argsV_str m)
theorem psR_ns {i : Nat} {p : List Nat} {xs : List V} (e : psR i p = .inr xs) : ∀ z, V.str z ∈ xs → NoS z := by
  unfold psR at e
  split at e
  · cases e
  split at e
  · cases e
  have no := spA_no (c := 32) p
  cases hs : spA 32 p with
  | nil => obtain ⟨_, _, e2⟩ := spA_ne 32 p; rw [hs] at e2; cases e2
  | cons v ws =>
  rw [hs] at e no
  cases lk : verbT.lookup (⟨v.toArray⟩ : Str) with
  | none => rw [psW_none lk] at e; cases e
  | some ks =>
  rw [psW_some lk] at e
  split at e
  · cases hb : argBad ks ws with
    | some k => rw [hb] at e; cases e
    | none =>
      rw [hb] at e
      have e : (.str ⟨v.toArray⟩ :: argsV ks ws) = xs := by cases e; rfl
      rw [← e]
      intro z m
      rcases List.mem_cons.mp m with m | m
      · have := V.str.inj m
        rw [this]
        show 32 ∉ (v.toArray).toList
        simpa using no v List.mem_cons_self
      · exact no _ (List.mem_cons_of_mem _ (argsV_str m))
  · cases e
theorem pcL_ns : ∀ {ps : List (List Nat)} {i : Nat} {rs : List (List V)}, pcL i ps = .inr rs → ∀ xs ∈ rs, ∀ z, V.str z ∈ xs → NoS z
  | [], _, _, e => by rw [pcL] at e; cases e; exact fun _ m => nomatch m
  | p :: ps, i, rs, e => by
    rw [pcL] at e
    cases h : psR i p with
    | inl z => rw [h] at e; cases e
    | inr xs =>
    rw [h] at e
    dsimp only at e
    cases h2 : pcL (i + 1) ps with
    | inl z => rw [h2] at e; cases e
    | inr r =>
    rw [h2] at e
    cases e
    intro ys m
    rcases List.mem_cons.mp m with rfl | m
    · exact psR_ns h
    · exact pcL_ns h2 ys m
theorem pcAll_ns {cs : List Nat} {rs : List (List V)} (e : pcAll cs = .inr rs) : ∀ xs ∈ rs, ∀ z, V.str z ∈ xs → NoS z := by
  unfold pcAll at e
  split at e
  · cases e
  split at e
  · exact pcL_ns e
  · cases e
theorem stm_ns {s : Stm} (h : ∀ z, V.str z ∈ stV s → NoS z) : StmNs s := by
  cases s with
  | put k v => exact ⟨h k (by simp [stV]), h v (by simp [stV])⟩
  | swp k o v => exact h v (by simp [stV])
  | _ => trivial
theorem goR_ns {c : Int} (hc : c.natAbs ≤ 100) : ∀ {ss : List Stm} {i : Nat} {ans : Str} {m : MM} {a : Str} {m' : MM}, MOk m → NSp m.2 → (∀ s ∈ ss, StmOk s ∧ StmNs s) → goR c i ans m ss = .inr (a, m') → NSp m'.2
  | [], _, _, _, _, _, _, h, _, e => by rw [goR] at e; cases e; exact h
  | s :: r, i, ans, m, a, m', ok, h, hs, e => by
    rw [goR] at e
    cases hr : stmR m c s with
    | inl z => rw [hr] at e; cases e
    | inr p =>
      obtain ⟨res, m1⟩ := p
      rw [hr] at e
      dsimp only at e
      obtain ⟨s1, s2⟩ := hs s List.mem_cons_self
      obtain ⟨ok1, _⟩ := stmR_ok ok s1 hc hr
      have n1 := (stmR_ns ok h s2 hr).2
      by_cases h2 : 200 < (if 0 < i then (Str.empty ++ ans) ++ ";" ++ res else res).length
      · rw [if_pos h2] at e; cases e
      · rw [if_neg h2] at e
        exact goR_ns hc ok1 n1 (fun x mx => hs x (List.mem_cons_of_mem _ mx)) e
theorem rt_ns {c : Int} (hc : c.natAbs ≤ 100) {m : MM} {z : Str} (ok : MOk m) (h : NSp m.2) : NSp (mR m (rtR m c z)).2 := by
  unfold rtR
  cases e : pcAll z.cps.toList with
  | inl q => exact h
  | inr rs =>
    obtain ⟨f1, f2⟩ := ssOf_eq (pcAll_stm e)
    have f3 : ∀ s ∈ ssOf rs, StmOk s ∧ StmNs s := fun s ms => ⟨f2 s ms, stm_ns (pcAll_ns e _ (by rw [f1]; exact List.mem_map.mpr ⟨s, ms, rfl⟩))⟩
    show NSp (mR m (runR m c (ssOf rs))).2
    cases e2 : runR m c (ssOf rs) with
    | inl a => exact h
    | inr p =>
      obtain ⟨a, m'⟩ := p
      exact goR_ns hc ok h f3 e2
theorem ex_ns {c n : Int} (hc : c.natAbs ≤ 100) {m : MM} {se : SD} {z : Str} (ok : MOk m) (h : NSp m.2) : NSp (exR m se c n z).2.1.2 := by
  by_cases hl : seL se c < n
  · rw [exR_new hl]; exact rt_ns hc ok h
  · rw [exR_old (by omega)]; exact h
theorem good_stm {xs : List V} (h : Good xs) : ∃ s, xs = stV s ∧ StmOk s ∧ StmNs s := by
  have e := pcL_good (k := 0) (xss := [xs]) fun ys m => by rw [List.mem_singleton.mp m]; exact h
  obtain ⟨ss, e1, e2⟩ := pcL_stm e
  cases ss with
  | nil => cases e1
  | cons s r =>
    cases r with
    | cons s2 r => simp at e1
    | nil =>
      have e3 : xs = stV s := by simpa using e1
      exact ⟨s, e3, e2 s (by simp), stm_ns fun z m => by rw [← e3] at m; exact (good_wd h _ m).1.2.1⟩
theorem oneR_inr {m m' : MM} {c : Int} {s : Stm} {z : Str} (h : oneR m c s = .inr (z, m')) : stmR m c s = .inr (z, m') ∧ z.length ≤ 200 := by
  unfold oneR at h
  cases e : stmR m c s with
  | inl a => rw [e] at h; cases h
  | inr p =>
    rw [e] at h
    obtain ⟨a, b⟩ := p
    dsimp only at h
    by_cases l : 200 < a.length
    · rw [if_pos l] at h; cases h
    · rw [if_neg l] at h
      cases h
      exact ⟨rfl, by omega⟩
theorem r0_cut (z : Str) : cutS (Str.ofString "refused 0 " ++ z) none (some 10) = Str.ofString "refused 0 " := by
  have e : (cutS (Str.ofString "refused 0 " ++ z) none (some ((10 : Nat) : Int))).cps.toList = (Str.ofString "refused 0 ").cps.toList := by
    rw [cut_to, app_tl]
    exact List.take_left' (by decide +kernel)
  have e1 : (⟨(cutS (Str.ofString "refused 0 " ++ z) none (some ((10 : Nat) : Int))).cps.toList.toArray⟩ : Str) = _ := str_eq_l.mpr rfl
  have e2 : (⟨(Str.ofString "refused 0 ").cps.toList.toArray⟩ : Str) = _ := str_eq_l.mpr rfl
  exact e1.symm.trans ((congrArg (fun l => (⟨l.toArray⟩ : Str)) e).trans e2)
theorem r0_rest (z : Str) : cutS (Str.ofString "refused 0 " ++ z) (some 10) none = z := by
  have e : (cutS (Str.ofString "refused 0 " ++ z) (some ((10 : Nat) : Int)) none).cps.toList = z.cps.toList := by
    rw [cut_from, app_tl]
    exact List.drop_left' (by decide +kernel)
  have e1 : (⟨(cutS (Str.ofString "refused 0 " ++ z) (some ((10 : Nat) : Int)) none).cps.toList.toArray⟩ : Str) = _ := str_eq_l.mpr rfl
  have e2 : (⟨z.cps.toList.toArray⟩ : Str) = _ := str_eq_l.mpr rfl
  exact e1.symm.trans ((congrArg (fun l => (⟨l.toArray⟩ : Str)) e).trans e2)
theorem r0_no {z : Str} (h : NoS z) : cutS z none (some 10) ≠ Str.ofString "refused 0 " := fun e => by
  have k : (cutS z none (some ((10 : Nat) : Int))).cps.toList = z.cps.toList.take 10 := cut_to
  have e : cutS z none (some ((10 : Nat) : Int)) = Str.ofString "refused 0 " := e
  rw [e] at k
  have m : 32 ∈ (Str.ofString "refused 0 ").cps.toList := by decide +kernel
  rw [k] at m
  exact h (List.mem_of_mem_take m)

/-! ### states that the law prepares -/
theorem SeG.exr {m : MM} {se : SD} (h : SeG se) {c n : Int} {z : Str} (hc : c ∈ cl4) (h0 : 0 ≤ n) (h1 : n ≤ 10 ^ 12) (ok : MOk m) : SeG (exR m se c n z).2.2 := by
  by_cases hl : seL se c < n
  · rw [exR_new hl]; exact h.put hc h0 h1 (rtR_ok (cl4_abs hc) ok)
  · rw [exR_old (by omega)]; exact h
structure PrI (G C D S : Addr) (H H' : Hp) (q : Addr) (L : Loc) (m : MM) (se : SD) : Prop where
  sm : Same H H'
  qn : H q = none
  ln : ∀ x ∈ L.as ++ L.ss, H x = none
  es : EsAt G C D S H' q L m se
  ok : MOk m
  se : SeG se
  ns : NSp m.2
theorem PrI.on {G C D S : Addr} {H H1 H2 : Hp} {q : Addr} {L : Loc} {m : MM} {se : SD} (h : PrI G C D S H H1 q L m se) (s : Same H1 H2) : PrI G C D S H H2 q L m se := ⟨h.sm.trans s, h.qn, h.ln, h.es.on s, h.ok, h.se, h.ns⟩
theorem PrI.ex {G C D S : Addr} {H H1 H2 : Hp} {q : Addr} {L L' : Loc} {m : MM} {se : SD} {c n : Int} {z : Str} (h : PrI G C D S H H1 q L m se) (hc : c ∈ cl4) (h0 : 0 ≤ n) (h1 : n ≤ 10 ^ 12) (k : But [q, L.n3, L.a3] H1 H2) (es : EsAt G C D S H2 q L' (exR m se c n z).2.1 (exR m se c n z).2.2) (ok : MOk (exR m se c n z).2.1) (la : L'.as = L.as ∨ ∀ x ∈ L'.as, H1 x = none) (e1 : L'.pe = L.pe) (e2 : L'.n3 = L.n3) (e3 : L'.a3 = L.a3) : PrI G C D S H H2 q L' (exR m se c n z).2.1 (exR m se c n z).2.2 := by
  have ss : L'.ss = L.ss := by unfold Loc.ss; rw [e1, e2, e3]
  refine ⟨same_new h.sm k fun x mx => ?_, h.qn, fun x mx => ?_, es, ok, h.se.exr hc h0 h1 h.ok, ex_ns (cl4_abs hc) h.ok h.ns⟩
  · simp only [List.mem_cons, List.not_mem_nil, or_false] at mx
    rcases mx with rfl | rfl | rfl
    · exact h.qn
    · exact h.ln _ (List.mem_append_right _ (by simp [Loc.ss]))
    · exact h.ln _ (List.mem_append_right _ (by simp [Loc.ss]))
  · rcases List.mem_append.mp mx with mx | mx
    · rcases la with la | la
      · exact h.ln x (List.mem_append_left _ (by rw [← la]; exact mx))
      · exact same_none h.sm (la x mx)
    · exact h.ln x (List.mem_append_right _ (by rw [← ss]; exact mx))

/-! ### dicts that differ in the order of their entries only -/
structure PE {α : Type} (a b : List (Str × α)) : Prop where
  ka : kOk a
  kb : kOk b
  eq : ∀ k, gA a k = gA b k
section
variable {α : Type} {a b : List (Str × α)}
theorem PE.refl (h : kOk a) : PE a a := ⟨h, h, fun _ => rfl⟩
theorem PE.symm (h : PE a b) : PE b a := ⟨h.kb, h.ka, fun k => (h.eq k).symm⟩
theorem PE.trans {c : List (Str × α)} (h : PE a b) (g : PE b c) : PE a c := ⟨h.ka, g.kb, fun k => (h.eq k).trans (g.eq k)⟩
theorem PE.mem (h : PE a b) {e : Str × α} (m : e ∈ a) : e ∈ b := by
  have g := gA_mem h.ka m
  rw [h.eq] at g
  exact gA_some g
theorem PE.perm (h : PE a b) : a.Perm b := by
  have nd : ∀ {l : List (Str × α)}, kOk l → l.Nodup := fun {l} h => List.Pairwise.of_map _ (fun x y h z => h (by rw [z])) h
  exact (List.perm_ext_iff_of_nodup (nd h.ka) (nd h.kb)).mpr fun e => ⟨h.mem, h.symm.mem⟩
theorem PE.len (h : PE a b) : a.length = b.length := h.perm.length_eq
theorem PE.put (h : PE a b) (k : Str) (x : α) : PE (pA a k x) (pA b k x) := ⟨pA_ok k x h.ka, pA_ok k x h.kb, fun d => by rw [gA_put h.ka, gA_put h.kb, h.eq]⟩
theorem PE.rm (h : PE a b) (k : Str) : PE (rmA a k) (rmA b k) := ⟨rmA_ok k h.ka, rmA_ok k h.kb, fun d => by rw [gA_rmA, gA_rmA, h.eq]⟩
end
theorem le_le {x y : List Nat} (h : x ≤ y) (k : y ≤ x) : x = y := List.le_antisymm h k
theorem sort_one : ∀ {a b : List Str}, a.Perm b → a.Pairwise (fun x y => x.cps.toList ≤ y.cps.toList) → b.Pairwise (fun x y => x.cps.toList ≤ y.cps.toList) → a = b
  | [], b, p, _, _ => (List.nil_perm.mp p).symm
  | x :: a, [], p, _, _ => absurd (p.length_eq) (by simp)
  | x :: a, y :: b, p, ha, hb => by
    have hx : x ∈ y :: b := p.subset List.mem_cons_self
    have hy : y ∈ x :: a := p.symm.subset List.mem_cons_self
    rw [List.pairwise_cons] at ha hb
    have e : x = y := by
      rcases List.mem_cons.mp hx with h | h
      · exact h
      rcases List.mem_cons.mp hy with g | g
      · exact g.symm
      have e := le_le (ha.1 y g) (hb.1 x h)
      have e1 : (⟨x.cps.toList.toArray⟩ : Str) = x := str_eq_l.mpr rfl
      have e2 : (⟨y.cps.toList.toArray⟩ : Str) = y := str_eq_l.mpr rfl
      rw [← e1, e, e2]
    subst e
    rw [sort_one (List.Perm.cons_inv p) ha.2 hb.2]
theorem sortS_sorted (l : List Str) : (sortS l).Pairwise fun x y => x.cps.toList ≤ y.cps.toList := by
  unfold sortS
  rw [PySem.W.dataLe_str (fun z => z)]
  have := List.pairwise_mergeSort (le := fun a b : Str => decide (a.cps.toList ≤ b.cps.toList)) (fun a b c h k => decide_eq_true (List.le_trans (of_decide_eq_true h) (of_decide_eq_true k))) (fun a b => by
    rcases List.le_total a.cps.toList b.cps.toList with h | h
    · rw [decide_eq_true h]; rfl
    · rw [decide_eq_true h, Bool.or_true]) l
  exact this.imp fun h => of_decide_eq_true h
theorem PE.sort {α : Type} {a b : List (Str × α)} (h : PE a b) : sortK a = sortK b := by
  unfold sortK
  exact sort_one ((sortS_perm _).trans ((h.perm.map _).trans (sortS_perm _).symm)) (sortS_sorted _) (sortS_sorted _)
/-! ### states that differ so -/
structure AEq (s t : AS) : Prop where
  ac : PE s.ac t.ac
  ho : PE s.ho t.ho
  su : s.su = t.su
structure ME (m n : MM) : Prop where
  ac : AEq m.1 n.1
  st : PE m.2 n.2
theorem ME.refl {m : MM} (h : MOk m) : ME m m := ⟨⟨PE.refl h.ac.ok, PE.refl h.ac.okh, rfl⟩, PE.refl h.st.1⟩
theorem ME.symm {m n : MM} (h : ME m n) : ME n m := ⟨⟨h.ac.ac.symm, h.ac.ho.symm, h.ac.su.symm⟩, h.st.symm⟩
theorem ME.trans {m n o : MM} (h : ME m n) (g : ME n o) : ME m o := ⟨⟨h.ac.ac.trans g.ac.ac, h.ac.ho.trans g.ac.ho, h.ac.su.trans g.ac.su⟩, h.st.trans g.st⟩
def RE {α β : Type} (R : β → β → Prop) (r r' : Sum α β) : Prop := match r, r' with
  | .inl a, .inl b => a = b
  | .inr p, .inr q => R p q
  | _, _ => False
theorem PE.addB {a b : AB} (h : PE a b) (n : Str) (d : Int) : PE (addB a n d) (addB b n d) := by
  unfold Law.addB
  rw [h.eq]
  split
  · exact h
  · exact h.put _ _
theorem AEq.chk {s t : AS} (h : AEq s t) (n : Str) : chk s n = chk t n := by unfold Law.chk; rw [h.ac.eq]
theorem AEq.chkO {s t : AS} (h : AEq s t) (c : Int) (n : Str) : chkO s c n = chkO t c n := by unfold Law.chkO; rw [h.ac.eq]
theorem AEq.chkF {s t : AS} (h : AEq s t) (n : Str) (a : Int) : chkF s n a = chkF t n a := by unfold Law.chkF; rw [h.ac.eq]
theorem AEq.chkP {s t : AS} (h : AEq s t) (c : Int) (x y : Str) (a : Int) : chkP s c x y a = chkP t c x y a := by unfold Law.chkP; rw [h.chk, h.chkO, h.chkF]
theorem AEq.heldB {s t : AS} (h : AEq s t) (n : Str) : heldB s.ho n = heldB t.ho n := by
  unfold Law.heldB
  rw [Bool.eq_iff_iff, List.any_eq_true, List.any_eq_true]
  exact ⟨fun ⟨e, m, p⟩ => ⟨e, h.ho.mem m, p⟩, fun ⟨e, m, p⟩ => ⟨e, h.ho.symm.mem m, p⟩⟩
theorem AEq.op {s t : AS} (h : AEq s t) (o : OpA) : RE AEq (acOp s o) (acOp t o) := by
  have hs := h.su
  unfold acOp
  split
  · unfold opCreate
    rw [h.ac.eq, h.ac.len]
    split
    · rfl
    · split
      · rfl
      · exact ⟨h.ac.put _ _, h.ho, hs⟩
  split
  · unfold opClose
    rw [h.chkO, h.ac.eq, h.heldB]
    split
    · rfl
    · split
      · rfl
      · split
        · rfl
        · exact ⟨h.ac.rm _, h.ho, hs⟩
  split
  · unfold opIssue
    rw [h.chk, hs]
    split
    · rfl
    · split
      · rfl
      · split
        · rfl
        · exact ⟨h.ac.addB _ _, h.ho, rfl⟩
  split
  · unfold opBurn
    rw [h.chkO, h.chkF, hs]
    split
    · rfl
    · split
      · rfl
      · exact ⟨h.ac.addB _ _, h.ho, rfl⟩
  split
  · unfold opPay
    rw [h.chkP]
    split
    · rfl
    · exact ⟨(h.ac.addB _ _).addB _ _, h.ho, hs⟩
  split
  · unfold opHold
    rw [h.chkP, h.ho.eq, h.ho.len]
    split
    · rfl
    · split
      · rfl
      · split
        · rfl
        · exact ⟨h.ac.addB _ _, h.ho.put _ _, hs⟩
  split
  · unfold opSettle
    rw [h.ho.eq]
    split
    · rfl
    · rw [h.chkO]
      split
      · rfl
      · exact ⟨h.ac.addB _ _, h.ho.rm _, hs⟩
  · unfold opRelease
    rw [h.ho.eq]
    split
    · rfl
    · rw [h.chkO]
      split
      · rfl
      · exact ⟨h.ac.addB _ _, h.ho.rm _, hs⟩
/-! ### statements upon such states -/
def RM : Str × MM → Str × MM → Prop := fun p q => p.1 = q.1 ∧ ME p.2 q.2
theorem ME.outA {m n : MM} (h : ME m n) {r r' : Sum Str AS} (e : RE AEq r r') : RE RM (outA r m) (outA r' n) := by
  cases r <;> cases r' <;> first | exact e | exact ⟨rfl, e, h.st⟩ | cases e
theorem ME.outS {m n : MM} (h : ME m n) {r r' : Sum Str ST} (e : RE PE r r') : RE RM (outS r m) (outS r' n) := by
  cases r <;> cases r' <;> first | exact e | exact ⟨rfl, h.ac, e⟩ | cases e
theorem ME.need {m n : MM} (h : ME m n) (b : Bool) : RE RM (need b m) (need b n) := by
  cases b
  · rfl
  · exact ⟨rfl, h⟩
theorem ME.stm {m n : MM} (h : ME m n) (c : Int) (s : Stm) : RE RM (stmR m c s) (stmR n c s) := by
  cases s with
  | opn x => exact h.outA (h.ac.op ⟨"create", c, x, x, 0, x⟩)
  | cls x => exact h.outA (h.ac.op ⟨"close", c, x, x, 0, x⟩)
  | iss x a => exact h.outA (h.ac.op ⟨"issue", c, x, x, a, x⟩)
  | brn x a => exact h.outA (h.ac.op ⟨"burn", c, x, x, a, x⟩)
  | pay x y a => exact h.outA (h.ac.op ⟨"pay", c, x, y, a, x⟩)
  | hld x y a k => exact h.outA (h.ac.op ⟨"hold", c, x, y, a, k⟩)
  | stl k => exact h.outA (h.ac.op ⟨"settle", c, k, k, 0, k⟩)
  | rel k => exact h.outA (h.ac.op ⟨"release", c, k, k, 0, k⟩)
  | put k v =>
    refine h.outS ?_
    unfold stPut
    rw [h.st.eq, h.st.len]
    split <;> split <;> first | rfl | exact h.st.put _ _
  | drp k =>
    refine h.outS ?_
    unfold stDrop
    rw [h.st.eq]
    split
    · split <;> first | rfl | exact h.st.rm _
    · rfl
  | swp k o v =>
    refine h.outS ?_
    unfold stSwap
    rw [h.st.eq]
    split
    · split <;> first | rfl | exact h.st.put _ _
    · rfl
  | bal x =>
    show RE RM (match gA m.1.ac x with | none => .inl "missing" | some x => .inr (Str.ofString (toString x.2), m) : Sum Str (Str × MM)) (match gA n.1.ac x with | none => .inl "missing" | some x => .inr (Str.ofString (toString x.2), n) : Sum Str (Str × MM))
    rw [h.ac.ac.eq]
    split
    · rfl
    · exact ⟨rfl, h⟩
  | atl x a =>
    show RE RM (match gA m.1.ac x with | none => .inl "missing" | some x => Law.need (decide ((a : Int) ≤ x.2)) m : Sum Str (Str × MM)) (match gA n.1.ac x with | none => .inl "missing" | some x => Law.need (decide ((a : Int) ≤ x.2)) n : Sum Str (Str × MM))
    rw [h.ac.ac.eq]
    split
    · rfl
    · exact h.need _
  | get k =>
    show RE RM (match stRead m.2 k with | .inl z => .inl z | .inr v => .inr (v, m)) (match stRead n.2 k with | .inl z => .inl z | .inr v => .inr (v, n))
    unfold stRead
    rw [h.st.eq]
    cases gA n.2 k with
    | none => rfl
    | some x => exact ⟨rfl, h⟩
  | sam k v =>
    show RE RM (match stRead m.2 k with | .inl z => .inl z | .inr w => Law.need (decide (w = v)) m) (match stRead n.2 k with | .inl z => .inl z | .inr w => Law.need (decide (w = v)) n)
    unfold stRead
    rw [h.st.eq]
    cases gA n.2 k with
    | none => rfl
    | some x => exact h.need _
  | kys z =>
    show RE RM (.inr (keysT ((sortK m.2).filter fun k => Txt.startswith k z), m)) (.inr (keysT ((sortK n.2).filter fun k => Txt.startswith k z), n))
    rw [h.st.sort]
    exact ⟨rfl, h⟩
theorem ME.go {c : Int} : ∀ {ss : List Stm} {i : Nat} {ans : Str} {m n : MM}, ME m n → RE RM (goR c i ans m ss) (goR c i ans n ss)
  | [], _, _, _, _, h => by rw [goR, goR]; exact ⟨rfl, h⟩
  | s :: r, i, ans, m, n, h => by
    have e := h.stm c s
    rw [goR, goR]
    cases h1 : stmR m c s with
    | inl z =>
      cases h2 : stmR n c s with
      | inl z' => rw [h1, h2] at e; have e : z = z' := e; rw [e]; rfl
      | inr p => rw [h1, h2] at e; cases e
    | inr p =>
      cases h2 : stmR n c s with
      | inl z' => rw [h1, h2] at e; cases e
      | inr p' =>
        rw [h1, h2] at e
        obtain ⟨z, m'⟩ := p
        obtain ⟨z', n'⟩ := p'
        obtain ⟨e1, e2⟩ := e
        have e1 : z = z' := e1
        subst e1
        dsimp only
        by_cases h2 : 200 < (if 0 < i then (Str.empty ++ ans) ++ ";" ++ z else z).length
        · rw [if_pos h2, if_pos h2]; rfl
        · rw [if_neg h2, if_neg h2]; exact ME.go (show ME m' n' from e2)
theorem ME.rt {m n : MM} (h : ME m n) (c : Int) (z : Str) : RE RM (rtR m c z) (rtR n c z) := by
  unfold rtR
  split
  · rfl
  · exact h.go
theorem ME.text {m n : MM} (h : ME m n) (se : SD) : stT m se = stT n se := by
  unfold stT stD rowsA rowsH rowsS
  have e1 : rowA m.1.ac = rowA n.1.ac := funext fun k => by unfold rowA; rw [h.ac.ac.eq]
  have e2 : rowH m.1.ho = rowH n.1.ho := funext fun k => by unfold rowH; rw [h.ac.ho.eq]
  have e3 : srowD m.2 = srowD n.2 := funext fun k => by unfold srowD; rw [h.st.eq]
  rw [e1, e2, e3, h.ac.ac.sort, h.ac.ho.sort, h.st.sort, h.ac.su]
/-! ### sessions -/
structure SE (a b : SD) : Prop where
  ka : kOk a
  kb : kOk b
  eq : ∀ k, gA a k = gA b k
theorem SE.refl {a : SD} (h : kOk a) : SE a a := ⟨h, h, fun _ => rfl⟩
theorem SE.put {a b : SD} (h : SE a b) (k : Int) (x : Int × Str) : SE (pA a k x) (pA b k x) := ⟨pA_ok k x h.ka, pA_ok k x h.kb, fun d => by rw [gA_put h.ka, gA_put h.kb, h.eq]⟩
theorem SE.seL {a b : SD} (h : SE a b) (c : Int) : seL a c = seL b c := by unfold Law.seL; rw [h.eq]
theorem SE.seA {a b : SD} (h : SE a b) (c : Int) : seA a c = seA b c := by unfold Law.seA; rw [h.eq]
theorem SE.keys {a b : SD} (h : SE a b) : (a.map (·.1)).Perm (b.map (·.1)) := by
  have key : ∀ {a b : SD} {k : Int}, SE a b → k ∈ a.map (·.1) → k ∈ b.map (·.1) := fun {a b k} h m => by
    obtain ⟨e, me, rfl⟩ := List.mem_map.mp m
    have g := gA_mem h.ka me
    rw [h.eq] at g
    exact List.mem_map.mpr ⟨_, gA_some g, rfl⟩
  exact (List.perm_ext_iff_of_nodup h.ka h.kb).mpr fun e => ⟨key h, key ⟨h.kb, h.ka, fun k => (h.eq k).symm⟩⟩
theorem SE.text {a b : SD} (h : SE a b) (m : MM) : stT m a = stT m b := by
  unfold stT
  have e1 : sorI (a.map (·.1)) = sorI (b.map (·.1)) := sorI_eq ((List.mergeSort_perm _ _).trans h.keys) (by
    have := List.pairwise_mergeSort (le := fun a b : Int => decide (a ≤ b)) (fun a b c h k => decide_eq_true (Int.le_trans (of_decide_eq_true h) (of_decide_eq_true k))) (fun a b => by
      rcases Int.le_total a b with h | h
      · rw [decide_eq_true h]; rfl
      · rw [decide_eq_true h, Bool.or_true]) (a.map (·.1))
    exact this.imp fun h => of_decide_eq_true h)
  have e2 : rowD a = rowD b := funext fun k => by unfold rowD; rw [h.seL, h.seA]
  rw [e1]
  unfold stD rowsE
  rw [e2]
def XE (p q : Str × MM × SD) : Prop := p.1 = q.1 ∧ ME p.2.1 q.2.1 ∧ SE p.2.2 q.2.2
theorem ME.ex {m n : MM} {a b : SD} (h : ME m n) (g : SE a b) (c k : Int) (z : Str) : XE (exR m a c k z) (exR n b c k z) := by
  unfold exR
  rw [g.seL, g.seA]
  split
  · exact ⟨rfl, h, g⟩
  split
  · exact ⟨rfl, h, g⟩
  have e := h.rt c z
  cases h1 : rtR m c z with
  | inl z1 =>
    cases h2 : rtR n c z with
    | inl z2 => rw [h1, h2] at e; have e : z1 = z2 := e; rw [e]; exact ⟨rfl, h, g.put _ _⟩
    | inr p => rw [h1, h2] at e; cases e
  | inr p =>
    cases h2 : rtR n c z with
    | inl z2 => rw [h1, h2] at e; cases e
    | inr p' =>
      rw [h1, h2] at e
      obtain ⟨z1, m'⟩ := p
      obtain ⟨z2, n'⟩ := p'
      obtain ⟨e1, e2⟩ := e
      have e1 : z1 = z2 := e1
      subst e1
      exact ⟨rfl, e2, g.put _ _⟩

/-! ### what the statements of one letter read and change -/
def own (l : Nat) (z : Str) : Prop := z.cps.toList.head? = some l
def LcD {α : Type} (l : Nat) (a b : List (Str × α)) : Prop := ∀ k, own l k → gA a k = gA b k
def FrD {α : Type} (l : Nat) (a b : List (Str × α)) : Prop := ∀ k, ¬ own l k → gA b k = gA a k
section
variable {α : Type} {l : Nat} {a b c : List (Str × α)}
theorem LcD.put (h : LcD l a b) (ha : kOk a) (hb : kOk b) (k : Str) (x : α) : LcD l (pA a k x) (pA b k x) := fun d o => by rw [gA_put ha, gA_put hb, h d o]
theorem LcD.rm (h : LcD l a b) (k : Str) : LcD l (rmA a k) (rmA b k) := fun d o => by rw [gA_rmA, gA_rmA, h d o]
theorem FrD.refl : FrD l a a := fun _ _ => rfl
theorem FrD.trans (h : FrD l a b) (g : FrD l b c) : FrD l a c := fun k o => (g k o).trans (h k o)
theorem FrD.put (ha : kOk a) {k : Str} (o : own l k) (x : α) : FrD l a (pA a k x) := fun d n => by
  rw [gA_put ha, if_neg (fun z => n (by rw [z]; exact o))]
theorem FrD.rm {k : Str} (o : own l k) : FrD l a (rmA a k) := fun d n => by
  rw [gA_rmA, if_neg (fun z => n (by rw [z]; exact o))]
end
theorem addB_gA {ac : AB} (h : kOk ac) (n : Str) (d : Int) (k : Str) : gA (addB ac n d) k = if k = n then (gA ac n).map fun x => (x.1, x.2 + d) else gA ac k := by
  unfold addB
  cases g : gA ac n with
  | none =>
    dsimp only
    by_cases e : k = n
    · rw [if_pos e, e, g]; rfl
    · rw [if_neg e]
  | some x =>
    dsimp only
    rw [gA_put h]
    rfl
theorem LcD.addB {l : Nat} {a b : AB} (h : LcD l a b) (ha : kOk a) (hb : kOk b) {n : Str} (o : own l n) (d : Int) : LcD l (addB a n d) (addB b n d) := fun k ok => by
  rw [addB_gA ha, addB_gA hb, h k ok, h n o]
theorem FrD.addB {l : Nat} {a : AB} (ha : kOk a) {n : Str} (o : own l n) (d : Int) : FrD l a (addB a n d) := fun k nk => by
  rw [addB_gA ha, if_neg (fun z => nk (by rw [z]; exact o))]
/-- the holds are of one letter each -/
def HI (ho : HS) : Prop := ∀ e ∈ ho, e.2.1.cps.toList.head? = e.1.cps.toList.head? ∧ e.2.2.1.cps.toList.head? = e.1.cps.toList.head?
structure LcA (l : Nat) (s t : AS) : Prop where
  ac : LcD l s.ac t.ac
  ho : LcD l s.ho t.ho
structure FrA (l : Nat) (s t : AS) : Prop where
  ac : FrD l s.ac t.ac
  ho : FrD l s.ho t.ho
structure OkA (s : AS) : Prop where
  ok : kOk s.ac
  okh : kOk s.ho
  hi : HI s.ho
  la : s.ac.length < 100
  lh : s.ho.length < 100
/-- what an operation gives upon two such states -/
def LR (l : Nat) (s t : AS) : AS → AS → Prop := fun s' t' => LcA l s' t' ∧ FrA l s s' ∧ FrA l t t' ∧ s'.su + t.su = t'.su + s.su
theorem LcA.chk {l : Nat} {s t : AS} (h : LcA l s t) {n : Str} (o : own l n) : chk s n = chk t n := by unfold Law.chk; rw [h.ac n o]
theorem LcA.chkO {l : Nat} {s t : AS} (h : LcA l s t) (c : Int) {n : Str} (o : own l n) : chkO s c n = chkO t c n := by unfold Law.chkO; rw [h.ac n o]
theorem LcA.chkF {l : Nat} {s t : AS} (h : LcA l s t) {n : Str} (o : own l n) (a : Int) : chkF s n a = chkF t n a := by unfold Law.chkF; rw [h.ac n o]
theorem LcA.chkP {l : Nat} {s t : AS} (h : LcA l s t) (c : Int) {x y : Str} (ox : own l x) (oy : own l y) (a : Int) : chkP s c x y a = chkP t c x y a := by unfold Law.chkP; rw [h.chk oy, h.chkO c ox, h.chkF ox]
theorem held_one {l : Nat} {s t : AS} (h : LcA l s t) (hs : OkA s) {n : Str} (o : own l n) {e : Str × (Str × Str × Int)} (m : e ∈ s.ho) (p : (decide (e.2.1 = n) || decide (e.2.2.1 = n)) = true) : e ∈ t.ho := by
  obtain ⟨h1, h2⟩ := hs.hi e m
  have oe : own l e.1 := by
    rw [Bool.or_eq_true] at p
    unfold own at o ⊢
    rcases p with p | p
    · rw [← h1, of_decide_eq_true p]; exact o
    · rw [← h2, of_decide_eq_true p]; exact o
  have g := gA_mem hs.okh m
  rw [h.ho _ oe] at g
  exact gA_some g
theorem LcA.symm {l : Nat} {s t : AS} (h : LcA l s t) : LcA l t s := ⟨fun k o => (h.ac k o).symm, fun k o => (h.ho k o).symm⟩
theorem LcA.held {l : Nat} {s t : AS} (h : LcA l s t) (hs : OkA s) (ht : OkA t) {n : Str} (o : own l n) : heldB s.ho n = heldB t.ho n := by
  unfold heldB
  rw [Bool.eq_iff_iff, List.any_eq_true, List.any_eq_true]
  exact ⟨fun ⟨e, m, p⟩ => ⟨e, held_one h hs o m p, p⟩, fun ⟨e, m, p⟩ => ⟨e, held_one h.symm ht o m p, p⟩⟩
theorem FrA.refl {l : Nat} {s : AS} : FrA l s s := ⟨FrD.refl, FrD.refl⟩
section
variable {l : Nat} {s t : AS} (h : LcA l s t) (hs : OkA s) (ht : OkA t)
include h hs ht
theorem loc_create (c : Int) {n : Str} (o : own l n) : RE (LR l s t) (opCreate s c n) (opCreate t c n) := by
  unfold opCreate
  rw [h.ac n o]
  split
  · rfl
  · rw [if_neg (by have := hs.la; omega), if_neg (by have := ht.la; omega)]
    exact ⟨⟨h.ac.put hs.ok ht.ok _ _, h.ho⟩, ⟨FrD.put hs.ok o _, FrD.refl⟩, ⟨FrD.put ht.ok o _, FrD.refl⟩, Int.add_comm _ _⟩
theorem loc_close (c : Int) {n : Str} (o : own l n) : RE (LR l s t) (opClose s c n) (opClose t c n) := by
  unfold opClose
  rw [h.chkO c o, h.ac n o, h.held hs ht o]
  split
  · rfl
  · split
    · rfl
    · split
      · rfl
      · exact ⟨⟨h.ac.rm _, h.ho⟩, ⟨FrD.rm o, FrD.refl⟩, ⟨FrD.rm o, FrD.refl⟩, Int.add_comm _ _⟩
theorem loc_burn (c : Int) {n : Str} (o : own l n) (a : Int) : RE (LR l s t) (opBurn s c n a) (opBurn t c n a) := by
  unfold opBurn
  rw [h.chkO c o, h.chkF o]
  split
  · rfl
  · split
    · rfl
    · exact ⟨⟨h.ac.addB hs.ok ht.ok o _, h.ho⟩, ⟨FrD.addB hs.ok o _, FrD.refl⟩, ⟨FrD.addB ht.ok o _, FrD.refl⟩, by show s.su - a + t.su = t.su - a + s.su; omega⟩
theorem loc_pay (c : Int) {x y : Str} (ox : own l x) (oy : own l y) (a : Int) : RE (LR l s t) (opPay s c x y a) (opPay t c x y a) := by
  unfold opPay
  rw [h.chkP c ox oy]
  split
  · rfl
  · have k1 := addB_ok x (-a) hs.ok
    have k2 := addB_ok x (-a) ht.ok
    exact ⟨⟨(h.ac.addB hs.ok ht.ok ox _).addB k1 k2 oy _, h.ho⟩, ⟨(FrD.addB hs.ok ox _).trans (FrD.addB k1 oy _), FrD.refl⟩, ⟨(FrD.addB ht.ok ox _).trans (FrD.addB k2 oy _), FrD.refl⟩, Int.add_comm _ _⟩
theorem loc_hold (c : Int) {x y k : Str} (ox : own l x) (oy : own l y) (ok : own l k) (a : Int) : RE (LR l s t) (opHold s c x y a k) (opHold t c x y a k) := by
  unfold opHold
  rw [h.chkP c ox oy, h.ho k ok]
  split
  · rfl
  · split
    · rfl
    · rw [if_neg (by have := hs.lh; omega), if_neg (by have := ht.lh; omega)]
      exact ⟨⟨h.ac.addB hs.ok ht.ok ox _, h.ho.put hs.okh ht.okh _ _⟩, ⟨FrD.addB hs.ok ox _, FrD.put hs.okh ok _⟩, ⟨FrD.addB ht.ok ox _, FrD.put ht.okh ok _⟩, Int.add_comm _ _⟩
theorem own_hold {k : Str} (o : own l k) {x : Str × Str × Int} (g : gA t.ho k = some x) : own l x.1 ∧ own l x.2.1 := by
  obtain ⟨h1, h2⟩ := ht.hi _ (gA_some g)
  unfold own at o ⊢
  exact ⟨h1.trans o, h2.trans o⟩
theorem loc_settle (c : Int) {k : Str} (o : own l k) : RE (LR l s t) (opSettle s c k) (opSettle t c k) := by
  unfold opSettle
  rw [h.ho k o]
  cases g : gA t.ho k with
  | none => rfl
  | some x =>
    obtain ⟨o1, o2⟩ := own_hold h hs ht o g
    dsimp only
    rw [h.chkO c o1]
    split
    · rfl
    · exact ⟨⟨h.ac.addB hs.ok ht.ok o2 _, h.ho.rm _⟩, ⟨FrD.addB hs.ok o2 _, FrD.rm o⟩, ⟨FrD.addB ht.ok o2 _, FrD.rm o⟩, Int.add_comm _ _⟩
theorem loc_release (c : Int) {k : Str} (o : own l k) : RE (LR l s t) (opRelease s c k) (opRelease t c k) := by
  unfold opRelease
  rw [h.ho k o]
  cases g : gA t.ho k with
  | none => rfl
  | some x =>
    obtain ⟨o1, o2⟩ := own_hold h hs ht o g
    dsimp only
    rw [h.chkO c o2]
    split
    · rfl
    · exact ⟨⟨h.ac.addB hs.ok ht.ok o1 _, h.ho.rm _⟩, ⟨FrD.addB hs.ok o1 _, FrD.rm o⟩, ⟨FrD.addB ht.ok o1 _, FrD.rm o⟩, Int.add_comm _ _⟩
end
/-! ### statements of one letter -/
def Own (l : Nat) : Stm → Prop
  | .opn n | .cls n | .bal n => own l n
  | .brn n _ | .atl n _ => own l n
  | .pay x y _ => own l x ∧ own l y
  | .hld x y _ k => own l x ∧ own l y ∧ own l k
  | .stl k | .rel k | .get k | .drp k => own l k
  | .put k _ | .sam k _ => own l k
  | .swp k _ _ => own l k
  | .iss .. | .kys .. => False
structure LcM (l : Nat) (m n : MM) : Prop where
  a : LcA l m.1 n.1
  s : LcD l m.2 n.2
structure FrM (l : Nat) (m n : MM) : Prop where
  a : FrA l m.1 n.1
  s : FrD l m.2 n.2
structure OkM (m : MM) : Prop where
  a : OkA m.1
  ok : kOk m.2
  ls : m.2.length < 200
theorem FrM.refl {l : Nat} {m : MM} : FrM l m m := ⟨FrA.refl, FrD.refl⟩
theorem FrM.trans {l : Nat} {m n o : MM} (h : FrM l m n) (g : FrM l n o) : FrM l m o := ⟨⟨h.a.ac.trans g.a.ac, h.a.ho.trans g.a.ho⟩, h.s.trans g.s⟩
def LM (l : Nat) (m n : MM) : Str × MM → Str × MM → Prop := fun p q => p.1 = q.1 ∧ LcM l p.2 q.2 ∧ FrM l m p.2 ∧ FrM l n q.2 ∧ p.2.1.su + n.1.su = q.2.1.su + m.1.su
section
variable {l : Nat} {m n : MM} (h : LcM l m n)
include h
theorem loc_outA {r r' : Sum Str AS} (e : RE (LR l m.1 n.1) r r') : RE (LM l m n) (outA r m) (outA r' n) := by
  cases r <;> cases r' <;> first | exact e | exact ⟨rfl, ⟨e.1, h.s⟩, ⟨e.2.1, FrD.refl⟩, ⟨e.2.2.1, FrD.refl⟩, e.2.2.2⟩ | cases e
theorem loc_outS {r r' : Sum Str ST} (e : RE (fun s t => LcD l s t ∧ FrD l m.2 s ∧ FrD l n.2 t) r r') : RE (LM l m n) (outS r m) (outS r' n) := by
  cases r <;> cases r' <;> first | exact e | exact ⟨rfl, ⟨h.a, e.1⟩, ⟨FrA.refl, e.2.1⟩, ⟨FrA.refl, e.2.2⟩, Int.add_comm _ _⟩ | cases e
theorem loc_none {z : Str} : RE (α := Str) (LM l m n) (.inr (z, m)) (.inr (z, n)) := ⟨rfl, h, FrM.refl, FrM.refl, Int.add_comm _ _⟩
theorem loc_need (b : Bool) : RE (LM l m n) (need b m) (need b n) := by
  cases b
  · rfl
  · exact loc_none h
theorem loc_stm (hm : OkM m) (hn : OkM n) (c : Int) {s : Stm} (o : Own l s) : RE (LM l m n) (stmR m c s) (stmR n c s) := by
  cases s with
  | opn x => exact loc_outA h (loc_create h.a hm.a hn.a c o)
  | cls x => exact loc_outA h (loc_close h.a hm.a hn.a c o)
  | iss x a => exact o.elim
  | brn x a => exact loc_outA h (loc_burn h.a hm.a hn.a c o a)
  | pay x y a => exact loc_outA h (loc_pay h.a hm.a hn.a c o.1 o.2 a)
  | hld x y a k => exact loc_outA h (loc_hold h.a hm.a hn.a c o.1 o.2.1 o.2.2 a)
  | stl k => exact loc_outA h (loc_settle h.a hm.a hn.a c o)
  | rel k => exact loc_outA h (loc_release h.a hm.a hn.a c o)
  | put k v =>
    have o : own l k := o
    refine loc_outS h ?_
    unfold stPut
    rw [h.s k o]
    split
    · split
      · rfl
      · exact ⟨h.s.put hm.ok hn.ok _ _, FrD.put hm.ok o _, FrD.put hn.ok o _⟩
    · rw [if_neg (by have := hm.ls; omega), if_neg (by have := hn.ls; omega)]
      exact ⟨h.s.put hm.ok hn.ok _ _, FrD.put hm.ok o _, FrD.put hn.ok o _⟩
  | drp k =>
    have o : own l k := o
    refine loc_outS h ?_
    unfold stDrop
    rw [h.s k o]
    split
    · split
      · rfl
      · exact ⟨h.s.rm _, FrD.rm o, FrD.rm o⟩
    · rfl
  | swp k u v =>
    have o : own l k := o
    refine loc_outS h ?_
    unfold stSwap
    rw [h.s k o]
    split
    · split
      · rfl
      · exact ⟨h.s.put hm.ok hn.ok _ _, FrD.put hm.ok o _, FrD.put hn.ok o _⟩
    · rfl
  | bal x =>
    have o : own l x := o
    show RE (LM l m n) (match gA m.1.ac x with | none => .inl "missing" | some x => .inr (Str.ofString (toString x.2), m) : Sum Str (Str × MM)) (match gA n.1.ac x with | none => .inl "missing" | some x => .inr (Str.ofString (toString x.2), n) : Sum Str (Str × MM))
    rw [h.a.ac x o]
    split
    · rfl
    · exact loc_none h
  | atl x a =>
    have o : own l x := o
    show RE (LM l m n) (match gA m.1.ac x with | none => .inl "missing" | some x => Law.need (decide ((a : Int) ≤ x.2)) m : Sum Str (Str × MM)) (match gA n.1.ac x with | none => .inl "missing" | some x => Law.need (decide ((a : Int) ≤ x.2)) n : Sum Str (Str × MM))
    rw [h.a.ac x o]
    split
    · rfl
    · exact loc_need h _
  | get k =>
    have o : own l k := o
    show RE (LM l m n) (match stRead m.2 k with | .inl z => .inl z | .inr v => .inr (v, m)) (match stRead n.2 k with | .inl z => .inl z | .inr v => .inr (v, n))
    unfold stRead
    rw [h.s k o]
    cases gA n.2 k with
    | none => rfl
    | some x => exact loc_none h
  | sam k v =>
    have o : own l k := o
    show RE (LM l m n) (match stRead m.2 k with | .inl z => .inl z | .inr w => Law.need (decide (w = v)) m) (match stRead n.2 k with | .inl z => .inl z | .inr w => Law.need (decide (w = v)) n)
    unfold stRead
    rw [h.s k o]
    cases gA n.2 k with
    | none => rfl
    | some x => exact loc_need h _
  | kys z => exact o.elim
end

/-! ### how far a statement lets the dicts grow -/
def HoS : Stm → Prop
  | .hld x y _ k => x.cps.toList.head? = k.cps.toList.head? ∧ y.cps.toList.head? = k.cps.toList.head?
  | _ => True
theorem Own.hs {l : Nat} {s : Stm} (o : Own l s) : HoS s := by
  cases s with
  | hld x y a k => exact ⟨o.1.trans o.2.2.symm, o.2.1.trans o.2.2.symm⟩
  | _ => trivial
theorem addB_ln (ac : AB) (n : Str) (d : Int) : (addB ac n d).length = ac.length := by
  unfold addB
  cases g : gA ac n with
  | none => rfl
  | some x => exact pA_len_in (by rw [g]; intro z; cases z)
structure Grow (m m' : MM) : Prop where
  hi : HI m.1.ho → HI m'.1.ho
  a : m'.1.ac.length ≤ m.1.ac.length + 1
  h : m'.1.ho.length ≤ m.1.ho.length + 1
  s : m'.2.length ≤ m.2.length + 1
structure GrowA (s s' : AS) : Prop where
  hi : HI s.ho → HI s'.ho
  a : s'.ac.length ≤ s.ac.length + 1
  h : s'.ho.length ≤ s.ho.length + 1
theorem grow_outA {r : Sum Str AS} {m m' : MM} {z : Str} (e : outA r m = .inr (z, m')) (h : ∀ s', r = .inr s' → GrowA m.1 s') : Grow m m' := by
  obtain ⟨s', e0, _, e2⟩ := outA_inr e
  have g := h s' e0
  rw [e2]
  exact ⟨g.hi, g.a, g.h, Nat.le_succ _⟩
theorem grow_outS {r : Sum Str ST} {m m' : MM} {z : Str} (e : outS r m = .inr (z, m')) (h : ∀ s', r = .inr s' → s'.length ≤ m.2.length + 1) : Grow m m' := by
  obtain ⟨s', e0, _, e2⟩ := outS_inr e
  have g := h s' e0
  rw [e2]
  exact ⟨id, Nat.le_succ _, Nat.le_succ _, g⟩
theorem Grow.refl {m : MM} : Grow m m := ⟨id, Nat.le_succ _, Nat.le_succ _, Nat.le_succ _⟩
theorem hi_rm {ho : List (Str × (Str × Str × Int))} (h : HI ho) (k : Str) : HI (rmA ho k) := fun e m => h e (List.mem_filter.mp m).1
theorem grow_stm {m m' : MM} {c : Int} {s : Stm} {z : Str} (hs : HoS s) (e : stmR m c s = .inr (z, m')) : Grow m m' := by
  cases s with
  | opn n =>
    refine grow_outA e fun s' e => ?_
    unfold opCreate at e
    split at e
    · cases e
    · split at e
      · cases e
      · cases e; exact ⟨id, pA_len _ _ _, Nat.le_succ _⟩
  | cls n =>
    refine grow_outA e fun s' e => ?_
    unfold opClose at e
    split at e
    · cases e
    · split at e
      · cases e
      · split at e
        · cases e
        · cases e; exact ⟨id, Nat.le_trans (rmA_len _ _) (Nat.le_succ _), Nat.le_succ _⟩
  | iss n a =>
    refine grow_outA e fun s' e => ?_
    unfold opIssue at e
    split at e
    · cases e
    · split at e
      · cases e
      · split at e
        · cases e
        · cases e; exact ⟨id, Nat.le_trans (Nat.le_of_eq (addB_ln _ _ _)) (Nat.le_succ _), Nat.le_succ _⟩
  | brn n a =>
    refine grow_outA e fun s' e => ?_
    unfold opBurn at e
    split at e
    · cases e
    · split at e
      · cases e
      · cases e; exact ⟨id, Nat.le_trans (Nat.le_of_eq (addB_ln _ _ _)) (Nat.le_succ _), Nat.le_succ _⟩
  | pay x y a =>
    refine grow_outA e fun s' e => ?_
    unfold opPay at e
    split at e
    · cases e
    · cases e; exact ⟨id, Nat.le_trans (Nat.le_of_eq ((addB_ln _ _ _).trans (addB_ln _ _ _))) (Nat.le_succ _), Nat.le_succ _⟩
  | hld x y a k =>
    refine grow_outA e fun s' e => ?_
    unfold opHold at e
    split at e
    · cases e
    · split at e
      · cases e
      · split at e
        · cases e
        · cases e
          refine ⟨fun h u mu => ?_, Nat.le_trans (Nat.le_of_eq (addB_ln _ _ _)) (Nat.le_succ _), pA_len _ _ _⟩
          rcases pA_mem mu with rfl | ⟨mu, _⟩
          · exact hs
          · exact h u mu
  | stl k =>
    refine grow_outA e fun s' e => ?_
    unfold opSettle at e
    split at e
    · cases e
    · split at e
      · cases e
      · cases e; exact ⟨fun h => hi_rm h _, Nat.le_trans (Nat.le_of_eq (addB_ln _ _ _)) (Nat.le_succ _), Nat.le_trans (rmA_len _ _) (Nat.le_succ _)⟩
  | rel k =>
    refine grow_outA e fun s' e => ?_
    unfold opRelease at e
    split at e
    · cases e
    · split at e
      · cases e
      · cases e; exact ⟨fun h => hi_rm h _, Nat.le_trans (Nat.le_of_eq (addB_ln _ _ _)) (Nat.le_succ _), Nat.le_trans (rmA_len _ _) (Nat.le_succ _)⟩
  | put k v =>
    refine grow_outS e fun s' e => ?_
    unfold stPut at e
    split at e <;> split at e <;> cases e <;> exact pA_len _ _ _
  | drp k =>
    refine grow_outS e fun s' e => ?_
    unfold stDrop at e
    split at e
    · split at e <;> cases e; exact Nat.le_trans (rmA_len _ _) (Nat.le_succ _)
    · cases e
  | swp k o v =>
    refine grow_outS e fun s' e => ?_
    unfold stSwap at e
    split at e
    · split at e <;> cases e; exact pA_len _ _ _
    · cases e
  | bal n =>
    have e : (match gA m.1.ac n with | none => .inl "missing" | some x => .inr (Str.ofString (toString x.2), m)) = (Sum.inr (z, m') : Sum Str (Str × MM)) := e
    split at e <;> cases e; exact Grow.refl
  | atl n a =>
    have e : (match gA m.1.ac n with | none => .inl "missing" | some x => need (decide ((a : Int) ≤ x.2)) m) = (Sum.inr (z, m') : Sum Str (Str × MM)) := e
    split at e
    · cases e
    · rw [(need_inr e).2]; exact Grow.refl
  | get k =>
    have e : (match stRead m.2 k with | .inl z => .inl z | .inr v => .inr (v, m)) = (Sum.inr (z, m') : Sum Str (Str × MM)) := e
    split at e <;> cases e; exact Grow.refl
  | sam k v =>
    have e : (match stRead m.2 k with | .inl z => .inl z | .inr w => need (decide (w = v)) m) = (Sum.inr (z, m') : Sum Str (Str × MM)) := e
    split at e
    · cases e
    · rw [(need_inr e).2]; exact Grow.refl
  | kys k =>
    have e : (Sum.inr (keysT ((sortK m.2).filter fun z => Txt.startswith z k), m) : Sum Str (Str × MM)) = Sum.inr (z, m') := e
    cases e
    exact Grow.refl
/-- so many statements more still fit -/
structure Cap (m : MM) (k : Nat) : Prop where
  hi : HI m.1.ho
  a : m.1.ac.length + k ≤ 100
  h : m.1.ho.length + k ≤ 100
  s : m.2.length + k ≤ 200
theorem Cap.step {m m' : MM} {k : Nat} (h : Cap m (k + 1)) (g : Grow m m') : Cap m' k := by
  obtain ⟨h1, h2, h3, h4⟩ := h
  obtain ⟨g1, g2, g3, g4⟩ := g
  exact ⟨g1 h1, by omega, by omega, by omega⟩
theorem Cap.mono {m : MM} {k j : Nat} (h : Cap m k) (l : j ≤ k) : Cap m j := by
  obtain ⟨h1, h2, h3, h4⟩ := h
  exact ⟨h1, by omega, by omega, by omega⟩
theorem Cap.okM {m : MM} {k : Nat} (h : Cap m (k + 1)) (ok : MOk m) : OkM m := by
  obtain ⟨h1, h2, h3, h4⟩ := h
  exact ⟨⟨ok.ac.ok, ok.ac.okh, h1, by omega, by omega⟩, ok.st.1, by omega⟩
theorem go_mok {c : Int} (hc : c.natAbs ≤ 100) : ∀ {ss : List Stm} {i : Nat} {ans : Str} {m : MM} {a : Str} {m' : MM}, MOk m → (∀ s ∈ ss, StmOk s) → goR c i ans m ss = .inr (a, m') → MOk m'
  | [], _, _, _, _, _, h, _, e => by rw [goR] at e; cases e; exact h
  | s :: r, i, ans, m, a, m', ok, hs, e => by
    rw [goR] at e
    cases hr : stmR m c s with
    | inl z => rw [hr] at e; cases e
    | inr p =>
      obtain ⟨res, m1⟩ := p
      rw [hr] at e
      dsimp only at e
      obtain ⟨ok1, _⟩ := stmR_ok ok (hs s List.mem_cons_self) hc hr
      by_cases h2 : 200 < (if 0 < i then (Str.empty ++ ans) ++ ";" ++ res else res).length
      · rw [if_pos h2] at e; cases e
      · rw [if_neg h2] at e
        exact go_mok hc ok1 (fun x mx => hs x (List.mem_cons_of_mem _ mx)) e
theorem go_cap {c : Int} : ∀ {ss : List Stm} {i : Nat} {ans : Str} {m : MM} {a : Str} {m' : MM} {k : Nat}, Cap m (k + ss.length) → (∀ s ∈ ss, HoS s) → goR c i ans m ss = .inr (a, m') → Cap m' k
  | [], _, _, _, _, _, _, h, _, e => by rw [goR] at e; cases e; exact h
  | s :: r, i, ans, m, a, m', k, h, hs, e => by
    rw [goR] at e
    cases hr : stmR m c s with
    | inl z => rw [hr] at e; cases e
    | inr p =>
      obtain ⟨res, m1⟩ := p
      rw [hr] at e
      dsimp only at e
      have h1 : Cap m1 (k + r.length) := Cap.step (by rw [List.length_cons] at h; exact h) (grow_stm (hs s List.mem_cons_self) hr)
      by_cases h2 : 200 < (if 0 < i then (Str.empty ++ ans) ++ ";" ++ res else res).length
      · rw [if_pos h2] at e; cases e
      · rw [if_neg h2] at e
        exact go_cap h1 (fun x mx => hs x (List.mem_cons_of_mem _ mx)) e
theorem go_loc {l : Nat} {c : Int} (hc : c.natAbs ≤ 100) : ∀ {ss : List Stm} {i : Nat} {ans : Str} {m n : MM}, LcM l m n → MOk m → MOk n → Cap m ss.length → Cap n ss.length → (∀ s ∈ ss, StmOk s ∧ Own l s) → RE (LM l m n) (goR c i ans m ss) (goR c i ans n ss)
  | [], _, _, _, _, h, _, _, _, _, _ => by rw [goR, goR]; exact loc_none h
  | s :: r, i, ans, m, n, h, okm, okn, cm, cn, hs => by
    obtain ⟨so, ow⟩ := hs s List.mem_cons_self
    have e := loc_stm h (cm.okM okm) (cn.okM okn) c ow
    rw [goR, goR]
    cases h1 : stmR m c s with
    | inl z =>
      cases h2 : stmR n c s with
      | inl z' => rw [h1, h2] at e; have e : z = z' := e; rw [e]; rfl
      | inr p => rw [h1, h2] at e; cases e
    | inr p =>
      cases h2 : stmR n c s with
      | inl z' => rw [h1, h2] at e; cases e
      | inr p' =>
        rw [h1, h2] at e
        obtain ⟨z, m'⟩ := p
        obtain ⟨z', n'⟩ := p'
        obtain ⟨e1, e2, e3, e4, e5⟩ := e
        have e1 : z = z' := e1
        subst e1
        dsimp only
        by_cases hl : 200 < (if 0 < i then (Str.empty ++ ans) ++ ";" ++ z else z).length
        · rw [if_pos hl, if_pos hl]; rfl
        · rw [if_neg hl, if_neg hl]
          have q := go_loc hc (ss := r) (i := i + 1) (ans := if 0 < i then (Str.empty ++ ans) ++ ";" ++ z else z) (show LcM l m' n' from e2) (stmR_ok okm so hc h1).1 (stmR_ok okn so hc h2).1 (cm.step (grow_stm (Own.hs ow) h1)) (cn.step (grow_stm (Own.hs ow) h2)) (fun x mx => hs x (List.mem_cons_of_mem _ mx))
          generalize goR c (i + 1) (if 0 < i then (Str.empty ++ ans) ++ ";" ++ z else z) m' r = r1 at q ⊢
          generalize goR c (i + 1) (if 0 < i then (Str.empty ++ ans) ++ ";" ++ z else z) n' r = r2 at q ⊢
          have e5 : m'.1.su + n.1.su = n'.1.su + m.1.su := e5
          cases r1 with
          | inl a =>
            cases r2 with
            | inl b => exact q
            | inr b => cases q
          | inr a =>
            cases r2 with
            | inl b => cases q
            | inr b =>
              obtain ⟨q1, q2, q3, q4, q5⟩ := q
              exact ⟨q1, q2, FrM.trans e3 q3, FrM.trans e4 q4, by omega⟩
/-! ### a text of one letter's statements -/
def OwnT (l : Nat) (k : Nat) (z : Str) : Prop := ∀ rs, pcAll z.cps.toList = .inr rs → (ssOf rs).length ≤ k ∧ ∀ s ∈ ssOf rs, Own l s
theorem rt_mok {c : Int} (hc : c.natAbs ≤ 100) {m : MM} {z : Str} (ok : MOk m) : MOk (mR m (rtR m c z)) := by
  unfold rtR
  cases e : pcAll z.cps.toList with
  | inl q => exact ok
  | inr rs =>
    obtain ⟨_, f2⟩ := ssOf_eq (pcAll_stm e)
    show MOk (mR m (runR m c (ssOf rs)))
    cases e2 : runR m c (ssOf rs) with
    | inl a => exact ok
    | inr p => obtain ⟨a, m'⟩ := p; exact go_mok hc ok f2 e2
theorem rt_cap {c : Int} {m : MM} {z : Str} {k j : Nat} (h : Cap m (k + j)) (o : ∀ rs, pcAll z.cps.toList = .inr rs → (ssOf rs).length ≤ j ∧ ∀ s ∈ ssOf rs, HoS s) : Cap (mR m (rtR m c z)) k := by
  unfold rtR
  cases e : pcAll z.cps.toList with
  | inl q => exact h.mono (Nat.le_add_right _ _)
  | inr rs =>
    obtain ⟨o1, o2⟩ := o rs e
    show Cap (mR m (runR m c (ssOf rs))) k
    cases e2 : runR m c (ssOf rs) with
    | inl a => exact h.mono (Nat.le_add_right _ _)
    | inr p => obtain ⟨a, m'⟩ := p; exact go_cap (h.mono (Nat.add_le_add_left o1 k)) o2 e2
structure MLR (l : Nat) (m n : MM) (r r' : Sum Str (Str × MM)) : Prop where
  tx : txR r = txR r'
  lc : LcM l (mR m r) (mR n r')
  fm : FrM l m (mR m r)
  fn : FrM l n (mR n r')
  su : (mR m r).1.su + n.1.su = (mR n r').1.su + m.1.su
theorem rt_loc {l k : Nat} {c : Int} (hc : c.natAbs ≤ 100) {m n : MM} {z : Str} (h : LcM l m n) (okm : MOk m) (okn : MOk n) (cm : Cap m k) (cn : Cap n k) (o : OwnT l k z) : MLR l m n (rtR m c z) (rtR n c z) := by
  unfold rtR
  cases e : pcAll z.cps.toList with
  | inl q => exact ⟨rfl, h, FrM.refl, FrM.refl, Int.add_comm _ _⟩
  | inr rs =>
    obtain ⟨_, f2⟩ := ssOf_eq (pcAll_stm e)
    obtain ⟨o1, o2⟩ := o rs e
    show MLR l m n (runR m c (ssOf rs)) (runR n c (ssOf rs))
    have q : RE (LM l m n) (runR m c (ssOf rs)) (runR n c (ssOf rs)) := go_loc hc h okm okn (cm.mono o1) (cn.mono o1) fun s ms => ⟨f2 s ms, o2 s ms⟩
    generalize runR m c (ssOf rs) = r1 at q ⊢
    generalize runR n c (ssOf rs) = r2 at q ⊢
    cases r1 with
    | inl a =>
      cases r2 with
      | inl b => have q : a = b := q; rw [q]; exact ⟨rfl, h, FrM.refl, FrM.refl, Int.add_comm _ _⟩
      | inr b => cases q
    | inr a =>
      cases r2 with
      | inl b => cases q
      | inr b =>
        obtain ⟨a, m'⟩ := a
        obtain ⟨b, n'⟩ := b
        obtain ⟨q1, q2, q3, q4, q5⟩ := q
        exact ⟨q1, q2, q3, q4, q5⟩
theorem fr_lc {l j : Nat} (hj : j ≠ l) {m n : MM} (h : FrM l m n) : LcM j m n := by
  have no : ∀ {k : Str}, own j k → ¬ own l k := fun o p => by
    unfold own at o p
    rw [o] at p
    exact hj (Option.some.inj p)
  exact ⟨⟨fun k o => (h.a.ac k (no o)).symm, fun k o => (h.a.ho k (no o)).symm⟩, fun k o => (h.s k (no o)).symm⟩
/-- what two strangers do, in one order and in the other -/
theorem strangers {m : MM} {c d : Int} {y z : Str} {i j k : Nat} (hij : i ≠ j) (hc : c.natAbs ≤ 100) (hd : d.natAbs ≤ 100) (ok : MOk m) (cap : Cap m (k + k)) (oy : OwnT i k y) (oz : OwnT j k z) :
    txR (rtR (mR m (rtR m c y)) d z) = txR (rtR m d z) ∧ txR (rtR (mR m (rtR m d z)) c y) = txR (rtR m c y) ∧
    ME (mR (mR m (rtR m c y)) (rtR (mR m (rtR m c y)) d z)) (mR (mR m (rtR m d z)) (rtR (mR m (rtR m d z)) c y)) := by
  have ok1 : MOk (mR m (rtR m c y)) := rt_mok hc ok
  have ok2 : MOk (mR m (rtR m d z)) := rt_mok hd ok
  have cp1 : Cap (mR m (rtR m c y)) k := rt_cap cap fun rs e => ⟨(oy rs e).1, fun s ms => Own.hs ((oy rs e).2 s ms)⟩
  have cp2 : Cap (mR m (rtR m d z)) k := rt_cap cap fun rs e => ⟨(oz rs e).1, fun s ms => Own.hs ((oz rs e).2 s ms)⟩
  have cp0 : Cap m k := cap.mono (Nat.le_add_right _ _)
  have lr : ∀ {l : Nat} {n : MM}, LcM l n n := ⟨⟨fun _ _ => rfl, fun _ _ => rfl⟩, fun _ _ => rfl⟩
  have a1 := (rt_loc hc (lr (l := i)) ok ok cp0 cp0 oy).fm
  have a2 := (rt_loc hd (lr (l := j)) ok ok cp0 cp0 oz).fm
  have b1 := rt_loc hd (fr_lc hij.symm a1) ok ok1 cp0 cp1 oz
  have b2 := rt_loc hc (fr_lc hij a2) ok ok2 cp0 cp2 oy
  have ok3 := rt_mok hd (z := z) ok1
  have ok4 := rt_mok hc (z := y) ok2
  refine ⟨b1.tx.symm, b2.tx.symm, ?_⟩
  have s1 := b1.su
  have s2 := b2.su
  have f1 := b1.fn
  have f2 := b2.fn
  have l1 := b1.lc
  have l2 := b2.lc
  generalize mR (mR m (rtR m c y)) (rtR (mR m (rtR m c y)) d z) = m12 at *
  generalize mR (mR m (rtR m d z)) (rtR (mR m (rtR m d z)) c y) = m21 at *
  generalize mR m (rtR m c y) = m1 at *
  generalize mR m (rtR m d z) = m2 at *
  have key : ∀ {α : Type} {d0 d1 d2 d12 d21 : List (Str × α)}, FrD i d0 d1 → FrD j d0 d2 → FrD j d1 d12 → FrD i d2 d21 → LcD j d2 d12 → LcD i d1 d21 → ∀ k, gA d12 k = gA d21 k := fun {α d0 d1 d2 d12 d21} f1 f2 f12 f21 l1 l2 k => by
    by_cases hi : own i k
    · have hj : ¬ own j k := fun o => by
        unfold own at hi o
        rw [hi] at o
        exact hij (Option.some.inj o)
      rw [f12 k hj, l2 k hi]
    · by_cases hj : own j k
      · rw [← l1 k hj, f21 k hi]
      · rw [f12 k hj, f21 k hi, f1 k hi, f2 k hj]
  refine ⟨⟨⟨ok3.ac.ok, ok4.ac.ok, key a1.a.ac a2.a.ac f1.a.ac f2.a.ac l1.a.ac l2.a.ac⟩, ⟨ok3.ac.okh, ok4.ac.okh, key a1.a.ho a2.a.ho f1.a.ho f2.a.ho l1.a.ho l2.a.ho⟩, by omega⟩, ⟨ok3.st.1, ok4.st.1, key a1.s a2.s f1.s f2.s l1.s l2.s⟩⟩

/-! ### statements made one's own -/
def own1 (c : Nat) : Bool := decide (c = 110) || decide (c = 107)
def ownX (l : Str) (c : Nat) (x : V) : V := if own1 c = true then (match x with
  | .str z => .str (l ++ cutS z none (some 11))
  | y => y) else x
def ownA (l : Str) : List Nat → List V → List V
  | c :: cs, x :: xs => ownX l c x :: ownA l cs xs
  | _, _ => []
theorem ownA_len {l : Str} : ∀ {cs : List Nat} {xs : List V}, xs.length = cs.length → (ownA l cs xs).length = cs.length
  | [], [], _ => rfl
  | c :: cs, x :: xs, h => by
    rw [ownA, List.length_cons, List.length_cons, ownA_len (cs := cs) (xs := xs) (by simpa using h)]
theorem ownA_get {l : Str} : ∀ {cs : List Nat} {xs : List V} {i : Nat} {c : Nat} {x : V}, cs[i]? = some c → xs[i]? = some x → (ownA l cs xs)[i]? = some (ownX l c x)
  | _ :: _, _ :: _, 0, _, _, h, k => by
    rw [ownA]
    obtain rfl := Option.some.inj h
    obtain rfl := Option.some.inj k
    rfl
  | _ :: cs, _ :: xs, i + 1, _, _, h, k => by
    rw [ownA]
    exact ownA_get (cs := cs) (xs := xs) (i := i) h k
theorem own_app (a : Nat) (z : Str) : own a ((⟨#[a]⟩ : Str) ++ z) := by
  unfold own
  rw [app_tl]
  rfl
theorem ownX_own {a c : Nat} {x : V} {n : Str} (h : ownX ⟨#[a]⟩ c x = .str n) (o : own1 c = true) : own a n := by
  unfold ownX at h
  rw [if_pos o] at h
  split at h
  · rw [← V.str.inj h]; exact own_app a _
  · rename_i y hy
    exact absurd h (hy n)
theorem ownA_own {a : Nat} : ∀ {cs : List Nat} {xs : List V} {i c : Nat} {n : Str}, (ownA ⟨#[a]⟩ cs xs)[i]? = some (.str n) → cs[i]? = some c → own1 c = true → own a n
  | [], _, _, _, _, _, k, _ => by cases k
  | _ :: _, [], _, _, _, h, _, _ => by rw [ownA] at h; cases h; simp
  | _ :: _, _ :: _, 0, _, _, h, k, o => by
    rw [ownA] at h
    obtain rfl := Option.some.inj k
    exact ownX_own (Option.some.inj h) o
  | _ :: cs, _ :: xs, i + 1, _, _, h, k, o => by
    rw [ownA] at h
    exact ownA_own (cs := cs) (xs := xs) (i := i) h k o
theorem forms_kz : ∀ x ∈ formsT, ∀ y ∈ formsT, x.1 = y.1 → x.2 = y.2 := by decide +kernel
theorem own_stm {v kz : Str} {a : Nat} {args : List V} {s : Stm} (m : (v, kz) ∈ formsT) (hv : v ≠ "issue") (hk : v ≠ "keys") (e : stV s = .str v :: ownA ⟨#[a]⟩ kz.cps.toList args) : Own a s := by
  have kz_of : ∀ {w k : Str}, .str w = V.str v → (w, k) ∈ formsT → kz = k := fun {w k} e mk => by
    have := V.str.inj e
    exact forms_kz _ m _ mk this.symm
  cases s with
  | opn n => injection e with e1 e2; have := kz_of (k := "n") e1 (by decide +kernel); rw [this] at e2; exact ownA_own (i := 0) (by rw [← e2]; rfl) rfl rfl
  | cls n => injection e with e1 e2; have := kz_of (k := "n") e1 (by decide +kernel); rw [this] at e2; exact ownA_own (i := 0) (by rw [← e2]; rfl) rfl rfl
  | iss n b => injection e with e1 e2; exact absurd (V.str.inj e1).symm hv
  | brn n b => injection e with e1 e2; have := kz_of (k := "na") e1 (by decide +kernel); rw [this] at e2; exact ownA_own (i := 0) (by rw [← e2]; rfl) rfl rfl
  | pay x y b => injection e with e1 e2; have := kz_of (k := "nna") e1 (by decide +kernel); rw [this] at e2; exact ⟨ownA_own (i := 0) (by rw [← e2]; rfl) rfl rfl, ownA_own (i := 1) (by rw [← e2]; rfl) rfl rfl⟩
  | bal n => injection e with e1 e2; have := kz_of (k := "n") e1 (by decide +kernel); rw [this] at e2; exact ownA_own (i := 0) (by rw [← e2]; rfl) rfl rfl
  | atl n b => injection e with e1 e2; have := kz_of (k := "na") e1 (by decide +kernel); rw [this] at e2; exact ownA_own (i := 0) (by rw [← e2]; rfl) rfl rfl
  | hld x y b k => injection e with e1 e2; have := kz_of (k := "nnak") e1 (by decide +kernel); rw [this] at e2; exact ⟨ownA_own (i := 0) (by rw [← e2]; rfl) rfl rfl, ownA_own (i := 1) (by rw [← e2]; rfl) rfl rfl, ownA_own (i := 3) (by rw [← e2]; rfl) rfl rfl⟩
  | stl k => injection e with e1 e2; have := kz_of (k := "k") e1 (by decide +kernel); rw [this] at e2; exact ownA_own (i := 0) (by rw [← e2]; rfl) rfl rfl
  | rel k => injection e with e1 e2; have := kz_of (k := "k") e1 (by decide +kernel); rw [this] at e2; exact ownA_own (i := 0) (by rw [← e2]; rfl) rfl rfl
  | put k w => injection e with e1 e2; have := kz_of (k := "kv") e1 (by decide +kernel); rw [this] at e2; exact ownA_own (i := 0) (by rw [← e2]; rfl) rfl rfl
  | get k => injection e with e1 e2; have := kz_of (k := "k") e1 (by decide +kernel); rw [this] at e2; exact ownA_own (i := 0) (by rw [← e2]; rfl) rfl rfl
  | drp k => injection e with e1 e2; have := kz_of (k := "k") e1 (by decide +kernel); rw [this] at e2; exact ownA_own (i := 0) (by rw [← e2]; rfl) rfl rfl
  | swp k u w => injection e with e1 e2; have := kz_of (k := "kvv") e1 (by decide +kernel); rw [this] at e2; exact ownA_own (i := 0) (by rw [← e2]; rfl) rfl rfl
  | sam k w => injection e with e1 e2; have := kz_of (k := "kv") e1 (by decide +kernel); rw [this] at e2; exact ownA_own (i := 0) (by rw [← e2]; rfl) rfl rfl
  | kys k => injection e with e1 e2; exact absurd (V.str.inj e1).symm hk
theorem own_pre {a : Nat} {z : Str} : ((⟨#[a]⟩ : Str) ++ cutS z none (some 11)).cps.toList = a :: z.cps.toList.take 11 := by
  rw [app_tl]
  have : (cutS z none (some ((11 : Nat) : Int))).cps.toList = z.cps.toList.take 11 := cut_to
  show [a] ++ (cutS z none (some 11)).cps.toList = _
  rw [show (cutS z none (some 11)).cps.toList = z.cps.toList.take 11 from this]
  rfl
theorem own_fit {a c : Nat} (ha : a = 97 ∨ a = 98) {x : V} (h : FitK (conv c) x) : FitK (conv c) (ownX ⟨#[a]⟩ c x) := by
  unfold ownX
  by_cases o : own1 c = true
  · rw [if_pos o]
    unfold own1 at o
    rw [Bool.or_eq_true] at o
    rcases o with o | o
    · have o := of_decide_eq_true o
      subst o
      obtain ⟨z, rfl, hz⟩ : ∃ z : Str, x = .str z ∧ kindOk "name" z.cps.toList = true := h
      refine ⟨_, rfl, ?_⟩
      rw [own_pre]
      have hz : nmL z.cps.toList = true := hz
      show nmL (a :: z.cps.toList.take 11) = true
      unfold nmL at hz ⊢
      rw [Bool.and_eq_true] at hz
      rw [List.length_cons, List.length_take, decide_eq_true (by omega), decide_eq_true (by omega)]
      refine List.all_eq_true.mpr fun d md => ?_
      rcases List.mem_cons.mp md with rfl | md
      · rcases ha with rfl | rfl <;> decide +kernel
      · exact List.all_eq_true.mp hz.2 d (List.mem_of_mem_take md)
    · have o := of_decide_eq_true o
      subst o
      obtain ⟨z, rfl, hz⟩ : ∃ z : Str, x = .str z ∧ kindOk "key" z.cps.toList = true := h
      refine ⟨_, rfl, ?_⟩
      rw [own_pre]
      have hz : kyL z.cps.toList = true := hz
      show kyL (a :: z.cps.toList.take 11) = true
      unfold kyL at hz ⊢
      rw [Bool.and_eq_true] at hz
      rw [List.length_cons, List.length_take, decide_eq_true (by omega), decide_eq_true (by omega)]
      refine List.all_eq_true.mpr fun d md => ?_
      rcases List.mem_cons.mp md with rfl | md
      · rcases ha with rfl | rfl <;> decide +kernel
      · exact List.all_eq_true.mp hz.2 d (List.mem_of_mem_take md)
  · rw [if_neg o]; exact h
theorem good_own {v kz : Str} {a : Nat} {args : List V} (ha : a = 97 ∨ a = 98) (g : Good (.str v :: args)) (m : (v, kz) ∈ formsT) : args.length = kz.cps.toList.length ∧ Good (.str v :: ownA ⟨#[a]⟩ kz.cps.toList args) := by
  obtain ⟨v', ks, args', e, hl, la, hf⟩ := g
  injection e with e1 e2
  have e1 := V.str.inj e1
  subst e1
  subst e2
  have hk := (forms_ok _ m).1
  have hk : verbT.lookup v = some (kz.cps.toList.map conv) := hk
  rw [hk] at hl
  obtain rfl := Option.some.inj hl
  rw [List.length_map] at la
  refine ⟨la, v, _, _, rfl, hk, by rw [List.length_map]; exact ownA_len la, fun i k x h1 h2 => ?_⟩
  rw [List.getElem?_map, Option.map_eq_some_iff] at h1
  obtain ⟨c, hc, rfl⟩ := h1
  have hi : i < args.length := by
    rw [la]
    exact (List.getElem?_eq_some_iff.mp hc).1
  have hx : args[i]? = some args[i] := List.getElem?_eq_getElem hi
  rw [ownA_get hc hx] at h2
  rw [← Option.some.inj h2]
  exact own_fit ha (hf i _ _ (by rw [List.getElem?_map, hc]; rfl) hx)
/-- a whole text of such statements -/
theorem own_text {a : Nat} {xss : List (List V)} (hn : xss ≠ []) (h : ∀ xs ∈ xss, Good xs ∧ ∀ s, xs = stV s → Own a s) {k : Nat} (hk : xss.length ≤ k) : OwnT a k ⟨(ctx xss).toArray⟩ := by
  intro rs e
  have e : pcAll (ctx xss) = .inr rs := by simpa using e
  have hl : (ctx xss).length ≤ 240 := by
    unfold pcAll at e
    split at e
    · cases e
    · rename_i h
      omega
  rw [(ctx_back hn (fun xs m => (h xs m).1) hl).1] at e
  cases e
  have e' : pcAll (ctx xss) = .inr xss := (ctx_back hn (fun xs m => (h xs m).1) hl).1
  obtain ⟨f1, f2⟩ := ssOf_eq (pcAll_stm e')
  have len := congrArg List.length f1
  rw [List.length_map] at len
  refine ⟨by omega, fun s ms => (h (stV s) (by rw [f1]; exact List.mem_map.mpr ⟨s, ms, rfl⟩)).2 s rfl⟩
/-- the texts that the law begins with -/
def litOk (z : Str) (k : Nat) : Bool := match pcAll z.cps.toList with
  | .inl _ => true
  | .inr rs => decide (rs.length ≤ k) && rs.all fun xs => decide (xs.head? ≠ some (.str "hold"))
theorem lit_hs {z : Str} {k : Nat} (h : litOk z k = true) : ∀ rs, pcAll z.cps.toList = .inr rs → (ssOf rs).length ≤ k ∧ ∀ s ∈ ssOf rs, HoS s := by
  intro rs e
  unfold litOk at h
  rw [e] at h
  dsimp only at h
  rw [Bool.and_eq_true] at h
  obtain ⟨f1, f2⟩ := ssOf_eq (pcAll_stm e)
  have h1 := of_decide_eq_true h.1
  rw [f1, List.length_map] at h1
  refine ⟨h1, fun s ms => ?_⟩
  have h2 := of_decide_eq_true (List.all_eq_true.mp h.2 (stV s) (by rw [f1]; exact List.mem_map.mpr ⟨s, ms, rfl⟩))
  cases s with
  | hld x y b k => exact absurd rfl h2
  | _ => trivial
theorem lit1 : litOk "open aann;open abob;put ak x" 4 = true := by decide +kernel
theorem lit2 : litOk "open bann;open bbob;put bk x" 4 = true := by decide +kernel
theorem lit3 : litOk "issue aann 60;issue bann 60;issue abob 5;issue bbob 5" 4 = true := by decide +kernel
theorem ex_cap {c n : Int} {m : MM} {se : SD} {z : Str} {k j : Nat} (h : Cap m (k + j)) (o : ∀ rs, pcAll z.cps.toList = .inr rs → (ssOf rs).length ≤ j ∧ ∀ s ∈ ssOf rs, HoS s) : Cap (exR m se c n z).2.1 k := by
  by_cases hl : seL se c < n
  · rw [exR_new hl]; exact rt_cap h o
  · rw [exR_old (by omega)]; exact h.mono (Nat.le_add_right _ _)
theorem own_hs {a k : Nat} {z : Str} (o : OwnT a k z) : ∀ rs, pcAll z.cps.toList = .inr rs → (ssOf rs).length ≤ k ∧ ∀ s ∈ ssOf rs, HoS s := fun rs e => ⟨(o rs e).1, fun s ms => Own.hs ((o rs e).2 s ms)⟩
def NL (se : SD) (b : Int) : Prop := ∀ k ∈ se, k.2.1 ≤ b
theorem NL.last {se : SD} {b : Int} (h : NL se b) (h0 : 0 ≤ b) (c : Int) : seL se c ≤ b := by
  unfold seL
  cases g : gA se c with
  | none => exact h0
  | some x => exact h _ (gA_some g)
theorem NL.ex {m : MM} {se : SD} {b c n : Int} {z : Str} (h : NL se b) (hn : n ≤ b) : NL (exR m se c n z).2.2 b := by
  by_cases hl : seL se c < n
  · rw [exR_new hl]
    intro k mk
    rcases pA_mem mk with rfl | ⟨mk, _⟩
    · exact hn
    · exact h k mk
  · rw [exR_old (by omega)]; exact h
/-- two strangers' commands, in one order and in the other: the answers, the accounts and the store, the sessions -/
theorem strangers_ex {m : MM} {se : SD} {c d n b : Int} {y z : Str} {i j k : Nat} (hij : i ≠ j) (hcd : c ≠ d) (hc : c.natAbs ≤ 100) (hd : d.natAbs ≤ 100) (ok : MOk m) (ks : kOk se) (nl : NL se b) (h0 : 0 ≤ b) (hb : b < n) (cap : Cap m (k + k)) (oy : OwnT i k y) (oz : OwnT j k z) :
    let r1 := exR m se c n y
    let r2 := exR r1.2.1 r1.2.2 d n z
    let q1 := exR m se d n z
    let q2 := exR q1.2.1 q1.2.2 c n y
    r1.1 = q2.1 ∧ r2.1 = q1.1 ∧ ME r2.2.1 q2.2.1 ∧ SE r2.2.2 q2.2.2 := by
  obtain ⟨s1, s2, s3⟩ := strangers hij hc hd ok cap oy oz
  have l0 : ∀ e, seL se e < n := fun e => by have := nl.last h0 e; omega
  have e1 := exR_new (m := m) (z := y) (l0 c)
  have e2 := exR_new (m := m) (z := z) (l0 d)
  have g1 : seL (pA se c (n, txR (rtR m c y))) d = seL se d := by unfold seL; rw [gA_put ks, if_neg hcd.symm]
  have g2 : seL (pA se d (n, txR (rtR m d z))) c = seL se c := by unfold seL; rw [gA_put ks, if_neg hcd]
  have e3 := exR_new (m := mR m (rtR m c y)) (se := pA se c (n, txR (rtR m c y))) (c := d) (n := n) (z := z) (by rw [g1]; exact l0 d)
  have e4 := exR_new (m := mR m (rtR m d z)) (se := pA se d (n, txR (rtR m d z))) (c := c) (n := n) (z := y) (by rw [g2]; exact l0 c)
  simp only [e1, e2]
  rw [e3, e4]
  refine ⟨s2.symm, s1, s3, ?_⟩
  have k1 := pA_ok c (n, txR (rtR m c y)) ks
  have k2 := pA_ok d (n, txR (rtR m d z)) ks
  refine ⟨pA_ok _ _ k1, pA_ok _ _ k2, fun e => ?_⟩
  show gA (pA (pA se c _) d _) e = gA (pA (pA se d _) c _) e
  rw [gA_put k1, gA_put ks, gA_put k2, gA_put ks, s1, s2]
  by_cases hd : e = d
  · rw [if_pos hd, if_neg (fun z => hcd (z.symm.trans hd)), if_pos hd]
  · rw [if_neg hd]
    by_cases he : e = c
    · rw [if_pos he, if_pos he]
    · rw [if_neg he, if_neg he, if_neg hd]
theorem good_part {v kz : Str} {args : List V} {i c : Nat} {x : V} (g : Good (.str v :: args)) (m : (v, kz) ∈ formsT) (hc : kz.cps.toList[i]? = some c) (hx : args[i]? = some x) (o : own1 c = true) : ∃ z : Str, x = .str z ∧ z.length ≤ 20 := by
  obtain ⟨v', ks, args', e, hl, la, hf⟩ := g
  injection e with e1 e2
  have e1 := V.str.inj e1
  subst e1
  subst e2
  have hk := (forms_ok _ m).1
  have hk : verbT.lookup v = some (kz.cps.toList.map conv) := hk
  rw [hk] at hl
  obtain rfl := Option.some.inj hl
  have f := hf i (conv c) x (by rw [List.getElem?_map, hc]; rfl) hx
  unfold own1 at o
  rw [Bool.or_eq_true] at o
  rcases o with o | o
  · have o := of_decide_eq_true o
    subst o
    obtain ⟨z, rfl, hz⟩ : ∃ z : Str, x = .str z ∧ kindOk "name" z.cps.toList = true := f
    have hz : nmL z.cps.toList = true := hz
    unfold nmL at hz
    rw [Bool.and_eq_true, Bool.and_eq_true] at hz
    have := of_decide_eq_true hz.1.2
    have e := len_tl z
    exact ⟨z, rfl, by omega⟩
  · have o := of_decide_eq_true o
    subst o
    obtain ⟨z, rfl, hz⟩ : ∃ z : Str, x = .str z ∧ kindOk "key" z.cps.toList = true := f
    have hz : kyL z.cps.toList = true := hz
    unfold kyL at hz
    rw [Bool.and_eq_true, Bool.and_eq_true] at hz
    have := of_decide_eq_true hz.1.2
    have e := len_tl z
    exact ⟨z, rfl, by omega⟩
theorem sign_eq (c d : Nat) : (V.str ⟨#[c]⟩ = V.str ⟨#[d]⟩) ↔ c = d := ⟨fun h => by
  have := V.str.inj h
  injection this with this
  have := congrArg Array.toList this
  simpa using this, fun h => by rw [h]⟩
theorem str_n : Str.ofString "n" = ⟨#[110]⟩ := by decide +kernel
theorem str_k : Str.ofString "k" = ⟨#[107]⟩ := by decide +kernel
theorem ex_mok {c n : Int} (hc : c.natAbs ≤ 100) {m : MM} {se : SD} {z : Str} (ok : MOk m) : MOk (exR m se c n z).2.1 := by
  by_cases hl : seL se c < n
  · rw [exR_new hl]; exact rt_mok hc ok
  · rw [exR_old (by omega)]; exact ok

section
variable {P : Program} {w : World} {K : PySem.W.Frag} {mg : Str → Option Value} {base : Heap}
theorem c__law_own {C_Accounts : Addr} {C_Sessions : Addr} {C_Store : Addr} {C_State : Addr} {C_BadText : Addr} {C_Refused : Addr} {C_BadCommand : Addr} {C_VERBS : Addr} (T : Txt K mg w C_Accounts C_Sessions C_Store C_State C_BadText C_Refused C_BadCommand C_VERBS) : Cal P w K mg base 3 "_law_own" (fun vs H Q _ => ∃ (t : Addr) (xs : List V) (a : Nat), vs = [.ref t, .str ⟨#[a]⟩] ∧ (a = 97 ∨ a = 98) ∧ H t = some (.tup xs) ∧ Good xs ∧ ∀ H' u ys, Same H H' → H' u = some (.tup ys) → Good ys → (∀ s, ys = stV s → Own a s) → Q (.ref u) H') [] := by
  have c__law_forms := c__law_forms (P := P) (w := w) (K := K) (base := base) T
  refine cal T.d__law_own sc__law_own (fun vs H Q E h => ?_) (fun f cdv A' outer s H vs Q E hr h => ?_)
  · obtain ⟨t, xs, a, rfl, _⟩ := h; rfl
  obtain ⟨t, xs, a, rfl, ha, ht, g, out⟩ := h
  have sl := sizeLine_eq
  obtain ⟨v0, ks0, args0, rfl, hl0, la0, hf0⟩ := id g
  refine ⟨_, (pss_cons (ps_set (i := 2) sc__law_own.nd rfl (Or.inl rfl) (pe_ix (kixt (K := K)) (pv 0) pe_int (fun _ _ => rfl)))
      (pss_cut (ps_if (PW.pt (pw_or (pt_cmpR op_eq (pv 2) pe_str (nomark _)) (pw_or1 (pt_cmpR op_eq (pv 2) pe_str (nomark _))))) (pss_cons (ps_set (i := 2) sc__law_own.nd rfl (Or.inl rfl) pe_str)
      (pss_one (ps_set (i := 0) sc__law_own.nd rfl (Or.inl rfl) (pe_tup (pa_cons (pv 2) (pa_cons pe_str pa_nil)))))) pss_nil)
      (pss_cons (ps_for PassesOwn.never rfl (pi_list (pe_c0 c__law_forms hr (by omega) (by rfl))) (pg_tup (by rfl) (pgs_cons (pg_name (i := 3) sc__law_own.nd rfl (Or.inl rfl)) (pgs_cons (pg_name (i := 4) sc__law_own.nd rfl (Or.inl rfl)) pgs_nil))) (pss_one (ps_if (pt_cmpR op_eq (pv 3) (pv 2) (nomark _)) (pss_cons (ps_set (i := 5) sc__law_own.nd rfl (Or.inl rfl) (pe_lst (pa_cons (pv 2) pa_nil)))
      (pss_cons (ps_for PassesOwn.never rfl (pi_range1 (by rfl) T.z_range (pa_cons (pe_callB call_len_str (by rfl) T.z_len (by decide +kernel) (pa_cons (pv 4) pa_nil)) pa_nil)) (pg_name (i := 6) sc__law_own.nd rfl (Or.inl rfl)) (pss_cons (ps_set (i := 7) sc__law_own.nd rfl (Or.inl rfl) (pe_ix (kixt (K := K)) (pv 0) (pe_op op_add (pv 6) pe_int) (fun _ _ => rfl)))
      (pss_cut (ps_if (PW.pt (pw_or (pt_cmpR op_eq (pe_ix ix_str (pv 4) (pv 6) (fun _ _ => rfl)) pe_str (nomark _)) (pw_or1 (pt_cmpR op_eq (pe_ix ix_str (pv 4) (pv 6) (fun _ _ => rfl)) pe_str (nomark _))))) (pss_one (ps_set (i := 7) sc__law_own.nd rfl (Or.inl rfl) (pe_op op_add_str (pv 1) (pe_slice sl_str (pv 7) po_none (po_some pe_int))))) pss_nil)
      (pss_one (ps_expr (pe_bm PySem.F.plainAttrs_list PySem.F.slot_list_append PySem.F.type_list_append mt_append (pv 5) (pa_cons (pv 7) pa_nil)))))))
      (pss_one (ps_ret (pe_callTy call_tuple_of (by rfl) T.z_tuple (by decide +kernel) (pa_cons (pv 5) pa_nil)))))) pss_nil)))
      (pss_one (ps_ret (pv 0)))))), ?_⟩
  walk_at "rds"
  refine ⟨t, _, 0, _, rfl, rfl, .inl (.inl ht), (show atI _ ((0 : Nat) : Int) = _ from atI_nat rfl), ?_⟩
  walk_at "rds"
  refine ⟨fun σ' H' => ∃ (t' : Addr) (v : Str) (args : List V), σ' = [some (.ref t'), some (.str ⟨#[a]⟩), some (.str v), none, none, none, none, none] ∧ Same H H' ∧ H' t' = some (.tup (.str v :: args)) ∧ Good (.str v :: args) ∧ v ≠ "issue" ∧ v ≠ "keys", ?_, ?_⟩
  · have gopen : Good [.str "open", .str "ann"] := ⟨"open", ["name"], [.str "ann"], rfl, by decide +kernel, rfl, fun i k x h1 h2 => by
      match i with
      | 0 =>
        obtain rfl := Option.some.inj h1
        obtain rfl := Option.some.inj h2
        exact ⟨_, rfl, by decide +kernel⟩
      | i + 1 => cases h1⟩
    walk_at "rds"
    by_cases h1 : v0 = "keys"
    · refine ifT (decide_eq_true (congrArg V.str h1)) ?_
      walk_at "rds"
      intro p hp
      exact ⟨p, "open", [.str "ann"], rfl, same_upd hp, upd_same, gopen, by decide, by decide⟩
    refine ifF (decide_eq_false fun z => h1 (V.str.inj z)) ?_
    walk_at "rds"
    by_cases h2 : v0 = "issue"
    · refine ifT (decide_eq_true (congrArg V.str h2)) ?_
      walk_at "rds"
      intro p hp
      exact ⟨p, "open", [.str "ann"], rfl, same_upd hp, upd_same, gopen, by decide, by decide⟩
    refine ifF (decide_eq_false fun z => h2 (V.str.inj z)) ?_
    exact ⟨t, v0, args0, rfl, Same.refl _, ht, g, h2, h1⟩
  rintro σ' H1 ⟨t', v, args, rfl, s1, ht1, g1, n1, n2⟩
  clear g hl0 la0 hf0
  (try delta tNil)
  refine ⟨rfl, fun H2 b as s2 hb la hx => ?_⟩
  refine ⟨b, rfl, ⟨_, sq hb⟩, ?_⟩
  obtain ⟨kz, mkz⟩ : ∃ kz, (v, kz) ∈ formsT := by
    obtain ⟨v0, ks0, args0, e, hl0, _, _⟩ := g1
    injection e with e1 _
    have e1 := V.str.inj e1
    subst e1
    have key : ∀ x ∈ verbT, ∃ y ∈ formsT, y.1 = x.1 := by decide +kernel
    obtain ⟨y, my, ey⟩ := key _ (lookup_mem hl0)
    have ey : y.1 = v := ey
    exact ⟨y.2, by rw [← ey]; exact my⟩
  obtain ⟨lka, gown⟩ := good_own ha g1 mkz
  refine for_it (walk_list (K := K) (a := b) (xs := as.map V.ref)) (Pv := fun i σ H' => ∃ (y3 y4 y5 y6 y7 : Option V), σ = [some (.ref t'), some (.str ⟨#[a]⟩), some (.str v), y3, y4, y5, y6, y7] ∧ Same H2 H' ∧ ∀ (j : Nat) (x : Str × Str), j < i → formsT[j]? = some x → x.1 ≠ v) ⟨_, _, _, _, _, rfl, Same.refl _, fun j x h => absurd h (Nat.not_lt_zero j)⟩ (fun _ _ _ _ h => by obtain ⟨_, _, _, _, _, _, s, _⟩ := h; exact sq (s _ _ hb)) (fun i x σ H3 H4 hi hp hy => ?_) (fun σ H3 hp => ?_)
  · obtain ⟨y3, y4, y5, y6, y7, rfl, s3, nf⟩ := hp
    obtain ⟨rfl, hy⟩ := hy
    rw [List.getElem?_map, Option.map_eq_some_iff] at hy
    obtain ⟨ta, hta, rfl⟩ := hy
    have hi16 : i < formsT.length := by
      have := (List.getElem?_eq_some_iff.mp hta).1
      rw [la] at this
      exact this
    obtain ⟨⟨o, kk⟩, hx1⟩ : ∃ x, formsT[i]? = some x := ⟨_, List.getElem?_eq_getElem hi16⟩
    have h3 := s3 _ _ (hx i ta _ hta hx1)
    refine ⟨ta, _, rfl, .inl (.inl h3), rfl, _, _, rfl, _, _, rfl, rfl, ?_⟩
    walk_at "rds"
    by_cases e : o = v
    · refine ifT (decide_eq_true (congrArg V.str e)) ?_
      subst e
      have ek : kz = kk := forms_kz _ mkz _ (List.mem_of_getElem? hx1) rfl
      subst ek
      have k4 := (forms_ok _ mkz).2
      have k4 : kz.length ≤ 4 := k4
      have ll : kz.cps.toList.length = kz.length := len_tl kz
      walk_at "rds"
      intro p hp
      walk_at "rds"
      have lA := ownA_len (l := ⟨#[a]⟩) lka
      generalize hC : kz.cps.toList = C at lka gown ll lA
      generalize hA : ownA ⟨#[a]⟩ C args = A at gown lA
      have p2 : H2 p = none := same_none s3 hp
      have s2p : Same H2 (upd H4 p (.lst [.str o])) := same_mut s3 p2
      have hts : ∀ {H' : Hp}, Same H2 H' → H' t' = some (.tup (.str o :: args)) := fun s => s _ _ (s2 _ _ ht1)
      refine for_it walk_range (Pv := fun j σ H' => ∃ (y6 y7 : Option V), σ = [some (.ref t'), some (.str ⟨#[a]⟩), some (.str o), some (.str o), some (.str kz), some (.ref p), y6, y7] ∧ Same H2 H' ∧ H' p = some (.lst (.str o :: A.take j))) ⟨_, _, rfl, s2p, upd_same⟩ (fun _ _ _ _ _ => trivial) (fun j x σ H5 H6 hj hp hy => ?_) (fun σ H5 hp => ?_)
      · obtain ⟨y6, y7, rfl, s5, h5⟩ := hp
        obtain ⟨rfl, rfl⟩ := hy
        rw [Int.toNat_natCast] at hj
        have hj : j < kz.length := hj
        have hjC : j < C.length := by omega
        obtain ⟨c, hc⟩ : ∃ c, C[j]? = some c := ⟨_, List.getElem?_eq_getElem hjC⟩
        obtain ⟨xj, hxj⟩ : ∃ x, args[j]? = some x := ⟨_, List.getElem?_eq_getElem (by omega)⟩
        have hAj : A[j]? = some (ownX ⟨#[a]⟩ c xj) := by rw [← hA]; exact ownA_get hc hxj
        walk_at "rds"
        refine ⟨t', _, _, _, rfl, rfl, .inl (.inl (hts s5)), (by rw [show (0 + (j : Int) + 1) = ((j + 1 : Nat) : Int) by omega]; exact atI_nat (show (V.str o :: args)[j + 1]? = some xj from hxj)), ?_⟩
        walk_at "rds"
        refine ⟨fun σ' H' => H' = H6 ∧ σ' = [some (.ref t'), some (.str ⟨#[a]⟩), some (.str o), some (.str o), some (.str kz), some (.ref p), some (.int (0 + (j : Int))), some (ownX ⟨#[a]⟩ c xj)], ?_, ?_⟩
        · have nx : own1 c = true → ∃ z : Str, xj = .str z ∧ z.length ≤ 20 := fun o => good_part g1 mkz (by rw [hC]; exact hc) hxj o
          have la1 : (⟨#[a]⟩ : Str).length = 1 := rfl
          walk_at "rds"
          refine ⟨_, _, c, rfl, rfl, by omega, (by rw [hC, Int.zero_add]; exact atI_nat hc), ?_⟩
          rw [str_n]
          walk_at "rds"
          by_cases c1 : c = 110
          · obtain ⟨z, rfl, lz⟩ := nx (by rw [c1]; rfl)
            have lc := cutS_length z none (some 11)
            have eo : ownX ⟨#[a]⟩ c (.str z) = .str (⟨#[a]⟩ ++ cutS z none (some 11)) := by rw [c1]; rfl
            rw [eo]
            refine ifT (decide_eq_true ((sign_eq _ _).mpr c1)) ?_
            walk_at "rds"
            exact ⟨rfl, rfl⟩
          refine ifF (decide_eq_false fun z => c1 ((sign_eq _ _).mp z)) ?_
          walk_at "rds"
          refine ⟨_, _, c, rfl, rfl, by omega, (by rw [hC, Int.zero_add]; exact atI_nat hc), ?_⟩
          rw [str_k]
          walk_at "rds"
          by_cases c2 : c = 107
          · obtain ⟨z, rfl, lz⟩ := nx (by rw [c2]; rfl)
            have lc := cutS_length z none (some 11)
            have eo : ownX ⟨#[a]⟩ c (.str z) = .str (⟨#[a]⟩ ++ cutS z none (some 11)) := by rw [c2]; rfl
            rw [eo]
            refine ifT (decide_eq_true ((sign_eq _ _).mpr c2)) ?_
            walk_at "rds"
            exact ⟨rfl, rfl⟩
          refine ifF (decide_eq_false fun z => c2 ((sign_eq _ _).mp z)) ?_
          have eo : ownX ⟨#[a]⟩ c xj = xj := by
            unfold ownX own1
            rw [decide_eq_false c1, decide_eq_false c2]
            rfl
          rw [eo]
          exact ⟨rfl, rfl⟩
        rintro σ' H' ⟨rfl, rfl⟩
        walk_at "rds"
        refine ⟨.inl ⟨rfl, _, sq h5⟩, ?_⟩
        walk_at "rds"
        refine ⟨p, _, _, rfl, rfl, h5, by rw [List.length_cons, List.length_take]; exact sz1000' (by omega), ?_⟩
        have et : V.str o :: A.take j ++ [ownX ⟨#[a]⟩ c xj] = V.str o :: A.take (j + 1) := by
          rw [List.cons_append, List.take_add_one, hAj]; rfl
        rw [et]
        exact ⟨_, _, rfl, same_mut s5 p2, upd_same⟩
      · obtain ⟨y6, y7, rfl, s5, h5⟩ := hp
        rw [Int.toNat_natCast, ← ll, ← lA, List.take_length] at h5
        walk_at "rds"
        (try delta tNil)
        refine ⟨p, _, rfl, .inl ⟨sq h5, fun u hu => ?_⟩⟩
        refine out _ u _ (((s1.trans s2).trans s5).trans (same_upd hu)) upd_same gown fun s e => ?_
        exact own_stm mkz n1 n2 (by rw [← e, hC, hA])
    · refine ifF (decide_eq_false fun z => e (V.str.inj z)) ?_
      refine ⟨_, _, _, _, _, rfl, s3, fun j x hj ex => ?_⟩
      by_cases h : j < i
      · exact nf j x h ex
      · have : j = i := by omega
        subst this
        rw [hx1] at ex
        obtain rfl := Option.some.inj ex
        exact e
  · obtain ⟨y3, y4, y5, y6, y7, rfl, s3, nf⟩ := hp
    obtain ⟨j, hj, ej⟩ := List.getElem_of_mem mkz
    rw [List.length_map, la] at nf
    exact absurd rfl (nf j _ hj (by rw [List.getElem?_eq_getElem hj, ej]))
theorem c__law_command {C_Accounts : Addr} {C_Sessions : Addr} {C_Store : Addr} {C_State : Addr} {C_BadText : Addr} {C_Refused : Addr} {C_BadCommand : Addr} {C_VERBS : Addr} (T : Txt K mg w C_Accounts C_Sessions C_Store C_State C_BadText C_Refused C_BadCommand C_VERBS) : Cal P w K mg base 4 "_law_command" (fun vs H Q _ => ∃ (cell k cl n : Int), vs = [.int cell, .int k, .int cl, .int n] ∧ 0 ≤ k ∧ k ≤ 100 ∧ (cl = -2 ∨ cl = -3) ∧ ∀ H' t z, Same H H' → H' t = some (.tup [.int cl, .int n, .str z]) → OwnT (if cl = -2 then 97 else 98) 4 z → z.length ≤ 10000 → Q (.ref t) H') [] := by
  have c__law_own := c__law_own (P := P) (w := w) (K := K) (base := base) T
  have c__law_rich := c__law_rich (P := P) (w := w) (base := base) T
  have c__law_text := c__law_text (P := P) (w := w) (K := K) (base := base) T
  have c__law_statement := c__law_statement (P := P) (w := w) (K := K) (base := base) T
  refine cal T.d__law_command sc__law_command (fun vs H Q E h => ?_) (fun f cdv A' outer s H vs Q E hr h => ?_)
  · obtain ⟨cell, k, cl, n, rfl, _⟩ := h; rfl
  obtain ⟨cell, k, cl, n, rfl, k0, k1, hcl, out⟩ := h
  have ha : (if cl = -2 then 97 else 98 : Nat) = 97 ∨ (if cl = -2 then 97 else 98 : Nat) = 98 := by split <;> simp
  refine ⟨_, (pss_cons (ps_set (i := 4) sc__law_command.nd rfl (Or.inl rfl) (pe_c c__law_rich hr (by omega) (by rfl) (pa_cons (pv 0) (pa_cons (pv 1) pa_nil))))
      (pss_cut (ps_set (i := 5) sc__law_command.nd rfl (Or.inl rfl) (pe_ifExp (pt_cmpR op_eq (pv 2) (pe_un un_neg pe_int) (nomark _)) pe_str pe_str))
      (pss_cons (ps_set (i := 6) sc__law_command.nd rfl (Or.inl rfl) (pe_lst pa_nil))
      (pss_cons (ps_set (i := 7) sc__law_command.nd rfl (Or.inl rfl) (pe_op op_fdiv (pv 4) pe_int))
      (pss_cons (ps_for PassesOwn.never rfl (pi_range1 (by rfl) T.z_range (pa_cons (pe_op op_add pe_int (pe_op op_mod (pv 4) pe_int)) pa_nil)) (pg_name (i := 8) sc__law_command.nd rfl (Or.inl rfl)) (pss_one (ps_expr (pe_bm PySem.F.plainAttrs_list PySem.F.slot_list_append PySem.F.type_list_append mt_append (pv 6) (pa_cons (pe_c c__law_own hr (by omega) (by rfl) (pa_cons (pe_c c__law_statement hr (by omega) (by rfl) (pa_cons (pe_op op_add (pv 7) (pe_op op_mul pe_int (pv 8))) (pa_cons (pe_op op_add (pe_op op_fdiv (pv 7) pe_int) (pv 8)) (pa_cons (pe_op op_add (pe_op op_fdiv (pv 7) pe_int) (pe_op op_mul pe_int (pv 8))) pa_nil)))) (pa_cons (pv 5) pa_nil))) pa_nil)))))
      (pss_one (ps_ret (pe_tup (pa_cons (pv 2) (pa_cons (pv 3) (pa_cons (pe_c c__law_text hr (by omega) (by rfl) (pa_cons (pv 6) pa_nil)) pa_nil))))))))))), ?_⟩
  walk_at "rds"
  (try delta tNil)
  refine ⟨cell, _, rfl, k0, k1, fun rich => ?_⟩
  refine ⟨fun σ' H' => H' = H ∧ σ' = [some (.int cell), some (.int k), some (.int cl), some (.int n), some (.int rich), some (.str ⟨#[if cl = -2 then 97 else 98]⟩), none, none, none], ?_, ?_⟩
  · walk_at "rds"
    by_cases h2 : cl = -2
    · refine ifT (decide_eq_true (congrArg V.int h2)) ?_
      rw [if_pos h2]
      exact ⟨rfl, rfl⟩
    · refine ifF (decide_eq_false fun z => h2 (V.int.inj z)) ?_
      rw [if_neg h2]
      exact ⟨rfl, rfl⟩
  generalize (if cl = -2 then 97 else 98 : Nat) = a at ha out ⊢
  rintro σ' H' ⟨rfl, rfl⟩
  walk_at "rds"
  intro r hr2
  walk_at "rds"
  obtain ⟨N, hN⟩ := Int.eq_ofNat_of_zero_le (show 0 ≤ 1 + rich % 4 by omega)
  have hN3 : N ≤ 4 := by omega
  rw [hN, Int.toNat_natCast]
  refine for_it walk_range (Pv := fun i σ H2 => ∃ (y8 : Option V) (as : List Addr) (xss : List (List V)), σ = [some (.int cell), some (.int k), some (.int cl), some (.int n), some (.int rich), some (.str ⟨#[a]⟩), some (.ref r), some (.int (rich / 4)), y8] ∧ Same H' H2 ∧ H2 r = some (.lst (as.map V.ref)) ∧ as.length = i ∧ as.length = xss.length ∧ (∀ (j : Nat) (b : Addr) (xs : List V), as[j]? = some b → xss[j]? = some xs → H2 b = some (.tup xs)) ∧ ∀ xs ∈ xss, Good xs ∧ ∀ s, xs = stV s → Own a s) ⟨_, [], [], rfl, same_upd hr2, upd_same, rfl, rfl, (fun _ _ _ e => by cases e), fun _ m => nomatch m⟩ (fun _ _ _ _ _ => trivial) (fun i x σ H6 H7 hi hp hy => ?_) (fun σ H6 hp => ?_)
  · obtain ⟨y8, as, xss, rfl, s6, h6, la, lx, hx, gd⟩ := hp
    obtain ⟨rfl, rfl⟩ := hy
    walk_at "rds"
    refine ⟨.inl ⟨rfl, _, sq h6⟩, ?_⟩
    walk_at "rds"
    (try delta tNil)
    refine ⟨_, _, _, rfl, fun H8 t xs s8 nt ht g => ?_⟩
    walk_at "rds"
    (try delta tNil)
    refine ⟨t, xs, a, rfl, ha, ht, g, fun H9 u ys s9 hu gy oy => ?_⟩
    walk_at "rds"
    have s89 := s8.trans s9
    have h8 := s89 _ _ h6
    have rt : r ≠ u := fun z => by rw [← z, h8] at hu; cases hu
    refine ⟨r, _, _, rfl, rfl, h8, by rw [List.length_map]; exact sz1000' (by omega), ?_⟩
    have em : as.map V.ref ++ [V.ref u] = (as ++ [u]).map V.ref := by rw [List.map_append]; rfl
    rw [em]
    walk_at "rds"
    refine ⟨_, as ++ [u], xss ++ [ys], rfl, same_mut (s6.trans s89) hr2, upd_same, by rw [List.length_append, la]; rfl, by rw [List.length_append, List.length_append, lx]; rfl, fun j b zs e1 e2 => ?_, fun zs m => ?_⟩
    · have key : ∀ {b : Addr} {zs : List V}, H9 b = some (.tup zs) → upd H9 r (.lst ((as ++ [u]).map V.ref)) b = some (.tup zs) := fun e => by rw [upd_ne (fun z => by rw [z, h8] at e; cases e)]; exact e
      by_cases hj : j < as.length
      · rw [List.getElem?_append_left hj] at e1
        rw [List.getElem?_append_left (by omega)] at e2
        exact key (s89 _ _ (hx j b zs e1 e2))
      · rw [List.getElem?_append_right (by omega)] at e1
        rw [List.getElem?_append_right (by omega)] at e2
        have : j = as.length := by
          have := (List.getElem?_eq_some_iff.mp e1).1
          simp at this; omega
        subst this
        rw [Nat.sub_self] at e1
        rw [lx, Nat.sub_self] at e2
        obtain rfl := Option.some.inj e1
        obtain rfl := Option.some.inj e2
        exact key hu
    · rcases List.mem_append.mp m with m | m
      · exact gd zs m
      · rw [List.mem_singleton.mp m]; exact ⟨gy, oy⟩
  · obtain ⟨y8, as, xss, rfl, s6, h6, la, lx, hx, gd⟩ := hp
    have nn : xss ≠ [] := fun z => by rw [z] at lx; simp at lx; rw [lx] at la; simp at la; omega
    have gg : ∀ xs ∈ xss, Good xs := fun xs m => (gd xs m).1
    have tl : (ctx xss).length ≤ 10000 := Nat.le_trans (ctx_len gg (by omega)) (by omega)
    walk_at "rds"
    (try delta tNil)
    refine ⟨r, xss, rfl, ⟨as, h6, lx, hx⟩, gg, by omega, fun H9 s9 => ?_⟩
    walk_at "rds"
    intro u hu
    exact out _ u _ ((s6.trans s9).trans (same_upd hu)) upd_same (own_text nn gd (by omega)) tl
end

/-! ### the states of the law -/
structure Pr5 (G C D S : Addr) (H H' : Hp) (q : Addr) (L : Loc) (m : MM) (se : SD) (k : Nat) : Prop where
  pi : PrI G C D S H H' q L m se
  nl : NL se 49
  cp : Cap m k
theorem Pr5.on {G C D S : Addr} {H H1 H2 : Hp} {q : Addr} {L : Loc} {m : MM} {se : SD} {k : Nat} (h : Pr5 G C D S H H1 q L m se k) (s : Same H1 H2) : Pr5 G C D S H H2 q L m se k := ⟨h.pi.on s, h.nl, h.cp⟩
theorem Pr5.ex {G C D S : Addr} {H H1 H2 : Hp} {q : Addr} {L L' : Loc} {m : MM} {se : SD} {c n : Int} {z : Str} {k j : Nat} (h : Pr5 G C D S H H1 q L m se (k + j)) (hc : c ∈ cl4) (h0 : 0 ≤ n) (h1 : n ≤ 49) (o : ∀ rs, pcAll z.cps.toList = .inr rs → (ssOf rs).length ≤ j ∧ ∀ s ∈ ssOf rs, HoS s) (kk : But [q, L.n3, L.a3] H1 H2) (es : EsAt G C D S H2 q L' (exR m se c n z).2.1 (exR m se c n z).2.2) (ok : MOk (exR m se c n z).2.1) (la : L'.as = L.as ∨ ∀ x ∈ L'.as, H1 x = none) (e1 : L'.pe = L.pe) (e2 : L'.n3 = L.n3) (e3 : L'.a3 = L.a3) : Pr5 G C D S H H2 q L' (exR m se c n z).2.1 (exR m se c n z).2.2 k :=
  ⟨h.pi.ex hc h0 (by omega) kk es ok la e1 e2 e3, h.nl.ex h1, ex_cap h.cp o⟩
section
variable {P : Program} {w : World} {K : PySem.W.Frag} {mg : Str → Option Value} {base : Heap}
theorem ok_law {C_Accounts : Addr} {C_Sessions : Addr} {C_Store : Addr} {C_State : Addr} {C_BadText : Addr} {C_Refused : Addr} {C_BadCommand : Addr} {C_VERBS : Addr} {f : Addr} {fd : FuncData} (F : L2.Fun K "law" "law" s_law f fd) (T : Txt K mg w C_Accounts C_Sessions C_Store C_State C_BadText C_Refused C_BadCommand C_VERBS) : FnOk P w K mg base L2.CX0 40 f fd ["script"] (spLaw K) := by
  have k_State := k_State (P := P) (w := w) (K := K) (base := base) T
  have c__law_cell := c__law_cell (P := P) (w := w) (K := K) (base := base) T
  have c__law_command := c__law_command (P := P) (w := w) (K := K) (base := base) T
  have c_execute := c_execute (P := P) (w := w) (K := K) (base := base) T
  have m_State__clone := m_State__clone (P := P) (w := w) (K := K) (base := base) T
  have c_state_text := c_state_text (P := P) (w := w) (K := K) (base := base) T
  refine F.ok sc_law (fun vs H Q E h => ?_) (fun cdv A' outer s H vs Q E hr h => ?_)
  · obtain ⟨a, ns, rfl, _⟩ := h; rfl
  obtain ⟨sa, ns, rfl, hS, hlen, ret⟩ := h
  have sl := sizeLine_eq
  refine ⟨_, (pss_cons (ps_set (i := 1) sc_law.nd rfl (Or.inl rfl) (pe_mk0 k_State hr (by decide) (by rfl)))
      (pss_cons (ps_expr (pe_c c_execute hr (by omega) (by rfl) (pa_cons (pv 1) (pa_cons (pe_tup (pa_cons (pe_un un_neg pe_int) (pa_cons pe_int (pa_cons pe_str pa_nil)))) pa_nil))))
      (pss_cons (ps_expr (pe_c c_execute hr (by omega) (by rfl) (pa_cons (pv 1) (pa_cons (pe_tup (pa_cons (pe_un un_neg pe_int) (pa_cons pe_int (pa_cons pe_str pa_nil)))) pa_nil))))
      (pss_cons (ps_expr (pe_c c_execute hr (by omega) (by rfl) (pa_cons (pv 1) (pa_cons (pe_tup (pa_cons (pe_un un_neg pe_int) (pa_cons pe_int (pa_cons pe_str pa_nil)))) pa_nil))))
      (pss_cons (ps_set (i := 2) sc_law.nd rfl (Or.inl rfl) (pe_callB (call_min2 rfl) (by rfl) T.z_min (by decide +kernel) (pa_cons pe_int (pa_cons (pe_callB (klen (K := K)) (by rfl) T.z_len (by decide +kernel) (pa_cons (pv 0) pa_nil)) pa_nil))))
      (pss_cons (ps_for PassesOwn.never rfl (pi_range2 (by rfl) T.z_range (pa_cons pe_int (pa_cons (pv 2) pa_nil))) (pg_name (i := 3) sc_law.nd rfl (Or.inl rfl)) (pss_one (ps_expr (pe_c c_execute hr (by omega) (by rfl) (pa_cons (pv 1) (pa_cons (pe_c c__law_command hr (by omega) (by rfl) (pa_cons (pe_c c__law_cell hr (by omega) (by rfl) (pa_cons (pv 0) (pa_cons (pv 3) pa_nil))) (pa_cons (pv 3) (pa_cons (pe_op op_sub (pe_un un_neg pe_int) (pe_op op_mod (pv 3) pe_int)) (pa_cons (pe_op op_add pe_int (pv 3)) pa_nil))))) pa_nil))))))
      (pss_cons (ps_set (i := 4) sc_law.nd rfl (Or.inl rfl) (pe_c c__law_command hr (by omega) (by rfl) (pa_cons (pe_c c__law_cell hr (by omega) (by rfl) (pa_cons (pv 0) (pa_cons pe_int pa_nil))) (pa_cons pe_int (pa_cons (pe_un un_neg pe_int) (pa_cons pe_int pa_nil))))))
      (pss_cons (ps_set (i := 5) sc_law.nd rfl (Or.inl rfl) (pe_c c__law_command hr (by omega) (by rfl) (pa_cons (pe_c c__law_cell hr (by omega) (by rfl) (pa_cons (pv 0) (pa_cons pe_int pa_nil))) (pa_cons pe_int (pa_cons (pe_un un_neg pe_int) (pa_cons pe_int pa_nil))))))
      (pss_cons (ps_set (i := 6) sc_law.nd rfl (Or.inl rfl) (pe_mt0 m_State__clone hr (by decide) (pv 1)))
      (pss_cons (ps_set (i := 7) sc_law.nd rfl (Or.inl rfl) (pe_lst (pa_cons (pe_c c_execute hr (by omega) (by rfl) (pa_cons (pv 1) (pa_cons (pv 4) pa_nil))) (pa_cons (pe_c c_execute hr (by omega) (by rfl) (pa_cons (pv 1) (pa_cons (pv 5) pa_nil))) pa_nil))))
      (pss_cons (ps_set (i := 8) sc_law.nd rfl (Or.inl rfl) (pe_c c_execute hr (by omega) (by rfl) (pa_cons (pv 6) (pa_cons (pv 5) pa_nil))))
      (pss_cons (ps_set (i := 9) sc_law.nd rfl (Or.inl rfl) (pe_c c_execute hr (by omega) (by rfl) (pa_cons (pv 6) (pa_cons (pv 4) pa_nil))))
      (pss_one (ps_ret (pe_and (pe_cmpR (op_eqD hr.units) (pv 7) (pe_lst (pa_cons (pv 9) (pa_cons (pv 8) pa_nil))) (nomark _)) (pe_one (pe_cmpR op_eq (pe_cX c_state_text hr (by omega) (by rfl) no_pass (pa_cons (pv 1) pa_nil)) (pe_cX c_state_text hr (by omega) (by rfl) no_pass (pa_cons (pv 6) pa_nil)) (nomark _)))))))))))))))))), ?_⟩
  walk_at "rds"
  (try delta tNil)
  intro q dx hq hdx ne
  refine ⟨q, dx, rfl, upd_same, fun H1 L1 kp es1 fr1 => ⟨rfl, ?_⟩⟩
  have s1 : Same H H1 := Same.made hq hdx kp
  have p1 : Pr5 C_State C_Accounts C_Store C_Sessions H H1 q L1 (⟨[], [], 0⟩, []) [] (90 + 4 + 4) := ⟨⟨s1, hq, fun x mx => made_none (fr1 x mx), es1, MOk_nil, ⟨List.nodup_nil, (fun _ m => nomatch m), (fun _ m => nomatch m)⟩, (fun _ m => nomatch m)⟩, (fun _ m => nomatch m), ⟨(fun _ m => nomatch m), by decide, by decide, by decide⟩⟩
  clear kp hdx fr1 es1 s1
  walk_at "rds"
  intro t1 ht1
  walk_at "rds"
  (try delta tNil)
  replace p1 := p1.on (same_upd (o := .tup [.int (-2), .int 1, .str "open aann;open abob;put ak x"]) ht1)
  refine ⟨q, t1, L1, (⟨[], [], 0⟩, []), [], -2, 1, "open aann;open abob;put ak x", rfl, upd_same, p1.pi.es, MOk_nil, Nat.zero_le _, by decide, by decide +kernel, fun H2 L2 k2 es2 ok2 la2 e1 e2 e3 => ?_⟩
  replace p1 := p1.ex (by decide) (by decide) (by decide) (lit_hs lit1) k2 es2 ok2 la2 e1 e2 e3
  generalize exR (⟨[], [], 0⟩, []) [] (-2) 1 "open aann;open abob;put ak x" = r at p1
  obtain ⟨_, m2, se2⟩ := r
  have p2 : Pr5 C_State C_Accounts C_Store C_Sessions H H2 q L2 m2 se2 (90 + 4) := p1
  clear p1 k2 es2 ok2 la2 e1 e2 e3 ht1
  walk_at "rds"
  intro t2 ht2
  walk_at "rds"
  (try delta tNil)
  replace p2 := p2.on (same_upd (o := .tup [.int (-3), .int 1, .str "open bann;open bbob;put bk x"]) ht2)
  refine ⟨q, t2, L2, m2, se2, -3, 1, "open bann;open bbob;put bk x", rfl, upd_same, p2.pi.es, p2.pi.ok, by have := p2.pi.se.len; omega, by decide, by decide +kernel, fun H3 L3 k3 es3 ok3 la3 e1 e2 e3 => ?_⟩
  replace p2 := p2.ex (by decide) (by decide) (by decide) (lit_hs lit2) k3 es3 ok3 la3 e1 e2 e3
  generalize exR m2 se2 (-3) 1 "open bann;open bbob;put bk x" = r at p2
  obtain ⟨_, m3, se3⟩ := r
  have p3 : Pr5 C_State C_Accounts C_Store C_Sessions H H3 q L3 m3 se3 90 := p2
  clear p2 k3 es3 ok3 la3 e1 e2 e3 ht2
  walk_at "rds"
  intro t3 ht3
  walk_at "rds"
  (try delta tNil)
  replace p3 := p3.on (same_upd (o := .tup [.int (-1), .int 1, .str "issue aann 60;issue bann 60;issue abob 5;issue bbob 5"]) ht3)
  refine ⟨q, t3, L3, m3, se3, -1, 1, "issue aann 60;issue bann 60;issue abob 5;issue bbob 5", rfl, upd_same, p3.pi.es, p3.pi.ok, by have := p3.pi.se.len; omega, by decide, by decide +kernel, fun H4 L4 k4 es4 ok4 la4 e1 e2 e3 => ?_⟩
  have p4 := Pr5.ex (k := 86) (j := 4) p3 (by decide) (by decide) (by decide) (lit_hs lit3) k4 es4 ok4 la4 e1 e2 e3
  generalize exR m3 se3 (-1) 1 "issue aann 60;issue bann 60;issue abob 5;issue bbob 5" = r at p4
  obtain ⟨_, m4, se4⟩ := r
  replace p4 : Pr5 C_State C_Accounts C_Store C_Sessions H H4 q L4 m4 se4 86 := p4
  clear p3 k4 es4 ok4 la4 e1 e2 e3 ht3
  walk_at "rds"
  (try delta tNil)
  refine ⟨sa, _, rfl, .inl (sqOn hS p4.pi.sm), ?_⟩
  rw [List.length_map]
  refine ⟨_, _, rfl, ?_⟩
  have hcnt : (if (ns.length : Int) < 20 then (ns.length : Int) else 20) ≤ 20 ∧ 0 ≤ (if (ns.length : Int) < 20 then (ns.length : Int) else 20) := by split <;> omega
  generalize (if (ns.length : Int) < 20 then (ns.length : Int) else 20) = cnt at hcnt ⊢
  walk_at "rds"
  (try delta tNil)
  refine ⟨_, _, rfl, ⟨by omega, by omega, by omega, by omega⟩, ?_⟩
  have r18 : (cnt - 2).toNat ≤ 18 := by omega
  refine for_it walk_range (Pv := fun i σ H' => ∃ (y3 : Option V) (L : Loc) (m : MM) (se : SD), σ = [some (.ref sa), some (.ref q), some (.int cnt), y3, none, none, none, none, none, none] ∧ Pr5 C_State C_Accounts C_Store C_Sessions H H' q L m se (86 - 4 * i)) ⟨_, L4, m4, se4, rfl, p4⟩ (fun _ _ _ _ _ => trivial) (fun i x σ H5 H6 hi hp hy => ?_) (fun σ H5 hp => ?_)
  · obtain ⟨y3, L, m, se, rfl, p5⟩ := hp
    obtain ⟨rfl, rfl⟩ := hy
    clear p4
    walk_at "rds"
    (try delta tNil)
    refine ⟨sa, ns, 2 + i, congrArg (fun x => [V.ref sa, V.int x]) (by omega), sqOn hS p5.pi.sm, ?_⟩
    generalize ns.getD (2 + i) 0 = cell
    walk_at "rds"
    (try delta tNil)
    refine ⟨cell, _, _, _, rfl, by omega, by omega, by omega, fun H7 t z s7 ht ot lz => ?_⟩
    replace p5 : Pr5 C_State C_Accounts C_Store C_Sessions H H7 q L m se (86 - 4 * (i + 1) + 4) := by
      rw [show 86 - 4 * (i + 1) + 4 = 86 - 4 * i by omega]
      exact p5.on s7
    have hcl : -2 - (2 + (i : Int)) % 2 ∈ cl4 := by
      have : (2 + (i : Int)) % 2 = 0 ∨ (2 + (i : Int)) % 2 = 1 := by omega
      rcases this with e | e <;> rw [e] <;> decide
    walk_at "rds"
    (try delta tNil)
    refine ⟨q, t, L, m, se, -2 - (2 + (i : Int)) % 2, 2 + (2 + (i : Int)), z, rfl, ht, p5.pi.es, p5.pi.ok, by have := p5.pi.se.len; omega, cl4_abs hcl, lz, fun H8 L8 k8 es8 ok8 la8 e1 e2 e3 => ?_⟩
    exact ⟨_, L8, _, _, rfl, p5.ex hcl (by omega) (by omega) (own_hs ot) k8 es8 ok8 la8 e1 e2 e3⟩
  · obtain ⟨y3, L, m, se, rfl, p5⟩ := hp
    replace p5 : Pr5 C_State C_Accounts C_Store C_Sessions H H5 q L m se (4 + 4) := ⟨p5.pi, p5.nl, p5.cp.mono (by omega)⟩
    clear p4
    walk_at "rds"
    (try delta tNil)
    refine ⟨sa, ns, 0, rfl, sqOn hS p5.pi.sm, ?_⟩
    generalize ns.getD 0 0 = cell0
    walk_at "rds"
    (try delta tNil)
    refine ⟨cell0, _, _, _, rfl, by omega, by omega, .inl rfl, fun H6 t1 z1 s6 ht1 ot1 lz1 => ?_⟩
    replace p5 := p5.on s6
    walk_at "rds"
    (try delta tNil)
    refine ⟨sa, ns, 1, rfl, sqOn hS p5.pi.sm, ?_⟩
    generalize ns.getD 1 0 = cell1
    walk_at "rds"
    (try delta tNil)
    refine ⟨cell1, _, _, _, rfl, by omega, by omega, .inr rfl, fun H7 t2 z2 s7 ht2 ot2 lz2 => ?_⟩
    replace p5 := p5.on s7
    replace ht1 := s7 _ _ ht1
    have ot1 : OwnT 97 4 z1 := ot1
    have ot2 : OwnT 98 4 z2 := ot2
    clear s6 s7
    obtain ⟨dx7, g7⟩ := p5.pi.es.ins
    walk_at "rds"
    refine ⟨q, dx7, _, rfl, g7, rfl, ?_⟩
    walk_at "rds"
    (try delta tNil)
    refine ⟨q, L, m, se, rfl, p5.pi.es, p5.pi.ok, fun H8 qc Lc s8 nqc nLc esc => ?_⟩
    obtain ⟨r1, r2, r3, r4⟩ := strangers_ex (c := -2) (d := -3) (n := 50) (i := 97) (j := 98) (by decide) (by decide) (by decide) (by decide) p5.pi.ok p5.pi.se.ok p5.nl (by decide) (by decide) p5.cp ot1 ot2
    have new : ∀ x ∈ qc :: (Lc.as ++ Lc.ss), H7 x = none := fun x mx => by
      rcases List.mem_cons.mp mx with rfl | mx
      · exact nqc
      · exact nLc x mx
    have old : ∀ x ∈ q :: (L.as ++ L.ss), H7 x ≠ none := p5.pi.es.lv
    replace p5 := p5.on s8
    replace ht1 := s8 _ _ ht1
    replace ht2 := s8 _ _ ht2
    have ok := p5.pi.ok
    have sg := p5.pi.se
    have es := p5.pi.es
    have sg1 := sg.exr (m := m) (z := z1) (c := -2) (n := 50) (by decide) (by decide) (by decide) ok
    have ok1 := ex_mok (c := -2) (n := 50) (se := se) (z := z1) (by decide) ok
    have sg2 := sg1.exr (m := (exR m se (-2) 50 z1).2.1) (z := z2) (c := -3) (n := 50) (by decide) (by decide) (by decide) ok1
    have ok2 := ex_mok (c := -3) (n := 50) (se := (exR m se (-2) 50 z1).2.2) (z := z2) (by decide) ok1
    have sg3 := sg.exr (m := m) (z := z2) (c := -3) (n := 50) (by decide) (by decide) (by decide) ok
    have ok3 := ex_mok (c := -3) (n := 50) (se := se) (z := z2) (by decide) ok
    have sg4 := sg3.exr (m := (exR m se (-3) 50 z2).2.1) (z := z1) (c := -2) (n := 50) (by decide) (by decide) (by decide) ok3
    have ok4 := ex_mok (c := -2) (n := 50) (se := (exR m se (-3) 50 z2).2.2) (z := z1) (by decide) ok3
    have lc8 := esc.lv
    have an1 := ex_ans (n := 50) (z := z1) (show (-2 : Int).natAbs ≤ 100 by decide) ok (sg.last (-2)).2
    have an2 := ex_ans (n := 50) (z := z2) (show (-3 : Int).natAbs ≤ 100 by decide) ok1 (sg1.last (-3)).2
    walk_at "rds"
    (try delta tNil)
    refine ⟨q, t1, L, m, se, -2, 50, z1, rfl, ht1, es, ok, by have := sg.len; omega, by decide, lz1, fun H9 L9 k9 es9 _ la9 e1 e2 e3 => ?_⟩
    have cells : ∀ x ∈ [q, L.n3, L.a3], x ∈ q :: (L.as ++ L.ss) := fun x mx => by
      simp only [Loc.ss, List.mem_cons, List.mem_append, List.not_mem_nil, or_false] at mx ⊢
      rcases mx with rfl | rfl | rfl <;> simp
    have i8 := es.three
    have esc9 := esc.bt k9 (fun x mx my => old x (cells x my) (new x mx)) (fun x mx => (i8 x mx).nt)
    have ht1 := k9 _ _ (fun m => (i8 _ m).nt _ ht1) ht1
    have ht2 := k9 _ _ (fun m => (i8 _ m).nt _ ht2) ht2
    have n9 : L9.n3 = L.n3 := e2
    have a9 : L9.a3 = L.a3 := e3
    have ss9 : L9.ss = L.ss := by unfold Loc.ss; rw [e1, e2, e3]
    generalize exR m se (-2) 50 z1 = R1 at an1 an2 es9 sg1 sg2 ok1 ok2 r1 r2 r3 r4 ⊢
    have lc9 := esc9.lv
    clear k9 es esc e1 e2 e3
    walk_at "rds"
    (try delta tNil)
    refine ⟨q, t2, L9, R1.2.1, R1.2.2, -3, 50, z2, rfl, ht2, es9, ok1, by have := sg1.len; omega, by decide, lz2, fun H10 L10 k10 es10 _ la10 e1 e2 e3 => ?_⟩
    have i9 := es9.three
    rw [n9, a9] at k10 i9
    have esc10 := esc9.bt k10 (fun x mx my => old x (cells x my) (new x mx)) (fun x mx => (i9 x mx).nt)
    have ht1 := k10 _ _ (fun m => (i9 _ m).nt _ ht1) ht1
    have ht2 := k10 _ _ (fun m => (i9 _ m).nt _ ht2) ht2
    generalize exR R1.2.1 R1.2.2 (-3) 50 z2 = R2 at an2 es10 sg2 ok2 r1 r2 r3 r4 ⊢
    have ss10 : L10.ss = L.ss := by rw [← ss9]; unfold Loc.ss; rw [e1, e2, e3]
    have dis : ∀ x ∈ q :: (L10.as ++ L10.ss), x ∉ qc :: (Lc.as ++ Lc.ss) := fun x mx my => by
      rcases List.mem_cons.mp mx with rfl | mx
      · exact old _ List.mem_cons_self (new _ my)
      rcases List.mem_append.mp mx with mx | mx
      · rcases la10 with h | h
        · rcases la9 with h' | h'
          · exact old x (List.mem_cons_of_mem _ (List.mem_append_left _ (by rw [← h', ← h]; exact mx))) (new x my)
          · exact lc8 x my (h' x (by rw [← h]; exact mx))
        · exact lc9 x my (h x mx)
      · exact old x (List.mem_cons_of_mem _ (List.mem_append_right _ (by rw [← ss10]; exact mx))) (new x my)
    clear k10 esc9 e1 e2 e3 la9 la10 lc8 lc9 es9
    walk_at "rds"
    intro tl htl
    have u11 := same_upd (o := .lst [.str R1.1, .str R2.1]) htl
    have esq11 := es10.on u11
    have esc11 := esc10.on u11
    have ht1 := u11 _ _ ht1
    have ht2 := u11 _ _ ht2
    have htl : upd H10 tl (.lst [.str R1.1, .str R2.1]) tl = some (.lst [.str R1.1, .str R2.1]) := upd_same
    generalize upd H10 tl (.lst [.str R1.1, .str R2.1]) = H11 at esq11 esc11 ht1 ht2 htl ⊢
    have cellc : ∀ x ∈ [qc, Lc.n3, Lc.a3], x ∈ qc :: (Lc.as ++ Lc.ss) := fun x mx => by
      simp only [Loc.ss, List.mem_cons, List.mem_append, List.not_mem_nil, or_false] at mx ⊢
      rcases mx with rfl | rfl | rfl <;> simp
    have notl : ∀ {H' : Hp} {x : Addr}, H' tl = some (.lst [.str R1.1, .str R2.1]) → InD H' x → tl ≠ x := fun {H' x} h i z => by
      rw [← z] at i
      rcases i with ⟨_, _, _, e⟩ | ⟨_, e⟩ <;> rw [h] at e <;> cases e
    clear u11 es10 esc10
    walk_at "rds"
    (try delta tNil)
    refine ⟨qc, t2, Lc, m, se, -3, 50, z2, rfl, ht2, esc11, ok, by have := sg.len; omega, by decide, lz2, fun H12 L12 k12 es12 _ la12 e1 e2 e3 => ?_⟩
    have i11 := esc11.three
    have esq12 := esq11.bt k12 (fun x mx my => dis x mx (cellc x my)) (fun x mx => (i11 x mx).nt)
    have ht1 := k12 _ _ (fun m => (i11 _ m).nt _ ht1) ht1
    have htl := k12 _ _ (fun m => notl htl (i11 _ m) rfl) htl
    have n12 : L12.n3 = Lc.n3 := e2
    have a12 : L12.a3 = Lc.a3 := e3
    generalize exR m se (-3) 50 z2 = Q1 at es12 sg3 sg4 ok3 ok4 r1 r2 r3 r4 ⊢
    clear k12 esq11 esc11 e1 e2 e3
    walk_at "rds"
    (try delta tNil)
    refine ⟨qc, t1, L12, Q1.2.1, Q1.2.2, -2, 50, z1, rfl, ht1, es12, ok3, by have := sg3.len; omega, by decide, lz1, fun H13 L13 k13 es13 _ la13 e1 e2 e3 => ?_⟩
    have i12 := es12.three
    rw [n12, a12] at k13 i12
    have esq13 := esq12.bt k13 (fun x mx my => dis x mx (cellc x my)) (fun x mx => (i12 x mx).nt)
    have htl := k13 _ _ (fun m => notl htl (i12 _ m) rfl) htl
    generalize exR Q1.2.1 Q1.2.2 (-2) 50 z1 = Q2 at es13 sg4 ok4 r1 r2 r3 r4 ⊢
    clear k13 esq12 es12 e1 e2 e3 la12 la13
    walk_at "rds"
    intro l2 hl2
    have r1 : Q2.1 = R1.1 := r1.symm
    have r2 : Q1.1 = R2.1 := r2.symm
    rw [r1, r2]
    have u14 := same_upd (o := .lst [.str R1.1, .str R2.1]) hl2
    walk_at "rds"
    have cl2 : (PyData.list [.str R1.1, .str R2.1]).canLay0 = true := by simp [PyData.canLay0, PyData.canLayAll0, strOk_pr an1.1, strOk_pr an2.1]
    have al1 := an1.2
    have al2 := an2.2
    have shp2 : SeqAt.shaped (.list [.str R1.1, .str R2.1]) = true := by
      unfold SeqAt.shaped
      rw [cl2, Bool.true_and]
      refine decide_eq_true ?_
      simp [PyData.depth, PyData.depthAll]
    have dd : ∀ {H' : Hp} {x : Addr}, H' x = some (.lst [.str R1.1, .str R2.1]) → Dp K H' (.ref x) (.list [.str R1.1, .str R2.1]) := fun h => Dt.dp (A := none) _ _ (.lst trivial h (.cons (.str _ (by omega)) (.cons (.str _ (by omega)) .nil)))
    refine ⟨.list [.str R1.1, .str R2.1], .list [.str R1.1, .str R2.1], dd (u14 _ _ htl), dd upd_same, shp2, shp2, ?_⟩
    rw [SeqAt.eqv_refl _ cl2]
    refine ⟨true, rfl, ?_⟩
    have fin : txD (stT R2.2.1 R2.2.2) = txD (stT Q2.2.1 Q2.2.2) := by rw [r3.text, r4.text]
    rw [if_pos rfl]
    have esq14 := esq13.on u14
    have esc14 := es13.on u14
    walk_at "rds"
    (try delta tNil)
    refine ⟨q, L10, R2.2.1, R2.2.2, rfl, esq14, ok2, sg2.seOk, fun H15 s15 => ?_⟩
    walk_at "rds"
    (try delta tNil)
    refine ⟨qc, L13, Q2.2.1, Q2.2.2, rfl, esc14.on s15, ok4, sg4.seOk, fun H16 s16 => ?_⟩
    rw [← fin]
    generalize txD (stT R2.2.1 R2.2.2) = btx
    walk_at "rds"
    show Q (V.bl (decide (V.str btx = V.str btx))) H16
    rw [decide_eq_true rfl]
    exact ret H16
end

theorem fin {C_Accounts : Addr} {C_Sessions : Addr} {C_Store : Addr} {C_State : Addr} {C_BadText : Addr} {C_Refused : Addr} {C_BadCommand : Addr} {C_VERBS : Addr} {P : Program} {w : World} {K : PySem.W.Frag} {mg : Str → Option Value} {fa : Addr} (hfa : mg "law" = some (.ref fa)) (T : Txt K mg w C_Accounts C_Sessions C_Store C_State C_BadText C_Refused C_BadCommand C_VERBS) :
    ∃ fd : FuncData, (∀ (s : Shared) (u : Value), BindsTo s fd ⟨[u], []⟩ [("script", u)]) ∧ ∀ base : Heap, K.In base → base.Ns mainGlobals mg → FnOk P w K mg base L2.CX0 40 fa fd ["script"] (spLaw K) := by
  obtain ⟨f, fd, F, hm, b⟩ := T.d_law.ex
  cases hfa.symm.trans hm
  refine ⟨fd, fun s u => ?_, fun base _ _ => ok_law F T⟩
  obtain ⟨oc, od, kV, doc, pm, an, cdv, ct, osl, rfl, l, _⟩ := F.ex
  exact .of_eq rfl

theorem all_mk {K : PySem.W.Frag} {h : Heap} {mg : Str → Option Value} {w : World} (X : K.In h) (G : h.Ns mainGlobals mg)
    {f_is_printable : Addr} {od_is_printable an_is_printable : Option Addr} {sl_is_printable : Array (Option Value)} {oc_is_printable kV_is_printable dc_is_printable pm_is_printable cd_is_printable ct_is_printable : Value}
    {f_is_short : Addr} {od_is_short an_is_short : Option Addr} {sl_is_short : Array (Option Value)} {oc_is_short kV_is_short dc_is_short pm_is_short cd_is_short ct_is_short : Value}
    {f_is_decimal : Addr} {od_is_decimal an_is_decimal : Option Addr} {sl_is_decimal : Array (Option Value)} {oc_is_decimal kV_is_decimal dc_is_decimal pm_is_decimal cd_is_decimal ct_is_decimal : Value}
    {f_encode : Addr} {od_encode an_encode : Option Addr} {sl_encode : Array (Option Value)} {oc_encode kV_encode dc_encode pm_encode cd_encode ct_encode : Value}
    {f_text_of : Addr} {od_text_of an_text_of : Option Addr} {sl_text_of : Array (Option Value)} {oc_text_of kV_text_of dc_text_of pm_text_of cd_text_of ct_text_of : Value}
    {f_tuple_text : Addr} {od_tuple_text an_tuple_text : Option Addr} {sl_tuple_text : Array (Option Value)} {oc_tuple_text kV_tuple_text dc_tuple_text pm_tuple_text cd_tuple_text ct_tuple_text : Value}
    {f_single_text : Addr} {od_single_text an_single_text : Option Addr} {sl_single_text : Array (Option Value)} {oc_single_text kV_single_text dc_single_text pm_single_text cd_single_text ct_single_text : Value}
    {f_has_few_digits : Addr} {od_has_few_digits an_has_few_digits : Option Addr} {sl_has_few_digits : Array (Option Value)} {oc_has_few_digits kV_has_few_digits dc_has_few_digits pm_has_few_digits cd_has_few_digits ct_has_few_digits : Value}
    {f_parts_of : Addr} {od_parts_of an_parts_of : Option Addr} {sl_parts_of : Array (Option Value)} {oc_parts_of kV_parts_of dc_parts_of pm_parts_of cd_parts_of ct_parts_of : Value}
    {f_words_of : Addr} {od_words_of an_words_of : Option Addr} {sl_words_of : Array (Option Value)} {oc_words_of kV_words_of dc_words_of pm_words_of cd_words_of ct_words_of : Value}
    {f_is_name : Addr} {od_is_name an_is_name : Option Addr} {sl_is_name : Array (Option Value)} {oc_is_name kV_is_name dc_is_name pm_is_name cd_is_name ct_is_name : Value}
    {f_is_key : Addr} {od_is_key an_is_key : Option Addr} {sl_is_key : Array (Option Value)} {oc_is_key kV_is_key dc_is_key pm_is_key cd_is_key ct_is_key : Value}
    {f_is_value : Addr} {od_is_value an_is_value : Option Addr} {sl_is_value : Array (Option Value)} {oc_is_value kV_is_value dc_is_value pm_is_value cd_is_value ct_is_value : Value}
    {f_is_amount : Addr} {od_is_amount an_is_amount : Option Addr} {sl_is_amount : Array (Option Value)} {oc_is_amount kV_is_amount dc_is_amount pm_is_amount cd_is_amount ct_is_amount : Value}
    {f_consists_of : Addr} {od_consists_of an_consists_of : Option Addr} {sl_consists_of : Array (Option Value)} {oc_consists_of kV_consists_of dc_consists_of pm_consists_of cd_consists_of ct_consists_of : Value}
    {f_parse_command : Addr} {od_parse_command an_parse_command : Option Addr} {sl_parse_command : Array (Option Value)} {oc_parse_command kV_parse_command dc_parse_command pm_parse_command cd_parse_command ct_parse_command : Value}
    {f_parse_statement : Addr} {od_parse_statement an_parse_statement : Option Addr} {sl_parse_statement : Array (Option Value)} {oc_parse_statement kV_parse_statement dc_parse_statement pm_parse_statement cd_parse_statement ct_parse_statement : Value}
    {f_parse_argument : Addr} {od_parse_argument an_parse_argument : Option Addr} {sl_parse_argument : Array (Option Value)} {oc_parse_argument kV_parse_argument dc_parse_argument pm_parse_argument cd_parse_argument ct_parse_argument : Value}
    {f_is_of_kind : Addr} {od_is_of_kind an_is_of_kind : Option Addr} {sl_is_of_kind : Array (Option Value)} {oc_is_of_kind kV_is_of_kind dc_is_of_kind pm_is_of_kind cd_is_of_kind ct_is_of_kind : Value}
    {f_run : Addr} {od_run an_run : Option Addr} {sl_run : Array (Option Value)} {oc_run kV_run dc_run pm_run cd_run ct_run : Value}
    {f_perform : Addr} {od_perform an_perform : Option Addr} {sl_perform : Array (Option Value)} {oc_perform kV_perform dc_perform pm_perform cd_perform ct_perform : Value}
    {f_change_accounts : Addr} {od_change_accounts an_change_accounts : Option Addr} {sl_change_accounts : Array (Option Value)} {oc_change_accounts kV_change_accounts dc_change_accounts pm_change_accounts cd_change_accounts ct_change_accounts : Value}
    {f_require : Addr} {od_require an_require : Option Addr} {sl_require : Array (Option Value)} {oc_require kV_require dc_require pm_require cd_require ct_require : Value}
    {f_keys_result : Addr} {od_keys_result an_keys_result : Option Addr} {sl_keys_result : Array (Option Value)} {oc_keys_result kV_keys_result dc_keys_result pm_keys_result cd_keys_result ct_keys_result : Value}
    {f_execute : Addr} {od_execute an_execute : Option Addr} {sl_execute : Array (Option Value)} {oc_execute kV_execute dc_execute pm_execute cd_execute ct_execute : Value}
    {f_run_text : Addr} {od_run_text an_run_text : Option Addr} {sl_run_text : Array (Option Value)} {oc_run_text kV_run_text dc_run_text pm_run_text cd_run_text ct_run_text : Value}
    {f_state_text : Addr} {od_state_text an_state_text : Option Addr} {sl_state_text : Array (Option Value)} {oc_state_text kV_state_text dc_state_text pm_state_text cd_state_text ct_state_text : Value}
    {f__law_cell : Addr} {od__law_cell an__law_cell : Option Addr} {sl__law_cell : Array (Option Value)} {oc__law_cell kV__law_cell dc__law_cell pm__law_cell cd__law_cell ct__law_cell : Value}
    {f__law_word : Addr} {od__law_word an__law_word : Option Addr} {sl__law_word : Array (Option Value)} {oc__law_word kV__law_word dc__law_word pm__law_word cd__law_word ct__law_word : Value}
    {f__law_name : Addr} {od__law_name an__law_name : Option Addr} {sl__law_name : Array (Option Value)} {oc__law_name kV__law_name dc__law_name pm__law_name cd__law_name ct__law_name : Value}
    {f__law_key : Addr} {od__law_key an__law_key : Option Addr} {sl__law_key : Array (Option Value)} {oc__law_key kV__law_key dc__law_key pm__law_key cd__law_key ct__law_key : Value}
    {f__law_value : Addr} {od__law_value an__law_value : Option Addr} {sl__law_value : Array (Option Value)} {oc__law_value kV__law_value dc__law_value pm__law_value cd__law_value ct__law_value : Value}
    {f__law_amount : Addr} {od__law_amount an__law_amount : Option Addr} {sl__law_amount : Array (Option Value)} {oc__law_amount kV__law_amount dc__law_amount pm__law_amount cd__law_amount ct__law_amount : Value}
    {f__law_rich : Addr} {od__law_rich an__law_rich : Option Addr} {sl__law_rich : Array (Option Value)} {oc__law_rich kV__law_rich dc__law_rich pm__law_rich cd__law_rich ct__law_rich : Value}
    {f__law_forms : Addr} {od__law_forms an__law_forms : Option Addr} {sl__law_forms : Array (Option Value)} {oc__law_forms kV__law_forms dc__law_forms pm__law_forms cd__law_forms ct__law_forms : Value}
    {f__law_statement : Addr} {od__law_statement an__law_statement : Option Addr} {sl__law_statement : Array (Option Value)} {oc__law_statement kV__law_statement dc__law_statement pm__law_statement cd__law_statement ct__law_statement : Value}
    {f__law_text : Addr} {od__law_text an__law_text : Option Addr} {sl__law_text : Array (Option Value)} {oc__law_text kV__law_text dc__law_text pm__law_text cd__law_text ct__law_text : Value}
    {f__law_own : Addr} {od__law_own an__law_own : Option Addr} {sl__law_own : Array (Option Value)} {oc__law_own kV__law_own dc__law_own pm__law_own cd__law_own ct__law_own : Value}
    {f__law_command : Addr} {od__law_command an__law_command : Option Addr} {sl__law_command : Array (Option Value)} {oc__law_command kV__law_command dc__law_command pm__law_command cd__law_command ct__law_command : Value}
    {f_law : Addr} {od_law an_law : Option Addr} {sl_law : Array (Option Value)} {oc_law kV_law dc_law pm_law cd_law ct_law : Value}
    {C_Accounts : Addr}
    {f_Accounts____init__ : Addr} {od_Accounts____init__ an_Accounts____init__ : Option Addr} {sl_Accounts____init__ : Array (Option Value)} {oc_Accounts____init__ kV_Accounts____init__ dc_Accounts____init__ pm_Accounts____init__ cd_Accounts____init__ ct_Accounts____init__ : Value}
    {f_Accounts__create : Addr} {od_Accounts__create an_Accounts__create : Option Addr} {sl_Accounts__create : Array (Option Value)} {oc_Accounts__create kV_Accounts__create dc_Accounts__create pm_Accounts__create cd_Accounts__create ct_Accounts__create : Value}
    {f_Accounts__close : Addr} {od_Accounts__close an_Accounts__close : Option Addr} {sl_Accounts__close : Array (Option Value)} {oc_Accounts__close kV_Accounts__close dc_Accounts__close pm_Accounts__close cd_Accounts__close ct_Accounts__close : Value}
    {f_Accounts__issue : Addr} {od_Accounts__issue an_Accounts__issue : Option Addr} {sl_Accounts__issue : Array (Option Value)} {oc_Accounts__issue kV_Accounts__issue dc_Accounts__issue pm_Accounts__issue cd_Accounts__issue ct_Accounts__issue : Value}
    {f_Accounts__burn : Addr} {od_Accounts__burn an_Accounts__burn : Option Addr} {sl_Accounts__burn : Array (Option Value)} {oc_Accounts__burn kV_Accounts__burn dc_Accounts__burn pm_Accounts__burn cd_Accounts__burn ct_Accounts__burn : Value}
    {f_Accounts__pay : Addr} {od_Accounts__pay an_Accounts__pay : Option Addr} {sl_Accounts__pay : Array (Option Value)} {oc_Accounts__pay kV_Accounts__pay dc_Accounts__pay pm_Accounts__pay cd_Accounts__pay ct_Accounts__pay : Value}
    {f_Accounts__hold : Addr} {od_Accounts__hold an_Accounts__hold : Option Addr} {sl_Accounts__hold : Array (Option Value)} {oc_Accounts__hold kV_Accounts__hold dc_Accounts__hold pm_Accounts__hold cd_Accounts__hold ct_Accounts__hold : Value}
    {f_Accounts__settle : Addr} {od_Accounts__settle an_Accounts__settle : Option Addr} {sl_Accounts__settle : Array (Option Value)} {oc_Accounts__settle kV_Accounts__settle dc_Accounts__settle pm_Accounts__settle cd_Accounts__settle ct_Accounts__settle : Value}
    {f_Accounts__release : Addr} {od_Accounts__release an_Accounts__release : Option Addr} {sl_Accounts__release : Array (Option Value)} {oc_Accounts__release kV_Accounts__release dc_Accounts__release pm_Accounts__release cd_Accounts__release ct_Accounts__release : Value}
    {f_Accounts__balance : Addr} {od_Accounts__balance an_Accounts__balance : Option Addr} {sl_Accounts__balance : Array (Option Value)} {oc_Accounts__balance kV_Accounts__balance dc_Accounts__balance pm_Accounts__balance cd_Accounts__balance ct_Accounts__balance : Value}
    {f_Accounts__owner : Addr} {od_Accounts__owner an_Accounts__owner : Option Addr} {sl_Accounts__owner : Array (Option Value)} {oc_Accounts__owner kV_Accounts__owner dc_Accounts__owner pm_Accounts__owner cd_Accounts__owner ct_Accounts__owner : Value}
    {f_Accounts__supply : Addr} {od_Accounts__supply an_Accounts__supply : Option Addr} {sl_Accounts__supply : Array (Option Value)} {oc_Accounts__supply kV_Accounts__supply dc_Accounts__supply pm_Accounts__supply cd_Accounts__supply ct_Accounts__supply : Value}
    {f_Accounts__rows : Addr} {od_Accounts__rows an_Accounts__rows : Option Addr} {sl_Accounts__rows : Array (Option Value)} {oc_Accounts__rows kV_Accounts__rows dc_Accounts__rows pm_Accounts__rows cd_Accounts__rows ct_Accounts__rows : Value}
    {f_Accounts__held : Addr} {od_Accounts__held an_Accounts__held : Option Addr} {sl_Accounts__held : Array (Option Value)} {oc_Accounts__held kV_Accounts__held dc_Accounts__held pm_Accounts__held cd_Accounts__held ct_Accounts__held : Value}
    {f_Accounts__clone : Addr} {od_Accounts__clone an_Accounts__clone : Option Addr} {sl_Accounts__clone : Array (Option Value)} {oc_Accounts__clone kV_Accounts__clone dc_Accounts__clone pm_Accounts__clone cd_Accounts__clone ct_Accounts__clone : Value}
    {f_Accounts___check : Addr} {od_Accounts___check an_Accounts___check : Option Addr} {sl_Accounts___check : Array (Option Value)} {oc_Accounts___check kV_Accounts___check dc_Accounts___check pm_Accounts___check cd_Accounts___check ct_Accounts___check : Value}
    {f_Accounts___check_owner : Addr} {od_Accounts___check_owner an_Accounts___check_owner : Option Addr} {sl_Accounts___check_owner : Array (Option Value)} {oc_Accounts___check_owner kV_Accounts___check_owner dc_Accounts___check_owner pm_Accounts___check_owner cd_Accounts___check_owner ct_Accounts___check_owner : Value}
    {f_Accounts___check_funds : Addr} {od_Accounts___check_funds an_Accounts___check_funds : Option Addr} {sl_Accounts___check_funds : Array (Option Value)} {oc_Accounts___check_funds kV_Accounts___check_funds dc_Accounts___check_funds pm_Accounts___check_funds cd_Accounts___check_funds ct_Accounts___check_funds : Value}
    {f_Accounts___check_payment : Addr} {od_Accounts___check_payment an_Accounts___check_payment : Option Addr} {sl_Accounts___check_payment : Array (Option Value)} {oc_Accounts___check_payment kV_Accounts___check_payment dc_Accounts___check_payment pm_Accounts___check_payment cd_Accounts___check_payment ct_Accounts___check_payment : Value}
    {f_Accounts___hold_of : Addr} {od_Accounts___hold_of an_Accounts___hold_of : Option Addr} {sl_Accounts___hold_of : Array (Option Value)} {oc_Accounts___hold_of kV_Accounts___hold_of dc_Accounts___hold_of pm_Accounts___hold_of cd_Accounts___hold_of ct_Accounts___hold_of : Value}
    {f_Accounts___is_held : Addr} {od_Accounts___is_held an_Accounts___is_held : Option Addr} {sl_Accounts___is_held : Array (Option Value)} {oc_Accounts___is_held kV_Accounts___is_held dc_Accounts___is_held pm_Accounts___is_held cd_Accounts___is_held ct_Accounts___is_held : Value}
    {C_Sessions : Addr}
    {f_Sessions____init__ : Addr} {od_Sessions____init__ an_Sessions____init__ : Option Addr} {sl_Sessions____init__ : Array (Option Value)} {oc_Sessions____init__ kV_Sessions____init__ dc_Sessions____init__ pm_Sessions____init__ cd_Sessions____init__ ct_Sessions____init__ : Value}
    {f_Sessions__last : Addr} {od_Sessions__last an_Sessions__last : Option Addr} {sl_Sessions__last : Array (Option Value)} {oc_Sessions__last kV_Sessions__last dc_Sessions__last pm_Sessions__last cd_Sessions__last ct_Sessions__last : Value}
    {f_Sessions__answer : Addr} {od_Sessions__answer an_Sessions__answer : Option Addr} {sl_Sessions__answer : Array (Option Value)} {oc_Sessions__answer kV_Sessions__answer dc_Sessions__answer pm_Sessions__answer cd_Sessions__answer ct_Sessions__answer : Value}
    {f_Sessions__remember : Addr} {od_Sessions__remember an_Sessions__remember : Option Addr} {sl_Sessions__remember : Array (Option Value)} {oc_Sessions__remember kV_Sessions__remember dc_Sessions__remember pm_Sessions__remember cd_Sessions__remember ct_Sessions__remember : Value}
    {f_Sessions__rows : Addr} {od_Sessions__rows an_Sessions__rows : Option Addr} {sl_Sessions__rows : Array (Option Value)} {oc_Sessions__rows kV_Sessions__rows dc_Sessions__rows pm_Sessions__rows cd_Sessions__rows ct_Sessions__rows : Value}
    {f_Sessions__numbers : Addr} {od_Sessions__numbers an_Sessions__numbers : Option Addr} {sl_Sessions__numbers : Array (Option Value)} {oc_Sessions__numbers kV_Sessions__numbers dc_Sessions__numbers pm_Sessions__numbers cd_Sessions__numbers ct_Sessions__numbers : Value}
    {f_Sessions__clone : Addr} {od_Sessions__clone an_Sessions__clone : Option Addr} {sl_Sessions__clone : Array (Option Value)} {oc_Sessions__clone kV_Sessions__clone dc_Sessions__clone pm_Sessions__clone cd_Sessions__clone ct_Sessions__clone : Value}
    {C_Store : Addr}
    {f_Store____init__ : Addr} {od_Store____init__ an_Store____init__ : Option Addr} {sl_Store____init__ : Array (Option Value)} {oc_Store____init__ kV_Store____init__ dc_Store____init__ pm_Store____init__ cd_Store____init__ ct_Store____init__ : Value}
    {f_Store__put : Addr} {od_Store__put an_Store__put : Option Addr} {sl_Store__put : Array (Option Value)} {oc_Store__put kV_Store__put dc_Store__put pm_Store__put cd_Store__put ct_Store__put : Value}
    {f_Store__read : Addr} {od_Store__read an_Store__read : Option Addr} {sl_Store__read : Array (Option Value)} {oc_Store__read kV_Store__read dc_Store__read pm_Store__read cd_Store__read ct_Store__read : Value}
    {f_Store__drop : Addr} {od_Store__drop an_Store__drop : Option Addr} {sl_Store__drop : Array (Option Value)} {oc_Store__drop kV_Store__drop dc_Store__drop pm_Store__drop cd_Store__drop ct_Store__drop : Value}
    {f_Store__swap : Addr} {od_Store__swap an_Store__swap : Option Addr} {sl_Store__swap : Array (Option Value)} {oc_Store__swap kV_Store__swap dc_Store__swap pm_Store__swap cd_Store__swap ct_Store__swap : Value}
    {f_Store__matching : Addr} {od_Store__matching an_Store__matching : Option Addr} {sl_Store__matching : Array (Option Value)} {oc_Store__matching kV_Store__matching dc_Store__matching pm_Store__matching cd_Store__matching ct_Store__matching : Value}
    {f_Store__rows : Addr} {od_Store__rows an_Store__rows : Option Addr} {sl_Store__rows : Array (Option Value)} {oc_Store__rows kV_Store__rows dc_Store__rows pm_Store__rows cd_Store__rows ct_Store__rows : Value}
    {f_Store__clone : Addr} {od_Store__clone an_Store__clone : Option Addr} {sl_Store__clone : Array (Option Value)} {oc_Store__clone kV_Store__clone dc_Store__clone pm_Store__clone cd_Store__clone ct_Store__clone : Value}
    {f_Store___check : Addr} {od_Store___check an_Store___check : Option Addr} {sl_Store___check : Array (Option Value)} {oc_Store___check kV_Store___check dc_Store___check pm_Store___check cd_Store___check ct_Store___check : Value}
    {f_Store___check_owner : Addr} {od_Store___check_owner an_Store___check_owner : Option Addr} {sl_Store___check_owner : Array (Option Value)} {oc_Store___check_owner kV_Store___check_owner dc_Store___check_owner pm_Store___check_owner cd_Store___check_owner ct_Store___check_owner : Value}
    {C_State : Addr}
    {f_State____init__ : Addr} {od_State____init__ an_State____init__ : Option Addr} {sl_State____init__ : Array (Option Value)} {oc_State____init__ kV_State____init__ dc_State____init__ pm_State____init__ cd_State____init__ ct_State____init__ : Value}
    {f_State__clone : Addr} {od_State__clone an_State__clone : Option Addr} {sl_State__clone : Array (Option Value)} {oc_State__clone kV_State__clone dc_State__clone pm_State__clone cd_State__clone ct_State__clone : Value}
    {C_BadText : Addr}
    {C_Refused : Addr} {nm_Refused qn_Refused : Str} {NN_Refused : Addr} {bs_Refused bm_Refused sub_Refused : List Value} {sn_Refused : List Str} {ab_Refused : Bool} {col_Refused : Option Bool} {dd_Refused : Option Addr} {m0_Refused m1_Refused m2_Refused m3_Refused m5_Refused : Option Value}
    {f_Refused____init__ : Addr} {od_Refused____init__ an_Refused____init__ : Option Addr} {sl_Refused____init__ : Array (Option Value)} {oc_Refused____init__ kV_Refused____init__ dc_Refused____init__ pm_Refused____init__ cd_Refused____init__ ct_Refused____init__ : Value}
    {C_BadCommand : Addr} {nm_BadCommand qn_BadCommand : Str} {NN_BadCommand : Addr} {bs_BadCommand bm_BadCommand sub_BadCommand : List Value} {sn_BadCommand : List Str} {ab_BadCommand : Bool} {col_BadCommand : Option Bool} {dd_BadCommand : Option Addr} {m0_BadCommand m1_BadCommand m2_BadCommand m3_BadCommand m5_BadCommand : Option Value}
    {f_BadCommand____init__ : Addr} {od_BadCommand____init__ an_BadCommand____init__ : Option Addr} {sl_BadCommand____init__ : Array (Option Value)} {oc_BadCommand____init__ kV_BadCommand____init__ dc_BadCommand____init__ pm_BadCommand____init__ cd_BadCommand____init__ ct_BadCommand____init__ : Value}
    {C_VERBS : Addr} {es_VERBS : Array DictEntry} {n_VERBS : Nat}
    {c_VERBS_0 : Addr} {od_VERBS_0 : Option Addr} {sl_VERBS_0 : Array (Option Value)} {n_VERBS_0 : Nat} {t_VERBS_0_0 : Tok}
    {c_VERBS_1 : Addr} {od_VERBS_1 : Option Addr} {sl_VERBS_1 : Array (Option Value)} {n_VERBS_1 : Nat} {t_VERBS_1_0 : Tok}
    {c_VERBS_2 : Addr} {od_VERBS_2 : Option Addr} {sl_VERBS_2 : Array (Option Value)} {n_VERBS_2 : Nat} {t_VERBS_2_0 : Tok} {t_VERBS_2_1 : Tok}
    {c_VERBS_3 : Addr} {od_VERBS_3 : Option Addr} {sl_VERBS_3 : Array (Option Value)} {n_VERBS_3 : Nat} {t_VERBS_3_0 : Tok} {t_VERBS_3_1 : Tok}
    {c_VERBS_4 : Addr} {od_VERBS_4 : Option Addr} {sl_VERBS_4 : Array (Option Value)} {n_VERBS_4 : Nat} {t_VERBS_4_0 : Tok} {t_VERBS_4_1 : Tok} {t_VERBS_4_2 : Tok}
    {c_VERBS_5 : Addr} {od_VERBS_5 : Option Addr} {sl_VERBS_5 : Array (Option Value)} {n_VERBS_5 : Nat} {t_VERBS_5_0 : Tok}
    {c_VERBS_6 : Addr} {od_VERBS_6 : Option Addr} {sl_VERBS_6 : Array (Option Value)} {n_VERBS_6 : Nat} {t_VERBS_6_0 : Tok} {t_VERBS_6_1 : Tok}
    {c_VERBS_7 : Addr} {od_VERBS_7 : Option Addr} {sl_VERBS_7 : Array (Option Value)} {n_VERBS_7 : Nat} {t_VERBS_7_0 : Tok} {t_VERBS_7_1 : Tok} {t_VERBS_7_2 : Tok} {t_VERBS_7_3 : Tok}
    {c_VERBS_8 : Addr} {od_VERBS_8 : Option Addr} {sl_VERBS_8 : Array (Option Value)} {n_VERBS_8 : Nat} {t_VERBS_8_0 : Tok}
    {c_VERBS_9 : Addr} {od_VERBS_9 : Option Addr} {sl_VERBS_9 : Array (Option Value)} {n_VERBS_9 : Nat} {t_VERBS_9_0 : Tok}
    {c_VERBS_10 : Addr} {od_VERBS_10 : Option Addr} {sl_VERBS_10 : Array (Option Value)} {n_VERBS_10 : Nat} {t_VERBS_10_0 : Tok} {t_VERBS_10_1 : Tok}
    {c_VERBS_11 : Addr} {od_VERBS_11 : Option Addr} {sl_VERBS_11 : Array (Option Value)} {n_VERBS_11 : Nat} {t_VERBS_11_0 : Tok}
    {c_VERBS_12 : Addr} {od_VERBS_12 : Option Addr} {sl_VERBS_12 : Array (Option Value)} {n_VERBS_12 : Nat} {t_VERBS_12_0 : Tok}
    {c_VERBS_13 : Addr} {od_VERBS_13 : Option Addr} {sl_VERBS_13 : Array (Option Value)} {n_VERBS_13 : Nat} {t_VERBS_13_0 : Tok} {t_VERBS_13_1 : Tok} {t_VERBS_13_2 : Tok}
    {c_VERBS_14 : Addr} {od_VERBS_14 : Option Addr} {sl_VERBS_14 : Array (Option Value)} {n_VERBS_14 : Nat} {t_VERBS_14_0 : Tok} {t_VERBS_14_1 : Tok}
    {c_VERBS_15 : Addr} {od_VERBS_15 : Option Addr} {sl_VERBS_15 : Array (Option Value)} {n_VERBS_15 : Nat} {t_VERBS_15_0 : Tok}
    {t_ACCOUNT_LIMIT : Tok}
    {t_ENTRY_LIMIT : Tok}
    {t_HOLD_LIMIT : Tok}
    {t_KEY_CHARACTERS : Tok}
    {t_LETTERS : Tok}
    {t_MINT : Tok}
    {t_MOST_AMOUNT : Tok}
    {t_MOST_ANSWER : Tok}
    {t_MOST_DEPTH : Tok}
    {t_MOST_DIGITS : Tok}
    {t_MOST_KEY : Tok}
    {t_MOST_LENGTH : Tok}
    {t_MOST_NAME : Tok}
    {t_MOST_STATE : Tok}
    {t_MOST_TEXT : Tok}
    {t_MOST_VALUE : Tok}
    {t_RESULT_LIMIT : Tok}
    {t_SUPPLY_LIMIT : Tok}
    (a_is_printable : PySem.W.nsIn K mainGlobals "is_printable" = some (some (.ref f_is_printable)))
    (l_is_printable : K.lookup f_is_printable = some ⟨oc_is_printable, od_is_printable, .func (PySem.W.fnOf "is_printable" "is_printable" (defArgs s_is_printable) (defBody s_is_printable) (defScope s_is_printable) .none kV_is_printable dc_is_printable pm_is_printable an_is_printable cd_is_printable ct_is_printable), sl_is_printable⟩)
    (e_is_printable : PySem.W.codeIn K cd_is_printable "is_printable" = true)
    (k_is_printable : PySem.W.keepIn K (.ref f_is_printable) = true)
    (a_is_short : PySem.W.nsIn K mainGlobals "is_short" = some (some (.ref f_is_short)))
    (l_is_short : K.lookup f_is_short = some ⟨oc_is_short, od_is_short, .func (PySem.W.fnOf "is_short" "is_short" (defArgs s_is_short) (defBody s_is_short) (defScope s_is_short) .none kV_is_short dc_is_short pm_is_short an_is_short cd_is_short ct_is_short), sl_is_short⟩)
    (e_is_short : PySem.W.codeIn K cd_is_short "is_short" = true)
    (k_is_short : PySem.W.keepIn K (.ref f_is_short) = true)
    (a_is_decimal : PySem.W.nsIn K mainGlobals "is_decimal" = some (some (.ref f_is_decimal)))
    (l_is_decimal : K.lookup f_is_decimal = some ⟨oc_is_decimal, od_is_decimal, .func (PySem.W.fnOf "is_decimal" "is_decimal" (defArgs s_is_decimal) (defBody s_is_decimal) (defScope s_is_decimal) .none kV_is_decimal dc_is_decimal pm_is_decimal an_is_decimal cd_is_decimal ct_is_decimal), sl_is_decimal⟩)
    (e_is_decimal : PySem.W.codeIn K cd_is_decimal "is_decimal" = true)
    (k_is_decimal : PySem.W.keepIn K (.ref f_is_decimal) = true)
    (a_encode : PySem.W.nsIn K mainGlobals "encode" = some (some (.ref f_encode)))
    (l_encode : K.lookup f_encode = some ⟨oc_encode, od_encode, .func (PySem.W.fnOf "encode" "encode" (defArgs s_encode) (defBody s_encode) (defScope s_encode) .none kV_encode dc_encode pm_encode an_encode cd_encode ct_encode), sl_encode⟩)
    (e_encode : PySem.W.codeIn K cd_encode "encode" = true)
    (k_encode : PySem.W.keepIn K (.ref f_encode) = true)
    (a_text_of : PySem.W.nsIn K mainGlobals "text_of" = some (some (.ref f_text_of)))
    (l_text_of : K.lookup f_text_of = some ⟨oc_text_of, od_text_of, .func (PySem.W.fnOf "text_of" "text_of" (defArgs s_text_of) (defBody s_text_of) (defScope s_text_of) .none kV_text_of dc_text_of pm_text_of an_text_of cd_text_of ct_text_of), sl_text_of⟩)
    (e_text_of : PySem.W.codeIn K cd_text_of "text_of" = true)
    (k_text_of : PySem.W.keepIn K (.ref f_text_of) = true)
    (a_tuple_text : PySem.W.nsIn K mainGlobals "tuple_text" = some (some (.ref f_tuple_text)))
    (l_tuple_text : K.lookup f_tuple_text = some ⟨oc_tuple_text, od_tuple_text, .func (PySem.W.fnOf "tuple_text" "tuple_text" (defArgs s_tuple_text) (defBody s_tuple_text) (defScope s_tuple_text) .none kV_tuple_text dc_tuple_text pm_tuple_text an_tuple_text cd_tuple_text ct_tuple_text), sl_tuple_text⟩)
    (e_tuple_text : PySem.W.codeIn K cd_tuple_text "tuple_text" = true)
    (k_tuple_text : PySem.W.keepIn K (.ref f_tuple_text) = true)
    (a_single_text : PySem.W.nsIn K mainGlobals "single_text" = some (some (.ref f_single_text)))
    (l_single_text : K.lookup f_single_text = some ⟨oc_single_text, od_single_text, .func (PySem.W.fnOf "single_text" "single_text" (defArgs s_single_text) (defBody s_single_text) (defScope s_single_text) .none kV_single_text dc_single_text pm_single_text an_single_text cd_single_text ct_single_text), sl_single_text⟩)
    (e_single_text : PySem.W.codeIn K cd_single_text "single_text" = true)
    (k_single_text : PySem.W.keepIn K (.ref f_single_text) = true)
    (a_has_few_digits : PySem.W.nsIn K mainGlobals "has_few_digits" = some (some (.ref f_has_few_digits)))
    (l_has_few_digits : K.lookup f_has_few_digits = some ⟨oc_has_few_digits, od_has_few_digits, .func (PySem.W.fnOf "has_few_digits" "has_few_digits" (defArgs s_has_few_digits) (defBody s_has_few_digits) (defScope s_has_few_digits) .none kV_has_few_digits dc_has_few_digits pm_has_few_digits an_has_few_digits cd_has_few_digits ct_has_few_digits), sl_has_few_digits⟩)
    (e_has_few_digits : PySem.W.codeIn K cd_has_few_digits "has_few_digits" = true)
    (k_has_few_digits : PySem.W.keepIn K (.ref f_has_few_digits) = true)
    (a_parts_of : PySem.W.nsIn K mainGlobals "parts_of" = some (some (.ref f_parts_of)))
    (l_parts_of : K.lookup f_parts_of = some ⟨oc_parts_of, od_parts_of, .func (PySem.W.fnOf "parts_of" "parts_of" (defArgs s_parts_of) (defBody s_parts_of) (defScope s_parts_of) .none kV_parts_of dc_parts_of pm_parts_of an_parts_of cd_parts_of ct_parts_of), sl_parts_of⟩)
    (e_parts_of : PySem.W.codeIn K cd_parts_of "parts_of" = true)
    (k_parts_of : PySem.W.keepIn K (.ref f_parts_of) = true)
    (a_words_of : PySem.W.nsIn K mainGlobals "words_of" = some (some (.ref f_words_of)))
    (l_words_of : K.lookup f_words_of = some ⟨oc_words_of, od_words_of, .func (PySem.W.fnOf "words_of" "words_of" (defArgs s_words_of) (defBody s_words_of) (defScope s_words_of) .none kV_words_of dc_words_of pm_words_of an_words_of cd_words_of ct_words_of), sl_words_of⟩)
    (e_words_of : PySem.W.codeIn K cd_words_of "words_of" = true)
    (k_words_of : PySem.W.keepIn K (.ref f_words_of) = true)
    (a_is_name : PySem.W.nsIn K mainGlobals "is_name" = some (some (.ref f_is_name)))
    (l_is_name : K.lookup f_is_name = some ⟨oc_is_name, od_is_name, .func (PySem.W.fnOf "is_name" "is_name" (defArgs s_is_name) (defBody s_is_name) (defScope s_is_name) .none kV_is_name dc_is_name pm_is_name an_is_name cd_is_name ct_is_name), sl_is_name⟩)
    (e_is_name : PySem.W.codeIn K cd_is_name "is_name" = true)
    (k_is_name : PySem.W.keepIn K (.ref f_is_name) = true)
    (a_is_key : PySem.W.nsIn K mainGlobals "is_key" = some (some (.ref f_is_key)))
    (l_is_key : K.lookup f_is_key = some ⟨oc_is_key, od_is_key, .func (PySem.W.fnOf "is_key" "is_key" (defArgs s_is_key) (defBody s_is_key) (defScope s_is_key) .none kV_is_key dc_is_key pm_is_key an_is_key cd_is_key ct_is_key), sl_is_key⟩)
    (e_is_key : PySem.W.codeIn K cd_is_key "is_key" = true)
    (k_is_key : PySem.W.keepIn K (.ref f_is_key) = true)
    (a_is_value : PySem.W.nsIn K mainGlobals "is_value" = some (some (.ref f_is_value)))
    (l_is_value : K.lookup f_is_value = some ⟨oc_is_value, od_is_value, .func (PySem.W.fnOf "is_value" "is_value" (defArgs s_is_value) (defBody s_is_value) (defScope s_is_value) .none kV_is_value dc_is_value pm_is_value an_is_value cd_is_value ct_is_value), sl_is_value⟩)
    (e_is_value : PySem.W.codeIn K cd_is_value "is_value" = true)
    (k_is_value : PySem.W.keepIn K (.ref f_is_value) = true)
    (a_is_amount : PySem.W.nsIn K mainGlobals "is_amount" = some (some (.ref f_is_amount)))
    (l_is_amount : K.lookup f_is_amount = some ⟨oc_is_amount, od_is_amount, .func (PySem.W.fnOf "is_amount" "is_amount" (defArgs s_is_amount) (defBody s_is_amount) (defScope s_is_amount) .none kV_is_amount dc_is_amount pm_is_amount an_is_amount cd_is_amount ct_is_amount), sl_is_amount⟩)
    (e_is_amount : PySem.W.codeIn K cd_is_amount "is_amount" = true)
    (k_is_amount : PySem.W.keepIn K (.ref f_is_amount) = true)
    (a_consists_of : PySem.W.nsIn K mainGlobals "consists_of" = some (some (.ref f_consists_of)))
    (l_consists_of : K.lookup f_consists_of = some ⟨oc_consists_of, od_consists_of, .func (PySem.W.fnOf "consists_of" "consists_of" (defArgs s_consists_of) (defBody s_consists_of) (defScope s_consists_of) .none kV_consists_of dc_consists_of pm_consists_of an_consists_of cd_consists_of ct_consists_of), sl_consists_of⟩)
    (e_consists_of : PySem.W.codeIn K cd_consists_of "consists_of" = true)
    (k_consists_of : PySem.W.keepIn K (.ref f_consists_of) = true)
    (a_parse_command : PySem.W.nsIn K mainGlobals "parse_command" = some (some (.ref f_parse_command)))
    (l_parse_command : K.lookup f_parse_command = some ⟨oc_parse_command, od_parse_command, .func (PySem.W.fnOf "parse_command" "parse_command" (defArgs s_parse_command) (defBody s_parse_command) (defScope s_parse_command) .none kV_parse_command dc_parse_command pm_parse_command an_parse_command cd_parse_command ct_parse_command), sl_parse_command⟩)
    (e_parse_command : PySem.W.codeIn K cd_parse_command "parse_command" = true)
    (k_parse_command : PySem.W.keepIn K (.ref f_parse_command) = true)
    (a_parse_statement : PySem.W.nsIn K mainGlobals "parse_statement" = some (some (.ref f_parse_statement)))
    (l_parse_statement : K.lookup f_parse_statement = some ⟨oc_parse_statement, od_parse_statement, .func (PySem.W.fnOf "parse_statement" "parse_statement" (defArgs s_parse_statement) (defBody s_parse_statement) (defScope s_parse_statement) .none kV_parse_statement dc_parse_statement pm_parse_statement an_parse_statement cd_parse_statement ct_parse_statement), sl_parse_statement⟩)
    (e_parse_statement : PySem.W.codeIn K cd_parse_statement "parse_statement" = true)
    (k_parse_statement : PySem.W.keepIn K (.ref f_parse_statement) = true)
    (a_parse_argument : PySem.W.nsIn K mainGlobals "parse_argument" = some (some (.ref f_parse_argument)))
    (l_parse_argument : K.lookup f_parse_argument = some ⟨oc_parse_argument, od_parse_argument, .func (PySem.W.fnOf "parse_argument" "parse_argument" (defArgs s_parse_argument) (defBody s_parse_argument) (defScope s_parse_argument) .none kV_parse_argument dc_parse_argument pm_parse_argument an_parse_argument cd_parse_argument ct_parse_argument), sl_parse_argument⟩)
    (e_parse_argument : PySem.W.codeIn K cd_parse_argument "parse_argument" = true)
    (k_parse_argument : PySem.W.keepIn K (.ref f_parse_argument) = true)
    (a_is_of_kind : PySem.W.nsIn K mainGlobals "is_of_kind" = some (some (.ref f_is_of_kind)))
    (l_is_of_kind : K.lookup f_is_of_kind = some ⟨oc_is_of_kind, od_is_of_kind, .func (PySem.W.fnOf "is_of_kind" "is_of_kind" (defArgs s_is_of_kind) (defBody s_is_of_kind) (defScope s_is_of_kind) .none kV_is_of_kind dc_is_of_kind pm_is_of_kind an_is_of_kind cd_is_of_kind ct_is_of_kind), sl_is_of_kind⟩)
    (e_is_of_kind : PySem.W.codeIn K cd_is_of_kind "is_of_kind" = true)
    (k_is_of_kind : PySem.W.keepIn K (.ref f_is_of_kind) = true)
    (a_run : PySem.W.nsIn K mainGlobals "run" = some (some (.ref f_run)))
    (l_run : K.lookup f_run = some ⟨oc_run, od_run, .func (PySem.W.fnOf "run" "run" (defArgs s_run) (defBody s_run) (defScope s_run) .none kV_run dc_run pm_run an_run cd_run ct_run), sl_run⟩)
    (e_run : PySem.W.codeIn K cd_run "run" = true)
    (k_run : PySem.W.keepIn K (.ref f_run) = true)
    (a_perform : PySem.W.nsIn K mainGlobals "perform" = some (some (.ref f_perform)))
    (l_perform : K.lookup f_perform = some ⟨oc_perform, od_perform, .func (PySem.W.fnOf "perform" "perform" (defArgs s_perform) (defBody s_perform) (defScope s_perform) .none kV_perform dc_perform pm_perform an_perform cd_perform ct_perform), sl_perform⟩)
    (e_perform : PySem.W.codeIn K cd_perform "perform" = true)
    (k_perform : PySem.W.keepIn K (.ref f_perform) = true)
    (a_change_accounts : PySem.W.nsIn K mainGlobals "change_accounts" = some (some (.ref f_change_accounts)))
    (l_change_accounts : K.lookup f_change_accounts = some ⟨oc_change_accounts, od_change_accounts, .func (PySem.W.fnOf "change_accounts" "change_accounts" (defArgs s_change_accounts) (defBody s_change_accounts) (defScope s_change_accounts) .none kV_change_accounts dc_change_accounts pm_change_accounts an_change_accounts cd_change_accounts ct_change_accounts), sl_change_accounts⟩)
    (e_change_accounts : PySem.W.codeIn K cd_change_accounts "change_accounts" = true)
    (k_change_accounts : PySem.W.keepIn K (.ref f_change_accounts) = true)
    (a_require : PySem.W.nsIn K mainGlobals "require" = some (some (.ref f_require)))
    (l_require : K.lookup f_require = some ⟨oc_require, od_require, .func (PySem.W.fnOf "require" "require" (defArgs s_require) (defBody s_require) (defScope s_require) .none kV_require dc_require pm_require an_require cd_require ct_require), sl_require⟩)
    (e_require : PySem.W.codeIn K cd_require "require" = true)
    (k_require : PySem.W.keepIn K (.ref f_require) = true)
    (a_keys_result : PySem.W.nsIn K mainGlobals "keys_result" = some (some (.ref f_keys_result)))
    (l_keys_result : K.lookup f_keys_result = some ⟨oc_keys_result, od_keys_result, .func (PySem.W.fnOf "keys_result" "keys_result" (defArgs s_keys_result) (defBody s_keys_result) (defScope s_keys_result) .none kV_keys_result dc_keys_result pm_keys_result an_keys_result cd_keys_result ct_keys_result), sl_keys_result⟩)
    (e_keys_result : PySem.W.codeIn K cd_keys_result "keys_result" = true)
    (k_keys_result : PySem.W.keepIn K (.ref f_keys_result) = true)
    (a_execute : PySem.W.nsIn K mainGlobals "execute" = some (some (.ref f_execute)))
    (l_execute : K.lookup f_execute = some ⟨oc_execute, od_execute, .func (PySem.W.fnOf "execute" "execute" (defArgs s_execute) (defBody s_execute) (defScope s_execute) .none kV_execute dc_execute pm_execute an_execute cd_execute ct_execute), sl_execute⟩)
    (e_execute : PySem.W.codeIn K cd_execute "execute" = true)
    (k_execute : PySem.W.keepIn K (.ref f_execute) = true)
    (a_run_text : PySem.W.nsIn K mainGlobals "run_text" = some (some (.ref f_run_text)))
    (l_run_text : K.lookup f_run_text = some ⟨oc_run_text, od_run_text, .func (PySem.W.fnOf "run_text" "run_text" (defArgs s_run_text) (defBody s_run_text) (defScope s_run_text) .none kV_run_text dc_run_text pm_run_text an_run_text cd_run_text ct_run_text), sl_run_text⟩)
    (e_run_text : PySem.W.codeIn K cd_run_text "run_text" = true)
    (k_run_text : PySem.W.keepIn K (.ref f_run_text) = true)
    (a_state_text : PySem.W.nsIn K mainGlobals "state_text" = some (some (.ref f_state_text)))
    (l_state_text : K.lookup f_state_text = some ⟨oc_state_text, od_state_text, .func (PySem.W.fnOf "state_text" "state_text" (defArgs s_state_text) (defBody s_state_text) (defScope s_state_text) .none kV_state_text dc_state_text pm_state_text an_state_text cd_state_text ct_state_text), sl_state_text⟩)
    (e_state_text : PySem.W.codeIn K cd_state_text "state_text" = true)
    (k_state_text : PySem.W.keepIn K (.ref f_state_text) = true)
    (a__law_cell : PySem.W.nsIn K mainGlobals "_law_cell" = some (some (.ref f__law_cell)))
    (l__law_cell : K.lookup f__law_cell = some ⟨oc__law_cell, od__law_cell, .func (PySem.W.fnOf "_law_cell" "_law_cell" (defArgs s__law_cell) (defBody s__law_cell) (defScope s__law_cell) .none kV__law_cell dc__law_cell pm__law_cell an__law_cell cd__law_cell ct__law_cell), sl__law_cell⟩)
    (e__law_cell : PySem.W.codeIn K cd__law_cell "_law_cell" = true)
    (k__law_cell : PySem.W.keepIn K (.ref f__law_cell) = true)
    (a__law_word : PySem.W.nsIn K mainGlobals "_law_word" = some (some (.ref f__law_word)))
    (l__law_word : K.lookup f__law_word = some ⟨oc__law_word, od__law_word, .func (PySem.W.fnOf "_law_word" "_law_word" (defArgs s__law_word) (defBody s__law_word) (defScope s__law_word) .none kV__law_word dc__law_word pm__law_word an__law_word cd__law_word ct__law_word), sl__law_word⟩)
    (e__law_word : PySem.W.codeIn K cd__law_word "_law_word" = true)
    (k__law_word : PySem.W.keepIn K (.ref f__law_word) = true)
    (a__law_name : PySem.W.nsIn K mainGlobals "_law_name" = some (some (.ref f__law_name)))
    (l__law_name : K.lookup f__law_name = some ⟨oc__law_name, od__law_name, .func (PySem.W.fnOf "_law_name" "_law_name" (defArgs s__law_name) (defBody s__law_name) (defScope s__law_name) .none kV__law_name dc__law_name pm__law_name an__law_name cd__law_name ct__law_name), sl__law_name⟩)
    (e__law_name : PySem.W.codeIn K cd__law_name "_law_name" = true)
    (k__law_name : PySem.W.keepIn K (.ref f__law_name) = true)
    (a__law_key : PySem.W.nsIn K mainGlobals "_law_key" = some (some (.ref f__law_key)))
    (l__law_key : K.lookup f__law_key = some ⟨oc__law_key, od__law_key, .func (PySem.W.fnOf "_law_key" "_law_key" (defArgs s__law_key) (defBody s__law_key) (defScope s__law_key) .none kV__law_key dc__law_key pm__law_key an__law_key cd__law_key ct__law_key), sl__law_key⟩)
    (e__law_key : PySem.W.codeIn K cd__law_key "_law_key" = true)
    (k__law_key : PySem.W.keepIn K (.ref f__law_key) = true)
    (a__law_value : PySem.W.nsIn K mainGlobals "_law_value" = some (some (.ref f__law_value)))
    (l__law_value : K.lookup f__law_value = some ⟨oc__law_value, od__law_value, .func (PySem.W.fnOf "_law_value" "_law_value" (defArgs s__law_value) (defBody s__law_value) (defScope s__law_value) .none kV__law_value dc__law_value pm__law_value an__law_value cd__law_value ct__law_value), sl__law_value⟩)
    (e__law_value : PySem.W.codeIn K cd__law_value "_law_value" = true)
    (k__law_value : PySem.W.keepIn K (.ref f__law_value) = true)
    (a__law_amount : PySem.W.nsIn K mainGlobals "_law_amount" = some (some (.ref f__law_amount)))
    (l__law_amount : K.lookup f__law_amount = some ⟨oc__law_amount, od__law_amount, .func (PySem.W.fnOf "_law_amount" "_law_amount" (defArgs s__law_amount) (defBody s__law_amount) (defScope s__law_amount) .none kV__law_amount dc__law_amount pm__law_amount an__law_amount cd__law_amount ct__law_amount), sl__law_amount⟩)
    (e__law_amount : PySem.W.codeIn K cd__law_amount "_law_amount" = true)
    (k__law_amount : PySem.W.keepIn K (.ref f__law_amount) = true)
    (a__law_rich : PySem.W.nsIn K mainGlobals "_law_rich" = some (some (.ref f__law_rich)))
    (l__law_rich : K.lookup f__law_rich = some ⟨oc__law_rich, od__law_rich, .func (PySem.W.fnOf "_law_rich" "_law_rich" (defArgs s__law_rich) (defBody s__law_rich) (defScope s__law_rich) .none kV__law_rich dc__law_rich pm__law_rich an__law_rich cd__law_rich ct__law_rich), sl__law_rich⟩)
    (e__law_rich : PySem.W.codeIn K cd__law_rich "_law_rich" = true)
    (k__law_rich : PySem.W.keepIn K (.ref f__law_rich) = true)
    (a__law_forms : PySem.W.nsIn K mainGlobals "_law_forms" = some (some (.ref f__law_forms)))
    (l__law_forms : K.lookup f__law_forms = some ⟨oc__law_forms, od__law_forms, .func (PySem.W.fnOf "_law_forms" "_law_forms" (defArgs s__law_forms) (defBody s__law_forms) (defScope s__law_forms) .none kV__law_forms dc__law_forms pm__law_forms an__law_forms cd__law_forms ct__law_forms), sl__law_forms⟩)
    (e__law_forms : PySem.W.codeIn K cd__law_forms "_law_forms" = true)
    (k__law_forms : PySem.W.keepIn K (.ref f__law_forms) = true)
    (a__law_statement : PySem.W.nsIn K mainGlobals "_law_statement" = some (some (.ref f__law_statement)))
    (l__law_statement : K.lookup f__law_statement = some ⟨oc__law_statement, od__law_statement, .func (PySem.W.fnOf "_law_statement" "_law_statement" (defArgs s__law_statement) (defBody s__law_statement) (defScope s__law_statement) .none kV__law_statement dc__law_statement pm__law_statement an__law_statement cd__law_statement ct__law_statement), sl__law_statement⟩)
    (e__law_statement : PySem.W.codeIn K cd__law_statement "_law_statement" = true)
    (k__law_statement : PySem.W.keepIn K (.ref f__law_statement) = true)
    (a__law_text : PySem.W.nsIn K mainGlobals "_law_text" = some (some (.ref f__law_text)))
    (l__law_text : K.lookup f__law_text = some ⟨oc__law_text, od__law_text, .func (PySem.W.fnOf "_law_text" "_law_text" (defArgs s__law_text) (defBody s__law_text) (defScope s__law_text) .none kV__law_text dc__law_text pm__law_text an__law_text cd__law_text ct__law_text), sl__law_text⟩)
    (e__law_text : PySem.W.codeIn K cd__law_text "_law_text" = true)
    (k__law_text : PySem.W.keepIn K (.ref f__law_text) = true)
    (a__law_own : PySem.W.nsIn K mainGlobals "_law_own" = some (some (.ref f__law_own)))
    (l__law_own : K.lookup f__law_own = some ⟨oc__law_own, od__law_own, .func (PySem.W.fnOf "_law_own" "_law_own" (defArgs s__law_own) (defBody s__law_own) (defScope s__law_own) .none kV__law_own dc__law_own pm__law_own an__law_own cd__law_own ct__law_own), sl__law_own⟩)
    (e__law_own : PySem.W.codeIn K cd__law_own "_law_own" = true)
    (k__law_own : PySem.W.keepIn K (.ref f__law_own) = true)
    (a__law_command : PySem.W.nsIn K mainGlobals "_law_command" = some (some (.ref f__law_command)))
    (l__law_command : K.lookup f__law_command = some ⟨oc__law_command, od__law_command, .func (PySem.W.fnOf "_law_command" "_law_command" (defArgs s__law_command) (defBody s__law_command) (defScope s__law_command) .none kV__law_command dc__law_command pm__law_command an__law_command cd__law_command ct__law_command), sl__law_command⟩)
    (e__law_command : PySem.W.codeIn K cd__law_command "_law_command" = true)
    (k__law_command : PySem.W.keepIn K (.ref f__law_command) = true)
    (a_law : PySem.W.nsIn K mainGlobals "law" = some (some (.ref f_law)))
    (l_law : K.lookup f_law = some ⟨oc_law, od_law, .func (PySem.W.fnOf "law" "law" (defArgs s_law) (defBody s_law) (defScope s_law) .none kV_law dc_law pm_law an_law cd_law ct_law), sl_law⟩)
    (e_law : PySem.W.codeIn K cd_law "law" = true)
    (k_law : PySem.W.keepIn K (.ref f_law) = true)
    (ac_Accounts : PySem.W.nsIn K mainGlobals "Accounts" = some (some (.ref C_Accounts)))
    (pg_Accounts : PySem.W.plainGet K C_Accounts Str.empty = true)
    (hd_Accounts : PySem.W.hasDictIn K C_Accounts = true)
    (po_Accounts : PySem.W.plainOver K C_Accounts = true)
    (sa_Accounts : PySem.W.findIn K (.ref C_Accounts) "__setattr__" = some (some (.builtin "object.__setattr__")))
    (mk_Accounts : PySem.W.makesIn K C_Accounts = true)
    (kc_Accounts : PySem.W.keepIn K (.ref C_Accounts) = true)
    (na_Accounts__owners : PySem.W.findIn K (.ref C_Accounts) "_owners" = some none)
    (na_Accounts__balances : PySem.W.findIn K (.ref C_Accounts) "_balances" = some none)
    (na_Accounts__holds : PySem.W.findIn K (.ref C_Accounts) "_holds" = some none)
    (na_Accounts__supply : PySem.W.findIn K (.ref C_Accounts) "_supply" = some none)
    (a_Accounts____init__ : PySem.W.findIn K (.ref C_Accounts) "__init__" = some (some (.ref f_Accounts____init__)))
    (i_Accounts____init__ : PySem.W.isFn K (.ref f_Accounts____init__) = true)
    (l_Accounts____init__ : K.lookup f_Accounts____init__ = some ⟨oc_Accounts____init__, od_Accounts____init__, .func (PySem.W.fnOf "__init__" "Accounts.__init__" (defArgs s_Accounts____init__) (defBody s_Accounts____init__) (defScope s_Accounts____init__) .none kV_Accounts____init__ dc_Accounts____init__ pm_Accounts____init__ an_Accounts____init__ cd_Accounts____init__ ct_Accounts____init__), sl_Accounts____init__⟩)
    (e_Accounts____init__ : PySem.W.codeIn K cd_Accounts____init__ "Accounts.__init__" = true)
    (k_Accounts____init__ : PySem.W.keepIn K (.ref f_Accounts____init__) = true)
    (a_Accounts__create : PySem.W.findIn K (.ref C_Accounts) "create" = some (some (.ref f_Accounts__create)))
    (i_Accounts__create : PySem.W.isFn K (.ref f_Accounts__create) = true)
    (l_Accounts__create : K.lookup f_Accounts__create = some ⟨oc_Accounts__create, od_Accounts__create, .func (PySem.W.fnOf "create" "Accounts.create" (defArgs s_Accounts__create) (defBody s_Accounts__create) (defScope s_Accounts__create) .none kV_Accounts__create dc_Accounts__create pm_Accounts__create an_Accounts__create cd_Accounts__create ct_Accounts__create), sl_Accounts__create⟩)
    (e_Accounts__create : PySem.W.codeIn K cd_Accounts__create "Accounts.create" = true)
    (k_Accounts__create : PySem.W.keepIn K (.ref f_Accounts__create) = true)
    (a_Accounts__close : PySem.W.findIn K (.ref C_Accounts) "close" = some (some (.ref f_Accounts__close)))
    (i_Accounts__close : PySem.W.isFn K (.ref f_Accounts__close) = true)
    (l_Accounts__close : K.lookup f_Accounts__close = some ⟨oc_Accounts__close, od_Accounts__close, .func (PySem.W.fnOf "close" "Accounts.close" (defArgs s_Accounts__close) (defBody s_Accounts__close) (defScope s_Accounts__close) .none kV_Accounts__close dc_Accounts__close pm_Accounts__close an_Accounts__close cd_Accounts__close ct_Accounts__close), sl_Accounts__close⟩)
    (e_Accounts__close : PySem.W.codeIn K cd_Accounts__close "Accounts.close" = true)
    (k_Accounts__close : PySem.W.keepIn K (.ref f_Accounts__close) = true)
    (a_Accounts__issue : PySem.W.findIn K (.ref C_Accounts) "issue" = some (some (.ref f_Accounts__issue)))
    (i_Accounts__issue : PySem.W.isFn K (.ref f_Accounts__issue) = true)
    (l_Accounts__issue : K.lookup f_Accounts__issue = some ⟨oc_Accounts__issue, od_Accounts__issue, .func (PySem.W.fnOf "issue" "Accounts.issue" (defArgs s_Accounts__issue) (defBody s_Accounts__issue) (defScope s_Accounts__issue) .none kV_Accounts__issue dc_Accounts__issue pm_Accounts__issue an_Accounts__issue cd_Accounts__issue ct_Accounts__issue), sl_Accounts__issue⟩)
    (e_Accounts__issue : PySem.W.codeIn K cd_Accounts__issue "Accounts.issue" = true)
    (k_Accounts__issue : PySem.W.keepIn K (.ref f_Accounts__issue) = true)
    (a_Accounts__burn : PySem.W.findIn K (.ref C_Accounts) "burn" = some (some (.ref f_Accounts__burn)))
    (i_Accounts__burn : PySem.W.isFn K (.ref f_Accounts__burn) = true)
    (l_Accounts__burn : K.lookup f_Accounts__burn = some ⟨oc_Accounts__burn, od_Accounts__burn, .func (PySem.W.fnOf "burn" "Accounts.burn" (defArgs s_Accounts__burn) (defBody s_Accounts__burn) (defScope s_Accounts__burn) .none kV_Accounts__burn dc_Accounts__burn pm_Accounts__burn an_Accounts__burn cd_Accounts__burn ct_Accounts__burn), sl_Accounts__burn⟩)
    (e_Accounts__burn : PySem.W.codeIn K cd_Accounts__burn "Accounts.burn" = true)
    (k_Accounts__burn : PySem.W.keepIn K (.ref f_Accounts__burn) = true)
    (a_Accounts__pay : PySem.W.findIn K (.ref C_Accounts) "pay" = some (some (.ref f_Accounts__pay)))
    (i_Accounts__pay : PySem.W.isFn K (.ref f_Accounts__pay) = true)
    (l_Accounts__pay : K.lookup f_Accounts__pay = some ⟨oc_Accounts__pay, od_Accounts__pay, .func (PySem.W.fnOf "pay" "Accounts.pay" (defArgs s_Accounts__pay) (defBody s_Accounts__pay) (defScope s_Accounts__pay) .none kV_Accounts__pay dc_Accounts__pay pm_Accounts__pay an_Accounts__pay cd_Accounts__pay ct_Accounts__pay), sl_Accounts__pay⟩)
    (e_Accounts__pay : PySem.W.codeIn K cd_Accounts__pay "Accounts.pay" = true)
    (k_Accounts__pay : PySem.W.keepIn K (.ref f_Accounts__pay) = true)
    (a_Accounts__hold : PySem.W.findIn K (.ref C_Accounts) "hold" = some (some (.ref f_Accounts__hold)))
    (i_Accounts__hold : PySem.W.isFn K (.ref f_Accounts__hold) = true)
    (l_Accounts__hold : K.lookup f_Accounts__hold = some ⟨oc_Accounts__hold, od_Accounts__hold, .func (PySem.W.fnOf "hold" "Accounts.hold" (defArgs s_Accounts__hold) (defBody s_Accounts__hold) (defScope s_Accounts__hold) .none kV_Accounts__hold dc_Accounts__hold pm_Accounts__hold an_Accounts__hold cd_Accounts__hold ct_Accounts__hold), sl_Accounts__hold⟩)
    (e_Accounts__hold : PySem.W.codeIn K cd_Accounts__hold "Accounts.hold" = true)
    (k_Accounts__hold : PySem.W.keepIn K (.ref f_Accounts__hold) = true)
    (a_Accounts__settle : PySem.W.findIn K (.ref C_Accounts) "settle" = some (some (.ref f_Accounts__settle)))
    (i_Accounts__settle : PySem.W.isFn K (.ref f_Accounts__settle) = true)
    (l_Accounts__settle : K.lookup f_Accounts__settle = some ⟨oc_Accounts__settle, od_Accounts__settle, .func (PySem.W.fnOf "settle" "Accounts.settle" (defArgs s_Accounts__settle) (defBody s_Accounts__settle) (defScope s_Accounts__settle) .none kV_Accounts__settle dc_Accounts__settle pm_Accounts__settle an_Accounts__settle cd_Accounts__settle ct_Accounts__settle), sl_Accounts__settle⟩)
    (e_Accounts__settle : PySem.W.codeIn K cd_Accounts__settle "Accounts.settle" = true)
    (k_Accounts__settle : PySem.W.keepIn K (.ref f_Accounts__settle) = true)
    (a_Accounts__release : PySem.W.findIn K (.ref C_Accounts) "release" = some (some (.ref f_Accounts__release)))
    (i_Accounts__release : PySem.W.isFn K (.ref f_Accounts__release) = true)
    (l_Accounts__release : K.lookup f_Accounts__release = some ⟨oc_Accounts__release, od_Accounts__release, .func (PySem.W.fnOf "release" "Accounts.release" (defArgs s_Accounts__release) (defBody s_Accounts__release) (defScope s_Accounts__release) .none kV_Accounts__release dc_Accounts__release pm_Accounts__release an_Accounts__release cd_Accounts__release ct_Accounts__release), sl_Accounts__release⟩)
    (e_Accounts__release : PySem.W.codeIn K cd_Accounts__release "Accounts.release" = true)
    (k_Accounts__release : PySem.W.keepIn K (.ref f_Accounts__release) = true)
    (a_Accounts__balance : PySem.W.findIn K (.ref C_Accounts) "balance" = some (some (.ref f_Accounts__balance)))
    (i_Accounts__balance : PySem.W.isFn K (.ref f_Accounts__balance) = true)
    (l_Accounts__balance : K.lookup f_Accounts__balance = some ⟨oc_Accounts__balance, od_Accounts__balance, .func (PySem.W.fnOf "balance" "Accounts.balance" (defArgs s_Accounts__balance) (defBody s_Accounts__balance) (defScope s_Accounts__balance) .none kV_Accounts__balance dc_Accounts__balance pm_Accounts__balance an_Accounts__balance cd_Accounts__balance ct_Accounts__balance), sl_Accounts__balance⟩)
    (e_Accounts__balance : PySem.W.codeIn K cd_Accounts__balance "Accounts.balance" = true)
    (k_Accounts__balance : PySem.W.keepIn K (.ref f_Accounts__balance) = true)
    (a_Accounts__owner : PySem.W.findIn K (.ref C_Accounts) "owner" = some (some (.ref f_Accounts__owner)))
    (i_Accounts__owner : PySem.W.isFn K (.ref f_Accounts__owner) = true)
    (l_Accounts__owner : K.lookup f_Accounts__owner = some ⟨oc_Accounts__owner, od_Accounts__owner, .func (PySem.W.fnOf "owner" "Accounts.owner" (defArgs s_Accounts__owner) (defBody s_Accounts__owner) (defScope s_Accounts__owner) .none kV_Accounts__owner dc_Accounts__owner pm_Accounts__owner an_Accounts__owner cd_Accounts__owner ct_Accounts__owner), sl_Accounts__owner⟩)
    (e_Accounts__owner : PySem.W.codeIn K cd_Accounts__owner "Accounts.owner" = true)
    (k_Accounts__owner : PySem.W.keepIn K (.ref f_Accounts__owner) = true)
    (a_Accounts__supply : PySem.W.findIn K (.ref C_Accounts) "supply" = some (some (.ref f_Accounts__supply)))
    (i_Accounts__supply : PySem.W.isFn K (.ref f_Accounts__supply) = true)
    (l_Accounts__supply : K.lookup f_Accounts__supply = some ⟨oc_Accounts__supply, od_Accounts__supply, .func (PySem.W.fnOf "supply" "Accounts.supply" (defArgs s_Accounts__supply) (defBody s_Accounts__supply) (defScope s_Accounts__supply) .none kV_Accounts__supply dc_Accounts__supply pm_Accounts__supply an_Accounts__supply cd_Accounts__supply ct_Accounts__supply), sl_Accounts__supply⟩)
    (e_Accounts__supply : PySem.W.codeIn K cd_Accounts__supply "Accounts.supply" = true)
    (k_Accounts__supply : PySem.W.keepIn K (.ref f_Accounts__supply) = true)
    (a_Accounts__rows : PySem.W.findIn K (.ref C_Accounts) "rows" = some (some (.ref f_Accounts__rows)))
    (i_Accounts__rows : PySem.W.isFn K (.ref f_Accounts__rows) = true)
    (l_Accounts__rows : K.lookup f_Accounts__rows = some ⟨oc_Accounts__rows, od_Accounts__rows, .func (PySem.W.fnOf "rows" "Accounts.rows" (defArgs s_Accounts__rows) (defBody s_Accounts__rows) (defScope s_Accounts__rows) .none kV_Accounts__rows dc_Accounts__rows pm_Accounts__rows an_Accounts__rows cd_Accounts__rows ct_Accounts__rows), sl_Accounts__rows⟩)
    (e_Accounts__rows : PySem.W.codeIn K cd_Accounts__rows "Accounts.rows" = true)
    (k_Accounts__rows : PySem.W.keepIn K (.ref f_Accounts__rows) = true)
    (a_Accounts__held : PySem.W.findIn K (.ref C_Accounts) "held" = some (some (.ref f_Accounts__held)))
    (i_Accounts__held : PySem.W.isFn K (.ref f_Accounts__held) = true)
    (l_Accounts__held : K.lookup f_Accounts__held = some ⟨oc_Accounts__held, od_Accounts__held, .func (PySem.W.fnOf "held" "Accounts.held" (defArgs s_Accounts__held) (defBody s_Accounts__held) (defScope s_Accounts__held) .none kV_Accounts__held dc_Accounts__held pm_Accounts__held an_Accounts__held cd_Accounts__held ct_Accounts__held), sl_Accounts__held⟩)
    (e_Accounts__held : PySem.W.codeIn K cd_Accounts__held "Accounts.held" = true)
    (k_Accounts__held : PySem.W.keepIn K (.ref f_Accounts__held) = true)
    (a_Accounts__clone : PySem.W.findIn K (.ref C_Accounts) "clone" = some (some (.ref f_Accounts__clone)))
    (i_Accounts__clone : PySem.W.isFn K (.ref f_Accounts__clone) = true)
    (l_Accounts__clone : K.lookup f_Accounts__clone = some ⟨oc_Accounts__clone, od_Accounts__clone, .func (PySem.W.fnOf "clone" "Accounts.clone" (defArgs s_Accounts__clone) (defBody s_Accounts__clone) (defScope s_Accounts__clone) .none kV_Accounts__clone dc_Accounts__clone pm_Accounts__clone an_Accounts__clone cd_Accounts__clone ct_Accounts__clone), sl_Accounts__clone⟩)
    (e_Accounts__clone : PySem.W.codeIn K cd_Accounts__clone "Accounts.clone" = true)
    (k_Accounts__clone : PySem.W.keepIn K (.ref f_Accounts__clone) = true)
    (a_Accounts___check : PySem.W.findIn K (.ref C_Accounts) "_check" = some (some (.ref f_Accounts___check)))
    (i_Accounts___check : PySem.W.isFn K (.ref f_Accounts___check) = true)
    (l_Accounts___check : K.lookup f_Accounts___check = some ⟨oc_Accounts___check, od_Accounts___check, .func (PySem.W.fnOf "_check" "Accounts._check" (defArgs s_Accounts___check) (defBody s_Accounts___check) (defScope s_Accounts___check) .none kV_Accounts___check dc_Accounts___check pm_Accounts___check an_Accounts___check cd_Accounts___check ct_Accounts___check), sl_Accounts___check⟩)
    (e_Accounts___check : PySem.W.codeIn K cd_Accounts___check "Accounts._check" = true)
    (k_Accounts___check : PySem.W.keepIn K (.ref f_Accounts___check) = true)
    (a_Accounts___check_owner : PySem.W.findIn K (.ref C_Accounts) "_check_owner" = some (some (.ref f_Accounts___check_owner)))
    (i_Accounts___check_owner : PySem.W.isFn K (.ref f_Accounts___check_owner) = true)
    (l_Accounts___check_owner : K.lookup f_Accounts___check_owner = some ⟨oc_Accounts___check_owner, od_Accounts___check_owner, .func (PySem.W.fnOf "_check_owner" "Accounts._check_owner" (defArgs s_Accounts___check_owner) (defBody s_Accounts___check_owner) (defScope s_Accounts___check_owner) .none kV_Accounts___check_owner dc_Accounts___check_owner pm_Accounts___check_owner an_Accounts___check_owner cd_Accounts___check_owner ct_Accounts___check_owner), sl_Accounts___check_owner⟩)
    (e_Accounts___check_owner : PySem.W.codeIn K cd_Accounts___check_owner "Accounts._check_owner" = true)
    (k_Accounts___check_owner : PySem.W.keepIn K (.ref f_Accounts___check_owner) = true)
    (a_Accounts___check_funds : PySem.W.findIn K (.ref C_Accounts) "_check_funds" = some (some (.ref f_Accounts___check_funds)))
    (i_Accounts___check_funds : PySem.W.isFn K (.ref f_Accounts___check_funds) = true)
    (l_Accounts___check_funds : K.lookup f_Accounts___check_funds = some ⟨oc_Accounts___check_funds, od_Accounts___check_funds, .func (PySem.W.fnOf "_check_funds" "Accounts._check_funds" (defArgs s_Accounts___check_funds) (defBody s_Accounts___check_funds) (defScope s_Accounts___check_funds) .none kV_Accounts___check_funds dc_Accounts___check_funds pm_Accounts___check_funds an_Accounts___check_funds cd_Accounts___check_funds ct_Accounts___check_funds), sl_Accounts___check_funds⟩)
    (e_Accounts___check_funds : PySem.W.codeIn K cd_Accounts___check_funds "Accounts._check_funds" = true)
    (k_Accounts___check_funds : PySem.W.keepIn K (.ref f_Accounts___check_funds) = true)
    (a_Accounts___check_payment : PySem.W.findIn K (.ref C_Accounts) "_check_payment" = some (some (.ref f_Accounts___check_payment)))
    (i_Accounts___check_payment : PySem.W.isFn K (.ref f_Accounts___check_payment) = true)
    (l_Accounts___check_payment : K.lookup f_Accounts___check_payment = some ⟨oc_Accounts___check_payment, od_Accounts___check_payment, .func (PySem.W.fnOf "_check_payment" "Accounts._check_payment" (defArgs s_Accounts___check_payment) (defBody s_Accounts___check_payment) (defScope s_Accounts___check_payment) .none kV_Accounts___check_payment dc_Accounts___check_payment pm_Accounts___check_payment an_Accounts___check_payment cd_Accounts___check_payment ct_Accounts___check_payment), sl_Accounts___check_payment⟩)
    (e_Accounts___check_payment : PySem.W.codeIn K cd_Accounts___check_payment "Accounts._check_payment" = true)
    (k_Accounts___check_payment : PySem.W.keepIn K (.ref f_Accounts___check_payment) = true)
    (a_Accounts___hold_of : PySem.W.findIn K (.ref C_Accounts) "_hold_of" = some (some (.ref f_Accounts___hold_of)))
    (i_Accounts___hold_of : PySem.W.isFn K (.ref f_Accounts___hold_of) = true)
    (l_Accounts___hold_of : K.lookup f_Accounts___hold_of = some ⟨oc_Accounts___hold_of, od_Accounts___hold_of, .func (PySem.W.fnOf "_hold_of" "Accounts._hold_of" (defArgs s_Accounts___hold_of) (defBody s_Accounts___hold_of) (defScope s_Accounts___hold_of) .none kV_Accounts___hold_of dc_Accounts___hold_of pm_Accounts___hold_of an_Accounts___hold_of cd_Accounts___hold_of ct_Accounts___hold_of), sl_Accounts___hold_of⟩)
    (e_Accounts___hold_of : PySem.W.codeIn K cd_Accounts___hold_of "Accounts._hold_of" = true)
    (k_Accounts___hold_of : PySem.W.keepIn K (.ref f_Accounts___hold_of) = true)
    (a_Accounts___is_held : PySem.W.findIn K (.ref C_Accounts) "_is_held" = some (some (.ref f_Accounts___is_held)))
    (i_Accounts___is_held : PySem.W.isFn K (.ref f_Accounts___is_held) = true)
    (l_Accounts___is_held : K.lookup f_Accounts___is_held = some ⟨oc_Accounts___is_held, od_Accounts___is_held, .func (PySem.W.fnOf "_is_held" "Accounts._is_held" (defArgs s_Accounts___is_held) (defBody s_Accounts___is_held) (defScope s_Accounts___is_held) .none kV_Accounts___is_held dc_Accounts___is_held pm_Accounts___is_held an_Accounts___is_held cd_Accounts___is_held ct_Accounts___is_held), sl_Accounts___is_held⟩)
    (e_Accounts___is_held : PySem.W.codeIn K cd_Accounts___is_held "Accounts._is_held" = true)
    (k_Accounts___is_held : PySem.W.keepIn K (.ref f_Accounts___is_held) = true)
    (ac_Sessions : PySem.W.nsIn K mainGlobals "Sessions" = some (some (.ref C_Sessions)))
    (pg_Sessions : PySem.W.plainGet K C_Sessions Str.empty = true)
    (hd_Sessions : PySem.W.hasDictIn K C_Sessions = true)
    (po_Sessions : PySem.W.plainOver K C_Sessions = true)
    (sa_Sessions : PySem.W.findIn K (.ref C_Sessions) "__setattr__" = some (some (.builtin "object.__setattr__")))
    (mk_Sessions : PySem.W.makesIn K C_Sessions = true)
    (kc_Sessions : PySem.W.keepIn K (.ref C_Sessions) = true)
    (na_Sessions__numbers : PySem.W.findIn K (.ref C_Sessions) "_numbers" = some none)
    (na_Sessions__answers : PySem.W.findIn K (.ref C_Sessions) "_answers" = some none)
    (a_Sessions____init__ : PySem.W.findIn K (.ref C_Sessions) "__init__" = some (some (.ref f_Sessions____init__)))
    (i_Sessions____init__ : PySem.W.isFn K (.ref f_Sessions____init__) = true)
    (l_Sessions____init__ : K.lookup f_Sessions____init__ = some ⟨oc_Sessions____init__, od_Sessions____init__, .func (PySem.W.fnOf "__init__" "Sessions.__init__" (defArgs s_Sessions____init__) (defBody s_Sessions____init__) (defScope s_Sessions____init__) .none kV_Sessions____init__ dc_Sessions____init__ pm_Sessions____init__ an_Sessions____init__ cd_Sessions____init__ ct_Sessions____init__), sl_Sessions____init__⟩)
    (e_Sessions____init__ : PySem.W.codeIn K cd_Sessions____init__ "Sessions.__init__" = true)
    (k_Sessions____init__ : PySem.W.keepIn K (.ref f_Sessions____init__) = true)
    (a_Sessions__last : PySem.W.findIn K (.ref C_Sessions) "last" = some (some (.ref f_Sessions__last)))
    (i_Sessions__last : PySem.W.isFn K (.ref f_Sessions__last) = true)
    (l_Sessions__last : K.lookup f_Sessions__last = some ⟨oc_Sessions__last, od_Sessions__last, .func (PySem.W.fnOf "last" "Sessions.last" (defArgs s_Sessions__last) (defBody s_Sessions__last) (defScope s_Sessions__last) .none kV_Sessions__last dc_Sessions__last pm_Sessions__last an_Sessions__last cd_Sessions__last ct_Sessions__last), sl_Sessions__last⟩)
    (e_Sessions__last : PySem.W.codeIn K cd_Sessions__last "Sessions.last" = true)
    (k_Sessions__last : PySem.W.keepIn K (.ref f_Sessions__last) = true)
    (a_Sessions__answer : PySem.W.findIn K (.ref C_Sessions) "answer" = some (some (.ref f_Sessions__answer)))
    (i_Sessions__answer : PySem.W.isFn K (.ref f_Sessions__answer) = true)
    (l_Sessions__answer : K.lookup f_Sessions__answer = some ⟨oc_Sessions__answer, od_Sessions__answer, .func (PySem.W.fnOf "answer" "Sessions.answer" (defArgs s_Sessions__answer) (defBody s_Sessions__answer) (defScope s_Sessions__answer) .none kV_Sessions__answer dc_Sessions__answer pm_Sessions__answer an_Sessions__answer cd_Sessions__answer ct_Sessions__answer), sl_Sessions__answer⟩)
    (e_Sessions__answer : PySem.W.codeIn K cd_Sessions__answer "Sessions.answer" = true)
    (k_Sessions__answer : PySem.W.keepIn K (.ref f_Sessions__answer) = true)
    (a_Sessions__remember : PySem.W.findIn K (.ref C_Sessions) "remember" = some (some (.ref f_Sessions__remember)))
    (i_Sessions__remember : PySem.W.isFn K (.ref f_Sessions__remember) = true)
    (l_Sessions__remember : K.lookup f_Sessions__remember = some ⟨oc_Sessions__remember, od_Sessions__remember, .func (PySem.W.fnOf "remember" "Sessions.remember" (defArgs s_Sessions__remember) (defBody s_Sessions__remember) (defScope s_Sessions__remember) .none kV_Sessions__remember dc_Sessions__remember pm_Sessions__remember an_Sessions__remember cd_Sessions__remember ct_Sessions__remember), sl_Sessions__remember⟩)
    (e_Sessions__remember : PySem.W.codeIn K cd_Sessions__remember "Sessions.remember" = true)
    (k_Sessions__remember : PySem.W.keepIn K (.ref f_Sessions__remember) = true)
    (a_Sessions__rows : PySem.W.findIn K (.ref C_Sessions) "rows" = some (some (.ref f_Sessions__rows)))
    (i_Sessions__rows : PySem.W.isFn K (.ref f_Sessions__rows) = true)
    (l_Sessions__rows : K.lookup f_Sessions__rows = some ⟨oc_Sessions__rows, od_Sessions__rows, .func (PySem.W.fnOf "rows" "Sessions.rows" (defArgs s_Sessions__rows) (defBody s_Sessions__rows) (defScope s_Sessions__rows) .none kV_Sessions__rows dc_Sessions__rows pm_Sessions__rows an_Sessions__rows cd_Sessions__rows ct_Sessions__rows), sl_Sessions__rows⟩)
    (e_Sessions__rows : PySem.W.codeIn K cd_Sessions__rows "Sessions.rows" = true)
    (k_Sessions__rows : PySem.W.keepIn K (.ref f_Sessions__rows) = true)
    (a_Sessions__numbers : PySem.W.findIn K (.ref C_Sessions) "numbers" = some (some (.ref f_Sessions__numbers)))
    (i_Sessions__numbers : PySem.W.isFn K (.ref f_Sessions__numbers) = true)
    (l_Sessions__numbers : K.lookup f_Sessions__numbers = some ⟨oc_Sessions__numbers, od_Sessions__numbers, .func (PySem.W.fnOf "numbers" "Sessions.numbers" (defArgs s_Sessions__numbers) (defBody s_Sessions__numbers) (defScope s_Sessions__numbers) .none kV_Sessions__numbers dc_Sessions__numbers pm_Sessions__numbers an_Sessions__numbers cd_Sessions__numbers ct_Sessions__numbers), sl_Sessions__numbers⟩)
    (e_Sessions__numbers : PySem.W.codeIn K cd_Sessions__numbers "Sessions.numbers" = true)
    (k_Sessions__numbers : PySem.W.keepIn K (.ref f_Sessions__numbers) = true)
    (a_Sessions__clone : PySem.W.findIn K (.ref C_Sessions) "clone" = some (some (.ref f_Sessions__clone)))
    (i_Sessions__clone : PySem.W.isFn K (.ref f_Sessions__clone) = true)
    (l_Sessions__clone : K.lookup f_Sessions__clone = some ⟨oc_Sessions__clone, od_Sessions__clone, .func (PySem.W.fnOf "clone" "Sessions.clone" (defArgs s_Sessions__clone) (defBody s_Sessions__clone) (defScope s_Sessions__clone) .none kV_Sessions__clone dc_Sessions__clone pm_Sessions__clone an_Sessions__clone cd_Sessions__clone ct_Sessions__clone), sl_Sessions__clone⟩)
    (e_Sessions__clone : PySem.W.codeIn K cd_Sessions__clone "Sessions.clone" = true)
    (k_Sessions__clone : PySem.W.keepIn K (.ref f_Sessions__clone) = true)
    (ac_Store : PySem.W.nsIn K mainGlobals "Store" = some (some (.ref C_Store)))
    (pg_Store : PySem.W.plainGet K C_Store Str.empty = true)
    (hd_Store : PySem.W.hasDictIn K C_Store = true)
    (po_Store : PySem.W.plainOver K C_Store = true)
    (sa_Store : PySem.W.findIn K (.ref C_Store) "__setattr__" = some (some (.builtin "object.__setattr__")))
    (mk_Store : PySem.W.makesIn K C_Store = true)
    (kc_Store : PySem.W.keepIn K (.ref C_Store) = true)
    (na_Store__owners : PySem.W.findIn K (.ref C_Store) "_owners" = some none)
    (na_Store__values : PySem.W.findIn K (.ref C_Store) "_values" = some none)
    (a_Store____init__ : PySem.W.findIn K (.ref C_Store) "__init__" = some (some (.ref f_Store____init__)))
    (i_Store____init__ : PySem.W.isFn K (.ref f_Store____init__) = true)
    (l_Store____init__ : K.lookup f_Store____init__ = some ⟨oc_Store____init__, od_Store____init__, .func (PySem.W.fnOf "__init__" "Store.__init__" (defArgs s_Store____init__) (defBody s_Store____init__) (defScope s_Store____init__) .none kV_Store____init__ dc_Store____init__ pm_Store____init__ an_Store____init__ cd_Store____init__ ct_Store____init__), sl_Store____init__⟩)
    (e_Store____init__ : PySem.W.codeIn K cd_Store____init__ "Store.__init__" = true)
    (k_Store____init__ : PySem.W.keepIn K (.ref f_Store____init__) = true)
    (a_Store__put : PySem.W.findIn K (.ref C_Store) "put" = some (some (.ref f_Store__put)))
    (i_Store__put : PySem.W.isFn K (.ref f_Store__put) = true)
    (l_Store__put : K.lookup f_Store__put = some ⟨oc_Store__put, od_Store__put, .func (PySem.W.fnOf "put" "Store.put" (defArgs s_Store__put) (defBody s_Store__put) (defScope s_Store__put) .none kV_Store__put dc_Store__put pm_Store__put an_Store__put cd_Store__put ct_Store__put), sl_Store__put⟩)
    (e_Store__put : PySem.W.codeIn K cd_Store__put "Store.put" = true)
    (k_Store__put : PySem.W.keepIn K (.ref f_Store__put) = true)
    (a_Store__read : PySem.W.findIn K (.ref C_Store) "read" = some (some (.ref f_Store__read)))
    (i_Store__read : PySem.W.isFn K (.ref f_Store__read) = true)
    (l_Store__read : K.lookup f_Store__read = some ⟨oc_Store__read, od_Store__read, .func (PySem.W.fnOf "read" "Store.read" (defArgs s_Store__read) (defBody s_Store__read) (defScope s_Store__read) .none kV_Store__read dc_Store__read pm_Store__read an_Store__read cd_Store__read ct_Store__read), sl_Store__read⟩)
    (e_Store__read : PySem.W.codeIn K cd_Store__read "Store.read" = true)
    (k_Store__read : PySem.W.keepIn K (.ref f_Store__read) = true)
    (a_Store__drop : PySem.W.findIn K (.ref C_Store) "drop" = some (some (.ref f_Store__drop)))
    (i_Store__drop : PySem.W.isFn K (.ref f_Store__drop) = true)
    (l_Store__drop : K.lookup f_Store__drop = some ⟨oc_Store__drop, od_Store__drop, .func (PySem.W.fnOf "drop" "Store.drop" (defArgs s_Store__drop) (defBody s_Store__drop) (defScope s_Store__drop) .none kV_Store__drop dc_Store__drop pm_Store__drop an_Store__drop cd_Store__drop ct_Store__drop), sl_Store__drop⟩)
    (e_Store__drop : PySem.W.codeIn K cd_Store__drop "Store.drop" = true)
    (k_Store__drop : PySem.W.keepIn K (.ref f_Store__drop) = true)
    (a_Store__swap : PySem.W.findIn K (.ref C_Store) "swap" = some (some (.ref f_Store__swap)))
    (i_Store__swap : PySem.W.isFn K (.ref f_Store__swap) = true)
    (l_Store__swap : K.lookup f_Store__swap = some ⟨oc_Store__swap, od_Store__swap, .func (PySem.W.fnOf "swap" "Store.swap" (defArgs s_Store__swap) (defBody s_Store__swap) (defScope s_Store__swap) .none kV_Store__swap dc_Store__swap pm_Store__swap an_Store__swap cd_Store__swap ct_Store__swap), sl_Store__swap⟩)
    (e_Store__swap : PySem.W.codeIn K cd_Store__swap "Store.swap" = true)
    (k_Store__swap : PySem.W.keepIn K (.ref f_Store__swap) = true)
    (a_Store__matching : PySem.W.findIn K (.ref C_Store) "matching" = some (some (.ref f_Store__matching)))
    (i_Store__matching : PySem.W.isFn K (.ref f_Store__matching) = true)
    (l_Store__matching : K.lookup f_Store__matching = some ⟨oc_Store__matching, od_Store__matching, .func (PySem.W.fnOf "matching" "Store.matching" (defArgs s_Store__matching) (defBody s_Store__matching) (defScope s_Store__matching) .none kV_Store__matching dc_Store__matching pm_Store__matching an_Store__matching cd_Store__matching ct_Store__matching), sl_Store__matching⟩)
    (e_Store__matching : PySem.W.codeIn K cd_Store__matching "Store.matching" = true)
    (k_Store__matching : PySem.W.keepIn K (.ref f_Store__matching) = true)
    (a_Store__rows : PySem.W.findIn K (.ref C_Store) "rows" = some (some (.ref f_Store__rows)))
    (i_Store__rows : PySem.W.isFn K (.ref f_Store__rows) = true)
    (l_Store__rows : K.lookup f_Store__rows = some ⟨oc_Store__rows, od_Store__rows, .func (PySem.W.fnOf "rows" "Store.rows" (defArgs s_Store__rows) (defBody s_Store__rows) (defScope s_Store__rows) .none kV_Store__rows dc_Store__rows pm_Store__rows an_Store__rows cd_Store__rows ct_Store__rows), sl_Store__rows⟩)
    (e_Store__rows : PySem.W.codeIn K cd_Store__rows "Store.rows" = true)
    (k_Store__rows : PySem.W.keepIn K (.ref f_Store__rows) = true)
    (a_Store__clone : PySem.W.findIn K (.ref C_Store) "clone" = some (some (.ref f_Store__clone)))
    (i_Store__clone : PySem.W.isFn K (.ref f_Store__clone) = true)
    (l_Store__clone : K.lookup f_Store__clone = some ⟨oc_Store__clone, od_Store__clone, .func (PySem.W.fnOf "clone" "Store.clone" (defArgs s_Store__clone) (defBody s_Store__clone) (defScope s_Store__clone) .none kV_Store__clone dc_Store__clone pm_Store__clone an_Store__clone cd_Store__clone ct_Store__clone), sl_Store__clone⟩)
    (e_Store__clone : PySem.W.codeIn K cd_Store__clone "Store.clone" = true)
    (k_Store__clone : PySem.W.keepIn K (.ref f_Store__clone) = true)
    (a_Store___check : PySem.W.findIn K (.ref C_Store) "_check" = some (some (.ref f_Store___check)))
    (i_Store___check : PySem.W.isFn K (.ref f_Store___check) = true)
    (l_Store___check : K.lookup f_Store___check = some ⟨oc_Store___check, od_Store___check, .func (PySem.W.fnOf "_check" "Store._check" (defArgs s_Store___check) (defBody s_Store___check) (defScope s_Store___check) .none kV_Store___check dc_Store___check pm_Store___check an_Store___check cd_Store___check ct_Store___check), sl_Store___check⟩)
    (e_Store___check : PySem.W.codeIn K cd_Store___check "Store._check" = true)
    (k_Store___check : PySem.W.keepIn K (.ref f_Store___check) = true)
    (a_Store___check_owner : PySem.W.findIn K (.ref C_Store) "_check_owner" = some (some (.ref f_Store___check_owner)))
    (i_Store___check_owner : PySem.W.isFn K (.ref f_Store___check_owner) = true)
    (l_Store___check_owner : K.lookup f_Store___check_owner = some ⟨oc_Store___check_owner, od_Store___check_owner, .func (PySem.W.fnOf "_check_owner" "Store._check_owner" (defArgs s_Store___check_owner) (defBody s_Store___check_owner) (defScope s_Store___check_owner) .none kV_Store___check_owner dc_Store___check_owner pm_Store___check_owner an_Store___check_owner cd_Store___check_owner ct_Store___check_owner), sl_Store___check_owner⟩)
    (e_Store___check_owner : PySem.W.codeIn K cd_Store___check_owner "Store._check_owner" = true)
    (k_Store___check_owner : PySem.W.keepIn K (.ref f_Store___check_owner) = true)
    (ac_State : PySem.W.nsIn K mainGlobals "State" = some (some (.ref C_State)))
    (pg_State : PySem.W.plainGet K C_State Str.empty = true)
    (hd_State : PySem.W.hasDictIn K C_State = true)
    (po_State : PySem.W.plainOver K C_State = true)
    (sa_State : PySem.W.findIn K (.ref C_State) "__setattr__" = some (some (.builtin "object.__setattr__")))
    (mk_State : PySem.W.makesIn K C_State = true)
    (kc_State : PySem.W.keepIn K (.ref C_State) = true)
    (na_State_accounts : PySem.W.findIn K (.ref C_State) "accounts" = some none)
    (na_State_store : PySem.W.findIn K (.ref C_State) "store" = some none)
    (na_State_sessions : PySem.W.findIn K (.ref C_State) "sessions" = some none)
    (a_State____init__ : PySem.W.findIn K (.ref C_State) "__init__" = some (some (.ref f_State____init__)))
    (i_State____init__ : PySem.W.isFn K (.ref f_State____init__) = true)
    (l_State____init__ : K.lookup f_State____init__ = some ⟨oc_State____init__, od_State____init__, .func (PySem.W.fnOf "__init__" "State.__init__" (defArgs s_State____init__) (defBody s_State____init__) (defScope s_State____init__) .none kV_State____init__ dc_State____init__ pm_State____init__ an_State____init__ cd_State____init__ ct_State____init__), sl_State____init__⟩)
    (e_State____init__ : PySem.W.codeIn K cd_State____init__ "State.__init__" = true)
    (k_State____init__ : PySem.W.keepIn K (.ref f_State____init__) = true)
    (a_State__clone : PySem.W.findIn K (.ref C_State) "clone" = some (some (.ref f_State__clone)))
    (i_State__clone : PySem.W.isFn K (.ref f_State__clone) = true)
    (l_State__clone : K.lookup f_State__clone = some ⟨oc_State__clone, od_State__clone, .func (PySem.W.fnOf "clone" "State.clone" (defArgs s_State__clone) (defBody s_State__clone) (defScope s_State__clone) .none kV_State__clone dc_State__clone pm_State__clone an_State__clone cd_State__clone ct_State__clone), sl_State__clone⟩)
    (e_State__clone : PySem.W.codeIn K cd_State__clone "State.clone" = true)
    (k_State__clone : PySem.W.keepIn K (.ref f_State__clone) = true)
    (xa_BadText : PySem.W.nsIn K mainGlobals "BadText" = some (some (.ref C_BadText)))
    (xe_BadText : PySem.W.excIn K C_BadText [.type "ValueError", .type "Exception", .type "BaseException", .type "object"] "ValueError.__new__" = true)
    (xk_BadText : PySem.W.keepIn K (.ref C_BadText) = true)
    (xb_BadText : PySem.W.subIn K (.ref C_BadText) (.type "BaseException") = some true)
    (xt_BadText : PySem.W.typeIn K (.ref C_BadText) = some (.type "type"))
    (xh_BadText : PySem.W.hasDictIn K C_BadText = true)
    (xa_Refused : PySem.W.nsIn K mainGlobals "Refused" = some (some (.ref C_Refused)))
    (xl_Refused : K.lookup C_Refused = some (excClassObj nm_Refused qn_Refused C_Refused NN_Refused bs_Refused bm_Refused true sn_Refused sub_Refused ab_Refused col_Refused dd_Refused m0_Refused m1_Refused m2_Refused m3_Refused m5_Refused "ValueError.__new__"))
    (xr_Refused : PySem.HandSPX.refsVE bm_Refused = true)
    (xs_Refused : PySem.W.findIn K (.ref C_Refused) "__setattr__" = some (some (.builtin "object.__setattr__")))
    (xk_Refused : PySem.W.keepIn K (.ref C_Refused) = true)
    (xb_Refused : PySem.W.subIn K (.ref C_Refused) (.type "BaseException") = some true)
    (xt_Refused : PySem.W.typeIn K (.ref C_Refused) = some (.type "type"))
    (xh_Refused : PySem.W.hasDictIn K C_Refused = true)
    (xg_Refused : PySem.W.findIn K (.ref C_Refused) "__getattribute__" = some (some (.builtin "BaseException.__getattribute__")))
    (xq_Refused : PySem.W.findIn K (.ref C_Refused) "__getattr__" = some none)
    (xn_Refused_reason : PySem.W.findIn K (.ref C_Refused) "reason" = some none)
    (a_Refused____init__ : PySem.W.findIn K (.ref C_Refused) "__init__" = some (some (.ref f_Refused____init__)))
    (ty_Refused____init__ : PySem.W.typeIn K (.ref f_Refused____init__) = some (.type "function"))
    (l_Refused____init__ : K.lookup f_Refused____init__ = some ⟨oc_Refused____init__, od_Refused____init__, .func (PySem.W.fnOf "__init__" "Refused.__init__" (defArgs s_Refused____init__) (defBody s_Refused____init__) (defScope s_Refused____init__) .none kV_Refused____init__ dc_Refused____init__ pm_Refused____init__ an_Refused____init__ cd_Refused____init__ ct_Refused____init__), sl_Refused____init__⟩)
    (e_Refused____init__ : PySem.W.codeIn K cd_Refused____init__ "Refused.__init__" = true)
    (k_Refused____init__ : PySem.W.keepIn K (.ref f_Refused____init__) = true)
    (xa_BadCommand : PySem.W.nsIn K mainGlobals "BadCommand" = some (some (.ref C_BadCommand)))
    (xl_BadCommand : K.lookup C_BadCommand = some (excClassObj nm_BadCommand qn_BadCommand C_BadCommand NN_BadCommand bs_BadCommand bm_BadCommand true sn_BadCommand sub_BadCommand ab_BadCommand col_BadCommand dd_BadCommand m0_BadCommand m1_BadCommand m2_BadCommand m3_BadCommand m5_BadCommand "ValueError.__new__"))
    (xr_BadCommand : PySem.HandSPX.refsVE bm_BadCommand = true)
    (xs_BadCommand : PySem.W.findIn K (.ref C_BadCommand) "__setattr__" = some (some (.builtin "object.__setattr__")))
    (xk_BadCommand : PySem.W.keepIn K (.ref C_BadCommand) = true)
    (xb_BadCommand : PySem.W.subIn K (.ref C_BadCommand) (.type "BaseException") = some true)
    (xt_BadCommand : PySem.W.typeIn K (.ref C_BadCommand) = some (.type "type"))
    (xh_BadCommand : PySem.W.hasDictIn K C_BadCommand = true)
    (xg_BadCommand : PySem.W.findIn K (.ref C_BadCommand) "__getattribute__" = some (some (.builtin "BaseException.__getattribute__")))
    (xq_BadCommand : PySem.W.findIn K (.ref C_BadCommand) "__getattr__" = some none)
    (xn_BadCommand_reason : PySem.W.findIn K (.ref C_BadCommand) "reason" = some none)
    (xn_BadCommand_statement : PySem.W.findIn K (.ref C_BadCommand) "statement" = some none)
    (a_BadCommand____init__ : PySem.W.findIn K (.ref C_BadCommand) "__init__" = some (some (.ref f_BadCommand____init__)))
    (ty_BadCommand____init__ : PySem.W.typeIn K (.ref f_BadCommand____init__) = some (.type "function"))
    (l_BadCommand____init__ : K.lookup f_BadCommand____init__ = some ⟨oc_BadCommand____init__, od_BadCommand____init__, .func (PySem.W.fnOf "__init__" "BadCommand.__init__" (defArgs s_BadCommand____init__) (defBody s_BadCommand____init__) (defScope s_BadCommand____init__) .none kV_BadCommand____init__ dc_BadCommand____init__ pm_BadCommand____init__ an_BadCommand____init__ cd_BadCommand____init__ ct_BadCommand____init__), sl_BadCommand____init__⟩)
    (e_BadCommand____init__ : PySem.W.codeIn K cd_BadCommand____init__ "BadCommand.__init__" = true)
    (k_BadCommand____init__ : PySem.W.keepIn K (.ref f_BadCommand____init__) = true)
    (a_VERBS : PySem.W.nsIn K mainGlobals "VERBS" = some (some (.ref C_VERBS)))
    (l_VERBS : K.lookup C_VERBS = some ⟨.type "dict", none, .dict es_VERBS n_VERBS, #[]⟩)
    (kl_VERBS : PySem.W.KeysLit w.params es_VERBS.toList)
    (lo_VERBS : (C_VERBS == sysModules) = false)
    (v_VERBS_0 : PySem.W.nsIn K C_VERBS "open" = some (some (.ref c_VERBS_0)))
    (l_VERBS_0 : K.lookup c_VERBS_0 = some ⟨.type "tuple", od_VERBS_0, .seq #[.str "name" t_VERBS_0_0] n_VERBS_0, sl_VERBS_0⟩)
    (v_VERBS_1 : PySem.W.nsIn K C_VERBS "close" = some (some (.ref c_VERBS_1)))
    (l_VERBS_1 : K.lookup c_VERBS_1 = some ⟨.type "tuple", od_VERBS_1, .seq #[.str "name" t_VERBS_1_0] n_VERBS_1, sl_VERBS_1⟩)
    (v_VERBS_2 : PySem.W.nsIn K C_VERBS "issue" = some (some (.ref c_VERBS_2)))
    (l_VERBS_2 : K.lookup c_VERBS_2 = some ⟨.type "tuple", od_VERBS_2, .seq #[.str "name" t_VERBS_2_0, .str "amount" t_VERBS_2_1] n_VERBS_2, sl_VERBS_2⟩)
    (v_VERBS_3 : PySem.W.nsIn K C_VERBS "burn" = some (some (.ref c_VERBS_3)))
    (l_VERBS_3 : K.lookup c_VERBS_3 = some ⟨.type "tuple", od_VERBS_3, .seq #[.str "name" t_VERBS_3_0, .str "amount" t_VERBS_3_1] n_VERBS_3, sl_VERBS_3⟩)
    (v_VERBS_4 : PySem.W.nsIn K C_VERBS "pay" = some (some (.ref c_VERBS_4)))
    (l_VERBS_4 : K.lookup c_VERBS_4 = some ⟨.type "tuple", od_VERBS_4, .seq #[.str "name" t_VERBS_4_0, .str "name" t_VERBS_4_1, .str "amount" t_VERBS_4_2] n_VERBS_4, sl_VERBS_4⟩)
    (v_VERBS_5 : PySem.W.nsIn K C_VERBS "balance" = some (some (.ref c_VERBS_5)))
    (l_VERBS_5 : K.lookup c_VERBS_5 = some ⟨.type "tuple", od_VERBS_5, .seq #[.str "name" t_VERBS_5_0] n_VERBS_5, sl_VERBS_5⟩)
    (v_VERBS_6 : PySem.W.nsIn K C_VERBS "atleast" = some (some (.ref c_VERBS_6)))
    (l_VERBS_6 : K.lookup c_VERBS_6 = some ⟨.type "tuple", od_VERBS_6, .seq #[.str "name" t_VERBS_6_0, .str "amount" t_VERBS_6_1] n_VERBS_6, sl_VERBS_6⟩)
    (v_VERBS_7 : PySem.W.nsIn K C_VERBS "hold" = some (some (.ref c_VERBS_7)))
    (l_VERBS_7 : K.lookup c_VERBS_7 = some ⟨.type "tuple", od_VERBS_7, .seq #[.str "name" t_VERBS_7_0, .str "name" t_VERBS_7_1, .str "amount" t_VERBS_7_2, .str "key" t_VERBS_7_3] n_VERBS_7, sl_VERBS_7⟩)
    (v_VERBS_8 : PySem.W.nsIn K C_VERBS "settle" = some (some (.ref c_VERBS_8)))
    (l_VERBS_8 : K.lookup c_VERBS_8 = some ⟨.type "tuple", od_VERBS_8, .seq #[.str "key" t_VERBS_8_0] n_VERBS_8, sl_VERBS_8⟩)
    (v_VERBS_9 : PySem.W.nsIn K C_VERBS "release" = some (some (.ref c_VERBS_9)))
    (l_VERBS_9 : K.lookup c_VERBS_9 = some ⟨.type "tuple", od_VERBS_9, .seq #[.str "key" t_VERBS_9_0] n_VERBS_9, sl_VERBS_9⟩)
    (v_VERBS_10 : PySem.W.nsIn K C_VERBS "put" = some (some (.ref c_VERBS_10)))
    (l_VERBS_10 : K.lookup c_VERBS_10 = some ⟨.type "tuple", od_VERBS_10, .seq #[.str "key" t_VERBS_10_0, .str "value" t_VERBS_10_1] n_VERBS_10, sl_VERBS_10⟩)
    (v_VERBS_11 : PySem.W.nsIn K C_VERBS "get" = some (some (.ref c_VERBS_11)))
    (l_VERBS_11 : K.lookup c_VERBS_11 = some ⟨.type "tuple", od_VERBS_11, .seq #[.str "key" t_VERBS_11_0] n_VERBS_11, sl_VERBS_11⟩)
    (v_VERBS_12 : PySem.W.nsIn K C_VERBS "drop" = some (some (.ref c_VERBS_12)))
    (l_VERBS_12 : K.lookup c_VERBS_12 = some ⟨.type "tuple", od_VERBS_12, .seq #[.str "key" t_VERBS_12_0] n_VERBS_12, sl_VERBS_12⟩)
    (v_VERBS_13 : PySem.W.nsIn K C_VERBS "swap" = some (some (.ref c_VERBS_13)))
    (l_VERBS_13 : K.lookup c_VERBS_13 = some ⟨.type "tuple", od_VERBS_13, .seq #[.str "key" t_VERBS_13_0, .str "value" t_VERBS_13_1, .str "value" t_VERBS_13_2] n_VERBS_13, sl_VERBS_13⟩)
    (v_VERBS_14 : PySem.W.nsIn K C_VERBS "same" = some (some (.ref c_VERBS_14)))
    (l_VERBS_14 : K.lookup c_VERBS_14 = some ⟨.type "tuple", od_VERBS_14, .seq #[.str "key" t_VERBS_14_0, .str "value" t_VERBS_14_1] n_VERBS_14, sl_VERBS_14⟩)
    (v_VERBS_15 : PySem.W.nsIn K C_VERBS "keys" = some (some (.ref c_VERBS_15)))
    (l_VERBS_15 : K.lookup c_VERBS_15 = some ⟨.type "tuple", od_VERBS_15, .seq #[.str "key" t_VERBS_15_0] n_VERBS_15, sl_VERBS_15⟩)
    (ky_VERBS : keysIn ["open", "close", "issue", "burn", "pay", "balance", "atleast", "hold", "settle", "release", "put", "get", "drop", "swap", "same", "keys"] es_VERBS.toList = true)
    (u_Refused_Refused : PySem.W.subIn K (.ref C_Refused) (.ref C_Refused) = some true)
    (u_BadText_BadText : PySem.W.subIn K (.ref C_BadText) (.ref C_BadText) = some true)
    (u_BadCommand_BadCommand : PySem.W.subIn K (.ref C_BadCommand) (.ref C_BadCommand) = some true)
    (a_ACCOUNT_LIMIT : PySem.W.nsIn K mainGlobals "ACCOUNT_LIMIT" = some (some (.int 100 t_ACCOUNT_LIMIT)))
    (a_ENTRY_LIMIT : PySem.W.nsIn K mainGlobals "ENTRY_LIMIT" = some (some (.int 200 t_ENTRY_LIMIT)))
    (a_HOLD_LIMIT : PySem.W.nsIn K mainGlobals "HOLD_LIMIT" = some (some (.int 100 t_HOLD_LIMIT)))
    (a_KEY_CHARACTERS : PySem.W.nsIn K mainGlobals "KEY_CHARACTERS" = some (some (.str "abcdefghijklmnopqrstuvwxyz.0123456789" t_KEY_CHARACTERS)))
    (a_LETTERS : PySem.W.nsIn K mainGlobals "LETTERS" = some (some (.str "abcdefghijklmnopqrstuvwxyz" t_LETTERS)))
    (a_MINT : PySem.W.nsIn K mainGlobals "MINT" = some (some (.int (-1) t_MINT)))
    (a_MOST_AMOUNT : PySem.W.nsIn K mainGlobals "MOST_AMOUNT" = some (some (.int 12 t_MOST_AMOUNT)))
    (a_MOST_ANSWER : PySem.W.nsIn K mainGlobals "MOST_ANSWER" = some (some (.int 200 t_MOST_ANSWER)))
    (a_MOST_DEPTH : PySem.W.nsIn K mainGlobals "MOST_DEPTH" = some (some (.int 12 t_MOST_DEPTH)))
    (a_MOST_DIGITS : PySem.W.nsIn K mainGlobals "MOST_DIGITS" = some (some (.int 60 t_MOST_DIGITS)))
    (a_MOST_KEY : PySem.W.nsIn K mainGlobals "MOST_KEY" = some (some (.int 20 t_MOST_KEY)))
    (a_MOST_LENGTH : PySem.W.nsIn K mainGlobals "MOST_LENGTH" = some (some (.int 100000 t_MOST_LENGTH)))
    (a_MOST_NAME : PySem.W.nsIn K mainGlobals "MOST_NAME" = some (some (.int 12 t_MOST_NAME)))
    (a_MOST_STATE : PySem.W.nsIn K mainGlobals "MOST_STATE" = some (some (.int 60000 t_MOST_STATE)))
    (a_MOST_TEXT : PySem.W.nsIn K mainGlobals "MOST_TEXT" = some (some (.int 240 t_MOST_TEXT)))
    (a_MOST_VALUE : PySem.W.nsIn K mainGlobals "MOST_VALUE" = some (some (.int 40 t_MOST_VALUE)))
    (a_RESULT_LIMIT : PySem.W.nsIn K mainGlobals "RESULT_LIMIT" = some (some (.int 60 t_RESULT_LIMIT)))
    (a_SUPPLY_LIMIT : PySem.W.nsIn K mainGlobals "SUPPLY_LIMIT" = some (some (.int 1000000000000000 t_SUPPLY_LIMIT)))
    (z_abs : PySem.W.nsIn K mainGlobals "abs" = some none)
    (z_all : PySem.W.nsIn K mainGlobals "all" = some none)
    (z_any : PySem.W.nsIn K mainGlobals "any" = some none)
    (z_dict : PySem.W.nsIn K mainGlobals "dict" = some none)
    (z_enumerate : PySem.W.nsIn K mainGlobals "enumerate" = some none)
    (z_int : PySem.W.nsIn K mainGlobals "int" = some none)
    (z_isinstance : PySem.W.nsIn K mainGlobals "isinstance" = some none)
    (z_len : PySem.W.nsIn K mainGlobals "len" = some none)
    (z_list : PySem.W.nsIn K mainGlobals "list" = some none)
    (z_min : PySem.W.nsIn K mainGlobals "min" = some none)
    (z_range : PySem.W.nsIn K mainGlobals "range" = some none)
    (z_sorted : PySem.W.nsIn K mainGlobals "sorted" = some none)
    (z_str : PySem.W.nsIn K mainGlobals "str" = some none)
    (z_tuple : PySem.W.nsIn K mainGlobals "tuple" = some none)
    (z_zip : PySem.W.nsIn K mainGlobals "zip" = some none) : Txt K mg w C_Accounts C_Sessions C_Store C_State C_BadText C_Refused C_BadCommand C_VERBS :=
  { d_is_printable := ⟨_, _, (fun_mk l_is_printable e_is_printable k_is_printable), PySem.W.mg_of X G a_is_printable, ((fun_mk (st := s_is_printable) l_is_printable e_is_printable k_is_printable).binds (ps := ["value"]) fun _ _ _ _ _ _ us hl => match us, hl with | [_], _ => rfl)⟩,
    d_is_short := ⟨_, _, (fun_mk l_is_short e_is_short k_is_short), PySem.W.mg_of X G a_is_short, ((fun_mk (st := s_is_short) l_is_short e_is_short k_is_short).binds (ps := ["value", "most"]) fun _ _ _ _ _ _ us hl => match us, hl with | [_, _], _ => rfl)⟩,
    d_is_decimal := ⟨_, _, (fun_mk l_is_decimal e_is_decimal k_is_decimal), PySem.W.mg_of X G a_is_decimal, ((fun_mk (st := s_is_decimal) l_is_decimal e_is_decimal k_is_decimal).binds (ps := ["word"]) fun _ _ _ _ _ _ us hl => match us, hl with | [_], _ => rfl)⟩,
    d_encode := ⟨_, _, (fun_mk l_encode e_encode k_encode), PySem.W.mg_of X G a_encode, ((fun_mk (st := s_encode) l_encode e_encode k_encode).binds (ps := ["value"]) fun _ _ _ _ _ _ us hl => match us, hl with | [_], _ => rfl)⟩,
    d_text_of := ⟨_, _, (fun_mk l_text_of e_text_of k_text_of), PySem.W.mg_of X G a_text_of, ((fun_mk (st := s_text_of) l_text_of e_text_of k_text_of).binds (ps := ["value", "depth", "room"]) fun _ _ _ _ _ _ us hl => match us, hl with | [_, _, _], _ => rfl)⟩,
    d_tuple_text := ⟨_, _, (fun_mk l_tuple_text e_tuple_text k_tuple_text), PySem.W.mg_of X G a_tuple_text, ((fun_mk (st := s_tuple_text) l_tuple_text e_tuple_text k_tuple_text).binds (ps := ["value", "depth", "room"]) fun _ _ _ _ _ _ us hl => match us, hl with | [_, _, _], _ => rfl)⟩,
    d_single_text := ⟨_, _, (fun_mk l_single_text e_single_text k_single_text), PySem.W.mg_of X G a_single_text, ((fun_mk (st := s_single_text) l_single_text e_single_text k_single_text).binds (ps := ["value"]) fun _ _ _ _ _ _ us hl => match us, hl with | [_], _ => rfl)⟩,
    d_has_few_digits := ⟨_, _, (fun_mk l_has_few_digits e_has_few_digits k_has_few_digits), PySem.W.mg_of X G a_has_few_digits, ((fun_mk (st := s_has_few_digits) l_has_few_digits e_has_few_digits k_has_few_digits).binds (ps := ["value"]) fun _ _ _ _ _ _ us hl => match us, hl with | [_], _ => rfl)⟩,
    d_parts_of := ⟨_, _, (fun_mk l_parts_of e_parts_of k_parts_of), PySem.W.mg_of X G a_parts_of, ((fun_mk (st := s_parts_of) l_parts_of e_parts_of k_parts_of).binds (ps := ["text"]) fun _ _ _ _ _ _ us hl => match us, hl with | [_], _ => rfl)⟩,
    d_words_of := ⟨_, _, (fun_mk l_words_of e_words_of k_words_of), PySem.W.mg_of X G a_words_of, ((fun_mk (st := s_words_of) l_words_of e_words_of k_words_of).binds (ps := ["part", "index"]) fun _ _ _ _ _ _ us hl => match us, hl with | [_, _], _ => rfl)⟩,
    d_is_name := ⟨_, _, (fun_mk l_is_name e_is_name k_is_name), PySem.W.mg_of X G a_is_name, ((fun_mk (st := s_is_name) l_is_name e_is_name k_is_name).binds (ps := ["word"]) fun _ _ _ _ _ _ us hl => match us, hl with | [_], _ => rfl)⟩,
    d_is_key := ⟨_, _, (fun_mk l_is_key e_is_key k_is_key), PySem.W.mg_of X G a_is_key, ((fun_mk (st := s_is_key) l_is_key e_is_key k_is_key).binds (ps := ["word"]) fun _ _ _ _ _ _ us hl => match us, hl with | [_], _ => rfl)⟩,
    d_is_value := ⟨_, _, (fun_mk l_is_value e_is_value k_is_value), PySem.W.mg_of X G a_is_value, ((fun_mk (st := s_is_value) l_is_value e_is_value k_is_value).binds (ps := ["word"]) fun _ _ _ _ _ _ us hl => match us, hl with | [_], _ => rfl)⟩,
    d_is_amount := ⟨_, _, (fun_mk l_is_amount e_is_amount k_is_amount), PySem.W.mg_of X G a_is_amount, ((fun_mk (st := s_is_amount) l_is_amount e_is_amount k_is_amount).binds (ps := ["word"]) fun _ _ _ _ _ _ us hl => match us, hl with | [_], _ => rfl)⟩,
    d_consists_of := ⟨_, _, (fun_mk l_consists_of e_consists_of k_consists_of), PySem.W.mg_of X G a_consists_of, ((fun_mk (st := s_consists_of) l_consists_of e_consists_of k_consists_of).binds (ps := ["word", "characters", "most"]) fun _ _ _ _ _ _ us hl => match us, hl with | [_, _, _], _ => rfl)⟩,
    d_parse_command := ⟨_, _, (fun_mk l_parse_command e_parse_command k_parse_command), PySem.W.mg_of X G a_parse_command, ((fun_mk (st := s_parse_command) l_parse_command e_parse_command k_parse_command).binds (ps := ["text"]) fun _ _ _ _ _ _ us hl => match us, hl with | [_], _ => rfl)⟩,
    d_parse_statement := ⟨_, _, (fun_mk l_parse_statement e_parse_statement k_parse_statement), PySem.W.mg_of X G a_parse_statement, ((fun_mk (st := s_parse_statement) l_parse_statement e_parse_statement k_parse_statement).binds (ps := ["part", "index"]) fun _ _ _ _ _ _ us hl => match us, hl with | [_, _], _ => rfl)⟩,
    d_parse_argument := ⟨_, _, (fun_mk l_parse_argument e_parse_argument k_parse_argument), PySem.W.mg_of X G a_parse_argument, ((fun_mk (st := s_parse_argument) l_parse_argument e_parse_argument k_parse_argument).binds (ps := ["kind", "word", "index"]) fun _ _ _ _ _ _ us hl => match us, hl with | [_, _, _], _ => rfl)⟩,
    d_is_of_kind := ⟨_, _, (fun_mk l_is_of_kind e_is_of_kind k_is_of_kind), PySem.W.mg_of X G a_is_of_kind, ((fun_mk (st := s_is_of_kind) l_is_of_kind e_is_of_kind k_is_of_kind).binds (ps := ["kind", "word"]) fun _ _ _ _ _ _ us hl => match us, hl with | [_, _], _ => rfl)⟩,
    d_run := ⟨_, _, (fun_mk l_run e_run k_run), PySem.W.mg_of X G a_run, ((fun_mk (st := s_run) l_run e_run k_run).binds (ps := ["state", "client", "parsed"]) fun _ _ _ _ _ _ us hl => match us, hl with | [_, _, _], _ => rfl)⟩,
    d_perform := ⟨_, _, (fun_mk l_perform e_perform k_perform), PySem.W.mg_of X G a_perform, ((fun_mk (st := s_perform) l_perform e_perform k_perform).binds (ps := ["accounts", "store", "client", "statement"]) fun _ _ _ _ _ _ us hl => match us, hl with | [_, _, _, _], _ => rfl)⟩,
    d_change_accounts := ⟨_, _, (fun_mk l_change_accounts e_change_accounts k_change_accounts), PySem.W.mg_of X G a_change_accounts, ((fun_mk (st := s_change_accounts) l_change_accounts e_change_accounts k_change_accounts).binds (ps := ["accounts", "client", "statement"]) fun _ _ _ _ _ _ us hl => match us, hl with | [_, _, _], _ => rfl)⟩,
    d_require := ⟨_, _, (fun_mk l_require e_require k_require), PySem.W.mg_of X G a_require, ((fun_mk (st := s_require) l_require e_require k_require).binds (ps := ["holds"]) fun _ _ _ _ _ _ us hl => match us, hl with | [_], _ => rfl)⟩,
    d_keys_result := ⟨_, _, (fun_mk l_keys_result e_keys_result k_keys_result), PySem.W.mg_of X G a_keys_result, ((fun_mk (st := s_keys_result) l_keys_result e_keys_result k_keys_result).binds (ps := ["keys"]) fun _ _ _ _ _ _ us hl => match us, hl with | [_], _ => rfl)⟩,
    d_execute := ⟨_, _, (fun_mk l_execute e_execute k_execute), PySem.W.mg_of X G a_execute, ((fun_mk (st := s_execute) l_execute e_execute k_execute).binds (ps := ["state", "command"]) fun _ _ _ _ _ _ us hl => match us, hl with | [_, _], _ => rfl)⟩,
    d_run_text := ⟨_, _, (fun_mk l_run_text e_run_text k_run_text), PySem.W.mg_of X G a_run_text, ((fun_mk (st := s_run_text) l_run_text e_run_text k_run_text).binds (ps := ["state", "client", "text"]) fun _ _ _ _ _ _ us hl => match us, hl with | [_, _, _], _ => rfl)⟩,
    d_state_text := ⟨_, _, (fun_mk l_state_text e_state_text k_state_text), PySem.W.mg_of X G a_state_text, ((fun_mk (st := s_state_text) l_state_text e_state_text k_state_text).binds (ps := ["state"]) fun _ _ _ _ _ _ us hl => match us, hl with | [_], _ => rfl)⟩,
    d__law_cell := ⟨_, _, (fun_mk l__law_cell e__law_cell k__law_cell), PySem.W.mg_of X G a__law_cell, ((fun_mk (st := s__law_cell) l__law_cell e__law_cell k__law_cell).binds (ps := ["script", "k"]) fun _ _ _ _ _ _ us hl => match us, hl with | [_, _], _ => rfl)⟩,
    d__law_word := ⟨_, _, (fun_mk l__law_word e__law_word k__law_word), PySem.W.mg_of X G a__law_word, ((fun_mk (st := s__law_word) l__law_word e__law_word k__law_word).binds (ps := ["size", "chars", "seed", "step"]) fun _ _ _ _ _ _ us hl => match us, hl with | [_, _, _, _], _ => rfl)⟩,
    d__law_name := ⟨_, _, (fun_mk l__law_name e__law_name k__law_name), PySem.W.mg_of X G a__law_name, ((fun_mk (st := s__law_name) l__law_name e__law_name k__law_name).binds (ps := ["cell"]) fun _ _ _ _ _ _ us hl => match us, hl with | [_], _ => rfl)⟩,
    d__law_key := ⟨_, _, (fun_mk l__law_key e__law_key k__law_key), PySem.W.mg_of X G a__law_key, ((fun_mk (st := s__law_key) l__law_key e__law_key k__law_key).binds (ps := ["cell"]) fun _ _ _ _ _ _ us hl => match us, hl with | [_], _ => rfl)⟩,
    d__law_value := ⟨_, _, (fun_mk l__law_value e__law_value k__law_value), PySem.W.mg_of X G a__law_value, ((fun_mk (st := s__law_value) l__law_value e__law_value k__law_value).binds (ps := ["cell"]) fun _ _ _ _ _ _ us hl => match us, hl with | [_], _ => rfl)⟩,
    d__law_amount := ⟨_, _, (fun_mk l__law_amount e__law_amount k__law_amount), PySem.W.mg_of X G a__law_amount, ((fun_mk (st := s__law_amount) l__law_amount e__law_amount k__law_amount).binds (ps := ["cell"]) fun _ _ _ _ _ _ us hl => match us, hl with | [_], _ => rfl)⟩,
    d__law_rich := ⟨_, _, (fun_mk l__law_rich e__law_rich k__law_rich), PySem.W.mg_of X G a__law_rich, ((fun_mk (st := s__law_rich) l__law_rich e__law_rich k__law_rich).binds (ps := ["cell", "k"]) fun _ _ _ _ _ _ us hl => match us, hl with | [_, _], _ => rfl)⟩,
    d__law_forms := ⟨_, _, (fun_mk l__law_forms e__law_forms k__law_forms), PySem.W.mg_of X G a__law_forms, ((fun_mk (st := s__law_forms) l__law_forms e__law_forms k__law_forms).binds (ps := []) fun _ _ _ _ _ _ us hl => match us, hl with | [], _ => rfl)⟩,
    d__law_statement := ⟨_, _, (fun_mk l__law_statement e__law_statement k__law_statement), PySem.W.mg_of X G a__law_statement, ((fun_mk (st := s__law_statement) l__law_statement e__law_statement k__law_statement).binds (ps := ["verb_cell", "first", "second"]) fun _ _ _ _ _ _ us hl => match us, hl with | [_, _, _], _ => rfl)⟩,
    d__law_text := ⟨_, _, (fun_mk l__law_text e__law_text k__law_text), PySem.W.mg_of X G a__law_text, ((fun_mk (st := s__law_text) l__law_text e__law_text k__law_text).binds (ps := ["parsed"]) fun _ _ _ _ _ _ us hl => match us, hl with | [_], _ => rfl)⟩,
    d__law_own := ⟨_, _, (fun_mk l__law_own e__law_own k__law_own), PySem.W.mg_of X G a__law_own, ((fun_mk (st := s__law_own) l__law_own e__law_own k__law_own).binds (ps := ["statement", "letter"]) fun _ _ _ _ _ _ us hl => match us, hl with | [_, _], _ => rfl)⟩,
    d__law_command := ⟨_, _, (fun_mk l__law_command e__law_command k__law_command), PySem.W.mg_of X G a__law_command, ((fun_mk (st := s__law_command) l__law_command e__law_command k__law_command).binds (ps := ["cell", "k", "client", "number"]) fun _ _ _ _ _ _ us hl => match us, hl with | [_, _, _, _], _ => rfl)⟩,
    d_law := ⟨_, _, (fun_mk l_law e_law k_law), PySem.W.mg_of X G a_law, ((fun_mk (st := s_law) l_law e_law k_law).binds (ps := ["script"]) fun _ _ _ _ _ _ us hl => match us, hl with | [_], _ => rfl)⟩,
    cl_Accounts := ⟨pg_Accounts, hd_Accounts, po_Accounts, sa_Accounts⟩,
    g_Accounts := PySem.W.mg_of X G ac_Accounts,
    na_Accounts__owners := na_Accounts__owners,
    na_Accounts__balances := na_Accounts__balances,
    na_Accounts__holds := na_Accounts__holds,
    na_Accounts__supply := na_Accounts__supply,
    mk_Accounts := ⟨_, _, ⟨mk_Accounts, a_Accounts____init__, i_Accounts____init__, kc_Accounts⟩, (fun_mk l_Accounts____init__ e_Accounts____init__ k_Accounts____init__), ((fun_mk (st := s_Accounts____init__) l_Accounts____init__ e_Accounts____init__ k_Accounts____init__).binds (ps := ["self"]) fun _ _ _ _ _ _ us hl => match us, hl with | [_], _ => rfl)⟩,
    me_Accounts__create := ⟨_, _, ⟨a_Accounts__create, i_Accounts__create, k_Accounts__create⟩, (fun_mk l_Accounts__create e_Accounts__create k_Accounts__create), ((fun_mk (st := s_Accounts__create) l_Accounts__create e_Accounts__create k_Accounts__create).binds (ps := ["self", "client", "name"]) fun _ _ _ _ _ _ us hl => match us, hl with | [_, _, _], _ => rfl)⟩,
    me_Accounts__close := ⟨_, _, ⟨a_Accounts__close, i_Accounts__close, k_Accounts__close⟩, (fun_mk l_Accounts__close e_Accounts__close k_Accounts__close), ((fun_mk (st := s_Accounts__close) l_Accounts__close e_Accounts__close k_Accounts__close).binds (ps := ["self", "client", "name"]) fun _ _ _ _ _ _ us hl => match us, hl with | [_, _, _], _ => rfl)⟩,
    me_Accounts__issue := ⟨_, _, ⟨a_Accounts__issue, i_Accounts__issue, k_Accounts__issue⟩, (fun_mk l_Accounts__issue e_Accounts__issue k_Accounts__issue), ((fun_mk (st := s_Accounts__issue) l_Accounts__issue e_Accounts__issue k_Accounts__issue).binds (ps := ["self", "client", "name", "amount"]) fun _ _ _ _ _ _ us hl => match us, hl with | [_, _, _, _], _ => rfl)⟩,
    me_Accounts__burn := ⟨_, _, ⟨a_Accounts__burn, i_Accounts__burn, k_Accounts__burn⟩, (fun_mk l_Accounts__burn e_Accounts__burn k_Accounts__burn), ((fun_mk (st := s_Accounts__burn) l_Accounts__burn e_Accounts__burn k_Accounts__burn).binds (ps := ["self", "client", "name", "amount"]) fun _ _ _ _ _ _ us hl => match us, hl with | [_, _, _, _], _ => rfl)⟩,
    me_Accounts__pay := ⟨_, _, ⟨a_Accounts__pay, i_Accounts__pay, k_Accounts__pay⟩, (fun_mk l_Accounts__pay e_Accounts__pay k_Accounts__pay), ((fun_mk (st := s_Accounts__pay) l_Accounts__pay e_Accounts__pay k_Accounts__pay).binds (ps := ["self", "client", "source", "target", "amount"]) fun _ _ _ _ _ _ us hl => match us, hl with | [_, _, _, _, _], _ => rfl)⟩,
    me_Accounts__hold := ⟨_, _, ⟨a_Accounts__hold, i_Accounts__hold, k_Accounts__hold⟩, (fun_mk l_Accounts__hold e_Accounts__hold k_Accounts__hold), ((fun_mk (st := s_Accounts__hold) l_Accounts__hold e_Accounts__hold k_Accounts__hold).binds (ps := ["self", "client", "source", "target", "amount", "key"]) fun _ _ _ _ _ _ us hl => match us, hl with | [_, _, _, _, _, _], _ => rfl)⟩,
    me_Accounts__settle := ⟨_, _, ⟨a_Accounts__settle, i_Accounts__settle, k_Accounts__settle⟩, (fun_mk l_Accounts__settle e_Accounts__settle k_Accounts__settle), ((fun_mk (st := s_Accounts__settle) l_Accounts__settle e_Accounts__settle k_Accounts__settle).binds (ps := ["self", "client", "key"]) fun _ _ _ _ _ _ us hl => match us, hl with | [_, _, _], _ => rfl)⟩,
    me_Accounts__release := ⟨_, _, ⟨a_Accounts__release, i_Accounts__release, k_Accounts__release⟩, (fun_mk l_Accounts__release e_Accounts__release k_Accounts__release), ((fun_mk (st := s_Accounts__release) l_Accounts__release e_Accounts__release k_Accounts__release).binds (ps := ["self", "client", "key"]) fun _ _ _ _ _ _ us hl => match us, hl with | [_, _, _], _ => rfl)⟩,
    me_Accounts__balance := ⟨_, _, ⟨a_Accounts__balance, i_Accounts__balance, k_Accounts__balance⟩, (fun_mk l_Accounts__balance e_Accounts__balance k_Accounts__balance), ((fun_mk (st := s_Accounts__balance) l_Accounts__balance e_Accounts__balance k_Accounts__balance).binds (ps := ["self", "name"]) fun _ _ _ _ _ _ us hl => match us, hl with | [_, _], _ => rfl)⟩,
    me_Accounts__owner := ⟨_, _, ⟨a_Accounts__owner, i_Accounts__owner, k_Accounts__owner⟩, (fun_mk l_Accounts__owner e_Accounts__owner k_Accounts__owner), ((fun_mk (st := s_Accounts__owner) l_Accounts__owner e_Accounts__owner k_Accounts__owner).binds (ps := ["self", "name"]) fun _ _ _ _ _ _ us hl => match us, hl with | [_, _], _ => rfl)⟩,
    me_Accounts__supply := ⟨_, _, ⟨a_Accounts__supply, i_Accounts__supply, k_Accounts__supply⟩, (fun_mk l_Accounts__supply e_Accounts__supply k_Accounts__supply), ((fun_mk (st := s_Accounts__supply) l_Accounts__supply e_Accounts__supply k_Accounts__supply).binds (ps := ["self"]) fun _ _ _ _ _ _ us hl => match us, hl with | [_], _ => rfl)⟩,
    me_Accounts__rows := ⟨_, _, ⟨a_Accounts__rows, i_Accounts__rows, k_Accounts__rows⟩, (fun_mk l_Accounts__rows e_Accounts__rows k_Accounts__rows), ((fun_mk (st := s_Accounts__rows) l_Accounts__rows e_Accounts__rows k_Accounts__rows).binds (ps := ["self"]) fun _ _ _ _ _ _ us hl => match us, hl with | [_], _ => rfl)⟩,
    me_Accounts__held := ⟨_, _, ⟨a_Accounts__held, i_Accounts__held, k_Accounts__held⟩, (fun_mk l_Accounts__held e_Accounts__held k_Accounts__held), ((fun_mk (st := s_Accounts__held) l_Accounts__held e_Accounts__held k_Accounts__held).binds (ps := ["self"]) fun _ _ _ _ _ _ us hl => match us, hl with | [_], _ => rfl)⟩,
    me_Accounts__clone := ⟨_, _, ⟨a_Accounts__clone, i_Accounts__clone, k_Accounts__clone⟩, (fun_mk l_Accounts__clone e_Accounts__clone k_Accounts__clone), ((fun_mk (st := s_Accounts__clone) l_Accounts__clone e_Accounts__clone k_Accounts__clone).binds (ps := ["self"]) fun _ _ _ _ _ _ us hl => match us, hl with | [_], _ => rfl)⟩,
    me_Accounts___check := ⟨_, _, ⟨a_Accounts___check, i_Accounts___check, k_Accounts___check⟩, (fun_mk l_Accounts___check e_Accounts___check k_Accounts___check), ((fun_mk (st := s_Accounts___check) l_Accounts___check e_Accounts___check k_Accounts___check).binds (ps := ["self", "name"]) fun _ _ _ _ _ _ us hl => match us, hl with | [_, _], _ => rfl)⟩,
    me_Accounts___check_owner := ⟨_, _, ⟨a_Accounts___check_owner, i_Accounts___check_owner, k_Accounts___check_owner⟩, (fun_mk l_Accounts___check_owner e_Accounts___check_owner k_Accounts___check_owner), ((fun_mk (st := s_Accounts___check_owner) l_Accounts___check_owner e_Accounts___check_owner k_Accounts___check_owner).binds (ps := ["self", "client", "name"]) fun _ _ _ _ _ _ us hl => match us, hl with | [_, _, _], _ => rfl)⟩,
    me_Accounts___check_funds := ⟨_, _, ⟨a_Accounts___check_funds, i_Accounts___check_funds, k_Accounts___check_funds⟩, (fun_mk l_Accounts___check_funds e_Accounts___check_funds k_Accounts___check_funds), ((fun_mk (st := s_Accounts___check_funds) l_Accounts___check_funds e_Accounts___check_funds k_Accounts___check_funds).binds (ps := ["self", "name", "amount"]) fun _ _ _ _ _ _ us hl => match us, hl with | [_, _, _], _ => rfl)⟩,
    me_Accounts___check_payment := ⟨_, _, ⟨a_Accounts___check_payment, i_Accounts___check_payment, k_Accounts___check_payment⟩, (fun_mk l_Accounts___check_payment e_Accounts___check_payment k_Accounts___check_payment), ((fun_mk (st := s_Accounts___check_payment) l_Accounts___check_payment e_Accounts___check_payment k_Accounts___check_payment).binds (ps := ["self", "client", "source", "target", "amount"]) fun _ _ _ _ _ _ us hl => match us, hl with | [_, _, _, _, _], _ => rfl)⟩,
    me_Accounts___hold_of := ⟨_, _, ⟨a_Accounts___hold_of, i_Accounts___hold_of, k_Accounts___hold_of⟩, (fun_mk l_Accounts___hold_of e_Accounts___hold_of k_Accounts___hold_of), ((fun_mk (st := s_Accounts___hold_of) l_Accounts___hold_of e_Accounts___hold_of k_Accounts___hold_of).binds (ps := ["self", "key"]) fun _ _ _ _ _ _ us hl => match us, hl with | [_, _], _ => rfl)⟩,
    me_Accounts___is_held := ⟨_, _, ⟨a_Accounts___is_held, i_Accounts___is_held, k_Accounts___is_held⟩, (fun_mk l_Accounts___is_held e_Accounts___is_held k_Accounts___is_held), ((fun_mk (st := s_Accounts___is_held) l_Accounts___is_held e_Accounts___is_held k_Accounts___is_held).binds (ps := ["self", "name"]) fun _ _ _ _ _ _ us hl => match us, hl with | [_, _], _ => rfl)⟩,
    cl_Sessions := ⟨pg_Sessions, hd_Sessions, po_Sessions, sa_Sessions⟩,
    g_Sessions := PySem.W.mg_of X G ac_Sessions,
    na_Sessions__numbers := na_Sessions__numbers,
    na_Sessions__answers := na_Sessions__answers,
    mk_Sessions := ⟨_, _, ⟨mk_Sessions, a_Sessions____init__, i_Sessions____init__, kc_Sessions⟩, (fun_mk l_Sessions____init__ e_Sessions____init__ k_Sessions____init__), ((fun_mk (st := s_Sessions____init__) l_Sessions____init__ e_Sessions____init__ k_Sessions____init__).binds (ps := ["self"]) fun _ _ _ _ _ _ us hl => match us, hl with | [_], _ => rfl)⟩,
    me_Sessions__last := ⟨_, _, ⟨a_Sessions__last, i_Sessions__last, k_Sessions__last⟩, (fun_mk l_Sessions__last e_Sessions__last k_Sessions__last), ((fun_mk (st := s_Sessions__last) l_Sessions__last e_Sessions__last k_Sessions__last).binds (ps := ["self", "client"]) fun _ _ _ _ _ _ us hl => match us, hl with | [_, _], _ => rfl)⟩,
    me_Sessions__answer := ⟨_, _, ⟨a_Sessions__answer, i_Sessions__answer, k_Sessions__answer⟩, (fun_mk l_Sessions__answer e_Sessions__answer k_Sessions__answer), ((fun_mk (st := s_Sessions__answer) l_Sessions__answer e_Sessions__answer k_Sessions__answer).binds (ps := ["self", "client"]) fun _ _ _ _ _ _ us hl => match us, hl with | [_, _], _ => rfl)⟩,
    me_Sessions__remember := ⟨_, _, ⟨a_Sessions__remember, i_Sessions__remember, k_Sessions__remember⟩, (fun_mk l_Sessions__remember e_Sessions__remember k_Sessions__remember), ((fun_mk (st := s_Sessions__remember) l_Sessions__remember e_Sessions__remember k_Sessions__remember).binds (ps := ["self", "client", "number", "answer"]) fun _ _ _ _ _ _ us hl => match us, hl with | [_, _, _, _], _ => rfl)⟩,
    me_Sessions__rows := ⟨_, _, ⟨a_Sessions__rows, i_Sessions__rows, k_Sessions__rows⟩, (fun_mk l_Sessions__rows e_Sessions__rows k_Sessions__rows), ((fun_mk (st := s_Sessions__rows) l_Sessions__rows e_Sessions__rows k_Sessions__rows).binds (ps := ["self"]) fun _ _ _ _ _ _ us hl => match us, hl with | [_], _ => rfl)⟩,
    me_Sessions__numbers := ⟨_, _, ⟨a_Sessions__numbers, i_Sessions__numbers, k_Sessions__numbers⟩, (fun_mk l_Sessions__numbers e_Sessions__numbers k_Sessions__numbers), ((fun_mk (st := s_Sessions__numbers) l_Sessions__numbers e_Sessions__numbers k_Sessions__numbers).binds (ps := ["self"]) fun _ _ _ _ _ _ us hl => match us, hl with | [_], _ => rfl)⟩,
    me_Sessions__clone := ⟨_, _, ⟨a_Sessions__clone, i_Sessions__clone, k_Sessions__clone⟩, (fun_mk l_Sessions__clone e_Sessions__clone k_Sessions__clone), ((fun_mk (st := s_Sessions__clone) l_Sessions__clone e_Sessions__clone k_Sessions__clone).binds (ps := ["self"]) fun _ _ _ _ _ _ us hl => match us, hl with | [_], _ => rfl)⟩,
    cl_Store := ⟨pg_Store, hd_Store, po_Store, sa_Store⟩,
    g_Store := PySem.W.mg_of X G ac_Store,
    na_Store__owners := na_Store__owners,
    na_Store__values := na_Store__values,
    mk_Store := ⟨_, _, ⟨mk_Store, a_Store____init__, i_Store____init__, kc_Store⟩, (fun_mk l_Store____init__ e_Store____init__ k_Store____init__), ((fun_mk (st := s_Store____init__) l_Store____init__ e_Store____init__ k_Store____init__).binds (ps := ["self"]) fun _ _ _ _ _ _ us hl => match us, hl with | [_], _ => rfl)⟩,
    me_Store__put := ⟨_, _, ⟨a_Store__put, i_Store__put, k_Store__put⟩, (fun_mk l_Store__put e_Store__put k_Store__put), ((fun_mk (st := s_Store__put) l_Store__put e_Store__put k_Store__put).binds (ps := ["self", "client", "key", "value"]) fun _ _ _ _ _ _ us hl => match us, hl with | [_, _, _, _], _ => rfl)⟩,
    me_Store__read := ⟨_, _, ⟨a_Store__read, i_Store__read, k_Store__read⟩, (fun_mk l_Store__read e_Store__read k_Store__read), ((fun_mk (st := s_Store__read) l_Store__read e_Store__read k_Store__read).binds (ps := ["self", "key"]) fun _ _ _ _ _ _ us hl => match us, hl with | [_, _], _ => rfl)⟩,
    me_Store__drop := ⟨_, _, ⟨a_Store__drop, i_Store__drop, k_Store__drop⟩, (fun_mk l_Store__drop e_Store__drop k_Store__drop), ((fun_mk (st := s_Store__drop) l_Store__drop e_Store__drop k_Store__drop).binds (ps := ["self", "client", "key"]) fun _ _ _ _ _ _ us hl => match us, hl with | [_, _, _], _ => rfl)⟩,
    me_Store__swap := ⟨_, _, ⟨a_Store__swap, i_Store__swap, k_Store__swap⟩, (fun_mk l_Store__swap e_Store__swap k_Store__swap), ((fun_mk (st := s_Store__swap) l_Store__swap e_Store__swap k_Store__swap).binds (ps := ["self", "key", "old", "new"]) fun _ _ _ _ _ _ us hl => match us, hl with | [_, _, _, _], _ => rfl)⟩,
    me_Store__matching := ⟨_, _, ⟨a_Store__matching, i_Store__matching, k_Store__matching⟩, (fun_mk l_Store__matching e_Store__matching k_Store__matching), ((fun_mk (st := s_Store__matching) l_Store__matching e_Store__matching k_Store__matching).binds (ps := ["self", "prefix"]) fun _ _ _ _ _ _ us hl => match us, hl with | [_, _], _ => rfl)⟩,
    me_Store__rows := ⟨_, _, ⟨a_Store__rows, i_Store__rows, k_Store__rows⟩, (fun_mk l_Store__rows e_Store__rows k_Store__rows), ((fun_mk (st := s_Store__rows) l_Store__rows e_Store__rows k_Store__rows).binds (ps := ["self"]) fun _ _ _ _ _ _ us hl => match us, hl with | [_], _ => rfl)⟩,
    me_Store__clone := ⟨_, _, ⟨a_Store__clone, i_Store__clone, k_Store__clone⟩, (fun_mk l_Store__clone e_Store__clone k_Store__clone), ((fun_mk (st := s_Store__clone) l_Store__clone e_Store__clone k_Store__clone).binds (ps := ["self"]) fun _ _ _ _ _ _ us hl => match us, hl with | [_], _ => rfl)⟩,
    me_Store___check := ⟨_, _, ⟨a_Store___check, i_Store___check, k_Store___check⟩, (fun_mk l_Store___check e_Store___check k_Store___check), ((fun_mk (st := s_Store___check) l_Store___check e_Store___check k_Store___check).binds (ps := ["self", "key"]) fun _ _ _ _ _ _ us hl => match us, hl with | [_, _], _ => rfl)⟩,
    me_Store___check_owner := ⟨_, _, ⟨a_Store___check_owner, i_Store___check_owner, k_Store___check_owner⟩, (fun_mk l_Store___check_owner e_Store___check_owner k_Store___check_owner), ((fun_mk (st := s_Store___check_owner) l_Store___check_owner e_Store___check_owner k_Store___check_owner).binds (ps := ["self", "client", "key"]) fun _ _ _ _ _ _ us hl => match us, hl with | [_, _, _], _ => rfl)⟩,
    cl_State := ⟨pg_State, hd_State, po_State, sa_State⟩,
    g_State := PySem.W.mg_of X G ac_State,
    na_State_accounts := na_State_accounts,
    na_State_store := na_State_store,
    na_State_sessions := na_State_sessions,
    mk_State := ⟨_, _, ⟨mk_State, a_State____init__, i_State____init__, kc_State⟩, (fun_mk l_State____init__ e_State____init__ k_State____init__), ((fun_mk (st := s_State____init__) l_State____init__ e_State____init__ k_State____init__).binds (ps := ["self"]) fun _ _ _ _ _ _ us hl => match us, hl with | [_], _ => rfl)⟩,
    me_State__clone := ⟨_, _, ⟨a_State__clone, i_State__clone, k_State__clone⟩, (fun_mk l_State__clone e_State__clone k_State__clone), ((fun_mk (st := s_State__clone) l_State__clone e_State__clone k_State__clone).binds (ps := ["self"]) fun _ _ _ _ _ _ us hl => match us, hl with | [_], _ => rfl)⟩,
    x_BadText := ⟨xe_BadText, PySem.W.mg_of X G xa_BadText, xk_BadText, xb_BadText, xt_BadText, xh_BadText⟩,
    x_Refused := ⟨PySem.W.mg_of X G xa_Refused, ⟨⟨_, _, _, _, _, _, _, _, _, _, _, _, _, _, _, xl_Refused, xr_Refused⟩, xs_Refused, xb_Refused, xt_Refused, xk_Refused⟩, ⟨xg_Refused, xq_Refused, xb_Refused, xh_Refused⟩⟩,
    xn_Refused_reason := xn_Refused_reason,
    ei_Refused := ⟨_, _, a_Refused____init__, ty_Refused____init__, (fun_mk l_Refused____init__ e_Refused____init__ k_Refused____init__), ((fun_mk (st := s_Refused____init__) l_Refused____init__ e_Refused____init__ k_Refused____init__).binds (ps := ["self", "reason"]) fun _ _ _ _ _ _ us hl => match us, hl with | [_, _], _ => rfl)⟩,
    x_BadCommand := ⟨PySem.W.mg_of X G xa_BadCommand, ⟨⟨_, _, _, _, _, _, _, _, _, _, _, _, _, _, _, xl_BadCommand, xr_BadCommand⟩, xs_BadCommand, xb_BadCommand, xt_BadCommand, xk_BadCommand⟩, ⟨xg_BadCommand, xq_BadCommand, xb_BadCommand, xh_BadCommand⟩⟩,
    xn_BadCommand_reason := xn_BadCommand_reason,
    xn_BadCommand_statement := xn_BadCommand_statement,
    ei_BadCommand := ⟨_, _, a_BadCommand____init__, ty_BadCommand____init__, (fun_mk l_BadCommand____init__ e_BadCommand____init__ k_BadCommand____init__), ((fun_mk (st := s_BadCommand____init__) l_BadCommand____init__ e_BadCommand____init__ k_BadCommand____init__).binds (ps := ["self", "reason", "statement"]) fun _ _ _ _ _ _ us hl => match us, hl with | [_, _, _], _ => rfl)⟩,
    g_VERBS := PySem.W.mg_of X G a_VERBS,
    kd_VERBS := ⟨_, _, ⟨l_VERBS, kl_VERBS, lo_VERBS⟩⟩,
    ki_VERBS_0 := ⟨_, ⟨_, _, _, l_VERBS, kl_VERBS, v_VERBS_0, rfl⟩, ⟨_, _, _, l_VERBS_0, rfl, rfl, sz1000 (Nat.le_of_ble_eq_true rfl), (.cons ⟨_, rfl⟩ .nil)⟩⟩,
    ki_VERBS_1 := ⟨_, ⟨_, _, _, l_VERBS, kl_VERBS, v_VERBS_1, rfl⟩, ⟨_, _, _, l_VERBS_1, rfl, rfl, sz1000 (Nat.le_of_ble_eq_true rfl), (.cons ⟨_, rfl⟩ .nil)⟩⟩,
    ki_VERBS_2 := ⟨_, ⟨_, _, _, l_VERBS, kl_VERBS, v_VERBS_2, rfl⟩, ⟨_, _, _, l_VERBS_2, rfl, rfl, sz1000 (Nat.le_of_ble_eq_true rfl), (.cons ⟨_, rfl⟩ (.cons ⟨_, rfl⟩ .nil))⟩⟩,
    ki_VERBS_3 := ⟨_, ⟨_, _, _, l_VERBS, kl_VERBS, v_VERBS_3, rfl⟩, ⟨_, _, _, l_VERBS_3, rfl, rfl, sz1000 (Nat.le_of_ble_eq_true rfl), (.cons ⟨_, rfl⟩ (.cons ⟨_, rfl⟩ .nil))⟩⟩,
    ki_VERBS_4 := ⟨_, ⟨_, _, _, l_VERBS, kl_VERBS, v_VERBS_4, rfl⟩, ⟨_, _, _, l_VERBS_4, rfl, rfl, sz1000 (Nat.le_of_ble_eq_true rfl), (.cons ⟨_, rfl⟩ (.cons ⟨_, rfl⟩ (.cons ⟨_, rfl⟩ .nil)))⟩⟩,
    ki_VERBS_5 := ⟨_, ⟨_, _, _, l_VERBS, kl_VERBS, v_VERBS_5, rfl⟩, ⟨_, _, _, l_VERBS_5, rfl, rfl, sz1000 (Nat.le_of_ble_eq_true rfl), (.cons ⟨_, rfl⟩ .nil)⟩⟩,
    ki_VERBS_6 := ⟨_, ⟨_, _, _, l_VERBS, kl_VERBS, v_VERBS_6, rfl⟩, ⟨_, _, _, l_VERBS_6, rfl, rfl, sz1000 (Nat.le_of_ble_eq_true rfl), (.cons ⟨_, rfl⟩ (.cons ⟨_, rfl⟩ .nil))⟩⟩,
    ki_VERBS_7 := ⟨_, ⟨_, _, _, l_VERBS, kl_VERBS, v_VERBS_7, rfl⟩, ⟨_, _, _, l_VERBS_7, rfl, rfl, sz1000 (Nat.le_of_ble_eq_true rfl), (.cons ⟨_, rfl⟩ (.cons ⟨_, rfl⟩ (.cons ⟨_, rfl⟩ (.cons ⟨_, rfl⟩ .nil))))⟩⟩,
    ki_VERBS_8 := ⟨_, ⟨_, _, _, l_VERBS, kl_VERBS, v_VERBS_8, rfl⟩, ⟨_, _, _, l_VERBS_8, rfl, rfl, sz1000 (Nat.le_of_ble_eq_true rfl), (.cons ⟨_, rfl⟩ .nil)⟩⟩,
    ki_VERBS_9 := ⟨_, ⟨_, _, _, l_VERBS, kl_VERBS, v_VERBS_9, rfl⟩, ⟨_, _, _, l_VERBS_9, rfl, rfl, sz1000 (Nat.le_of_ble_eq_true rfl), (.cons ⟨_, rfl⟩ .nil)⟩⟩,
    ki_VERBS_10 := ⟨_, ⟨_, _, _, l_VERBS, kl_VERBS, v_VERBS_10, rfl⟩, ⟨_, _, _, l_VERBS_10, rfl, rfl, sz1000 (Nat.le_of_ble_eq_true rfl), (.cons ⟨_, rfl⟩ (.cons ⟨_, rfl⟩ .nil))⟩⟩,
    ki_VERBS_11 := ⟨_, ⟨_, _, _, l_VERBS, kl_VERBS, v_VERBS_11, rfl⟩, ⟨_, _, _, l_VERBS_11, rfl, rfl, sz1000 (Nat.le_of_ble_eq_true rfl), (.cons ⟨_, rfl⟩ .nil)⟩⟩,
    ki_VERBS_12 := ⟨_, ⟨_, _, _, l_VERBS, kl_VERBS, v_VERBS_12, rfl⟩, ⟨_, _, _, l_VERBS_12, rfl, rfl, sz1000 (Nat.le_of_ble_eq_true rfl), (.cons ⟨_, rfl⟩ .nil)⟩⟩,
    ki_VERBS_13 := ⟨_, ⟨_, _, _, l_VERBS, kl_VERBS, v_VERBS_13, rfl⟩, ⟨_, _, _, l_VERBS_13, rfl, rfl, sz1000 (Nat.le_of_ble_eq_true rfl), (.cons ⟨_, rfl⟩ (.cons ⟨_, rfl⟩ (.cons ⟨_, rfl⟩ .nil)))⟩⟩,
    ki_VERBS_14 := ⟨_, ⟨_, _, _, l_VERBS, kl_VERBS, v_VERBS_14, rfl⟩, ⟨_, _, _, l_VERBS_14, rfl, rfl, sz1000 (Nat.le_of_ble_eq_true rfl), (.cons ⟨_, rfl⟩ (.cons ⟨_, rfl⟩ .nil))⟩⟩,
    ki_VERBS_15 := ⟨_, ⟨_, _, _, l_VERBS, kl_VERBS, v_VERBS_15, rfl⟩, ⟨_, _, _, l_VERBS_15, rfl, rfl, sz1000 (Nat.le_of_ble_eq_true rfl), (.cons ⟨_, rfl⟩ .nil)⟩⟩,
    kn_VERBS := fun z hz => nsIn_none l_VERBS ky_VERBS hz,
    u_Refused_Refused := u_Refused_Refused,
    u_BadText_BadText := u_BadText_BadText,
    u_BadCommand_BadCommand := u_BadCommand_BadCommand,
    c_ACCOUNT_LIMIT := ⟨_, PySem.W.mg_of X G a_ACCOUNT_LIMIT, _, rfl⟩,
    c_ENTRY_LIMIT := ⟨_, PySem.W.mg_of X G a_ENTRY_LIMIT, _, rfl⟩,
    c_HOLD_LIMIT := ⟨_, PySem.W.mg_of X G a_HOLD_LIMIT, _, rfl⟩,
    c_KEY_CHARACTERS := ⟨_, PySem.W.mg_of X G a_KEY_CHARACTERS, _, rfl⟩,
    c_LETTERS := ⟨_, PySem.W.mg_of X G a_LETTERS, _, rfl⟩,
    c_MINT := ⟨_, PySem.W.mg_of X G a_MINT, _, rfl⟩,
    c_MOST_AMOUNT := ⟨_, PySem.W.mg_of X G a_MOST_AMOUNT, _, rfl⟩,
    c_MOST_ANSWER := ⟨_, PySem.W.mg_of X G a_MOST_ANSWER, _, rfl⟩,
    c_MOST_DEPTH := ⟨_, PySem.W.mg_of X G a_MOST_DEPTH, _, rfl⟩,
    c_MOST_DIGITS := ⟨_, PySem.W.mg_of X G a_MOST_DIGITS, _, rfl⟩,
    c_MOST_KEY := ⟨_, PySem.W.mg_of X G a_MOST_KEY, _, rfl⟩,
    c_MOST_LENGTH := ⟨_, PySem.W.mg_of X G a_MOST_LENGTH, _, rfl⟩,
    c_MOST_NAME := ⟨_, PySem.W.mg_of X G a_MOST_NAME, _, rfl⟩,
    c_MOST_STATE := ⟨_, PySem.W.mg_of X G a_MOST_STATE, _, rfl⟩,
    c_MOST_TEXT := ⟨_, PySem.W.mg_of X G a_MOST_TEXT, _, rfl⟩,
    c_MOST_VALUE := ⟨_, PySem.W.mg_of X G a_MOST_VALUE, _, rfl⟩,
    c_RESULT_LIMIT := ⟨_, PySem.W.mg_of X G a_RESULT_LIMIT, _, rfl⟩,
    c_SUPPLY_LIMIT := ⟨_, PySem.W.mg_of X G a_SUPPLY_LIMIT, _, rfl⟩,
    z_abs := PySem.W.mg_none_of X G z_abs,
    z_all := PySem.W.mg_none_of X G z_all,
    z_any := PySem.W.mg_none_of X G z_any,
    z_dict := PySem.W.mg_none_of X G z_dict,
    z_enumerate := PySem.W.mg_none_of X G z_enumerate,
    z_int := PySem.W.mg_none_of X G z_int,
    z_isinstance := PySem.W.mg_none_of X G z_isinstance,
    z_len := PySem.W.mg_none_of X G z_len,
    z_list := PySem.W.mg_none_of X G z_list,
    z_min := PySem.W.mg_none_of X G z_min,
    z_range := PySem.W.mg_none_of X G z_range,
    z_sorted := PySem.W.mg_none_of X G z_sorted,
    z_str := PySem.W.mg_none_of X G z_str,
    z_tuple := PySem.W.mg_none_of X G z_tuple,
    z_zip := PySem.W.mg_none_of X G z_zip }
end Law
open PySem PySem.W PyProof.Rows
set_option maxRecDepth 100000 in
set_option maxHeartbeats 0 in
theorem PySem.Challenge.cw_oathledger_k55_whole_strangers_commute_holds : PySem.Challenge.rw_oathledger_k55_whole_strangers_commute.Holds := by
  w_on; o_law; k_head; (case hw => w_witness2)
  k_fill
  refine L2.walk_of (l := PySem.Challenge.rw_oathledger_k55_whole_strangers_commute) (n := 63) (k := 40) (x := "script") (CX := fun _ => L2.CX0) (sp := fun w => Law.spLaw _) rfl (by decide) rfl ⟨rfl, by decide, by decide⟩ (fun w h Y => PySem.W.kIn_of Y) ?F (fun _ _ a ns hl _ hS => ⟨a, ns, rfl, hS, hl, fun _ => rfl⟩) (fun _ _ _ _ _ h => h)
  case F =>
    intro w mg fa h KX G hmg
    refine' Law.fin hmg (Law.all_mk KX G ?a_is_printable ?l_is_printable ?e_is_printable ?k_is_printable ?a_is_short ?l_is_short ?e_is_short ?k_is_short ?a_is_decimal ?l_is_decimal ?e_is_decimal ?k_is_decimal ?a_encode ?l_encode ?e_encode ?k_encode ?a_text_of ?l_text_of ?e_text_of ?k_text_of ?a_tuple_text ?l_tuple_text ?e_tuple_text ?k_tuple_text ?a_single_text ?l_single_text ?e_single_text ?k_single_text ?a_has_few_digits ?l_has_few_digits ?e_has_few_digits ?k_has_few_digits ?a_parts_of ?l_parts_of ?e_parts_of ?k_parts_of ?a_words_of ?l_words_of ?e_words_of ?k_words_of ?a_is_name ?l_is_name ?e_is_name ?k_is_name ?a_is_key ?l_is_key ?e_is_key ?k_is_key ?a_is_value ?l_is_value ?e_is_value ?k_is_value ?a_is_amount ?l_is_amount ?e_is_amount ?k_is_amount ?a_consists_of ?l_consists_of ?e_consists_of ?k_consists_of ?a_parse_command ?l_parse_command ?e_parse_command ?k_parse_command ?a_parse_statement ?l_parse_statement ?e_parse_statement ?k_parse_statement ?a_parse_argument ?l_parse_argument ?e_parse_argument ?k_parse_argument ?a_is_of_kind ?l_is_of_kind ?e_is_of_kind ?k_is_of_kind ?a_run ?l_run ?e_run ?k_run ?a_perform ?l_perform ?e_perform ?k_perform ?a_change_accounts ?l_change_accounts ?e_change_accounts ?k_change_accounts ?a_require ?l_require ?e_require ?k_require ?a_keys_result ?l_keys_result ?e_keys_result ?k_keys_result ?a_execute ?l_execute ?e_execute ?k_execute ?a_run_text ?l_run_text ?e_run_text ?k_run_text ?a_state_text ?l_state_text ?e_state_text ?k_state_text ?a__law_cell ?l__law_cell ?e__law_cell ?k__law_cell ?a__law_word ?l__law_word ?e__law_word ?k__law_word ?a__law_name ?l__law_name ?e__law_name ?k__law_name ?a__law_key ?l__law_key ?e__law_key ?k__law_key ?a__law_value ?l__law_value ?e__law_value ?k__law_value ?a__law_amount ?l__law_amount ?e__law_amount ?k__law_amount ?a__law_rich ?l__law_rich ?e__law_rich ?k__law_rich ?a__law_forms ?l__law_forms ?e__law_forms ?k__law_forms ?a__law_statement ?l__law_statement ?e__law_statement ?k__law_statement ?a__law_text ?l__law_text ?e__law_text ?k__law_text ?a__law_own ?l__law_own ?e__law_own ?k__law_own ?a__law_command ?l__law_command ?e__law_command ?k__law_command ?a_law ?l_law ?e_law ?k_law ?ac_Accounts ?pg_Accounts ?hd_Accounts ?po_Accounts ?sa_Accounts ?mk_Accounts ?kc_Accounts ?na_Accounts__owners ?na_Accounts__balances ?na_Accounts__holds ?na_Accounts__supply ?a_Accounts____init__ ?i_Accounts____init__ ?l_Accounts____init__ ?e_Accounts____init__ ?k_Accounts____init__ ?a_Accounts__create ?i_Accounts__create ?l_Accounts__create ?e_Accounts__create ?k_Accounts__create ?a_Accounts__close ?i_Accounts__close ?l_Accounts__close ?e_Accounts__close ?k_Accounts__close ?a_Accounts__issue ?i_Accounts__issue ?l_Accounts__issue ?e_Accounts__issue ?k_Accounts__issue ?a_Accounts__burn ?i_Accounts__burn ?l_Accounts__burn ?e_Accounts__burn ?k_Accounts__burn ?a_Accounts__pay ?i_Accounts__pay ?l_Accounts__pay ?e_Accounts__pay ?k_Accounts__pay ?a_Accounts__hold ?i_Accounts__hold ?l_Accounts__hold ?e_Accounts__hold ?k_Accounts__hold ?a_Accounts__settle ?i_Accounts__settle ?l_Accounts__settle ?e_Accounts__settle ?k_Accounts__settle ?a_Accounts__release ?i_Accounts__release ?l_Accounts__release ?e_Accounts__release ?k_Accounts__release ?a_Accounts__balance ?i_Accounts__balance ?l_Accounts__balance ?e_Accounts__balance ?k_Accounts__balance ?a_Accounts__owner ?i_Accounts__owner ?l_Accounts__owner ?e_Accounts__owner ?k_Accounts__owner ?a_Accounts__supply ?i_Accounts__supply ?l_Accounts__supply ?e_Accounts__supply ?k_Accounts__supply ?a_Accounts__rows ?i_Accounts__rows ?l_Accounts__rows ?e_Accounts__rows ?k_Accounts__rows ?a_Accounts__held ?i_Accounts__held ?l_Accounts__held ?e_Accounts__held ?k_Accounts__held ?a_Accounts__clone ?i_Accounts__clone ?l_Accounts__clone ?e_Accounts__clone ?k_Accounts__clone ?a_Accounts___check ?i_Accounts___check ?l_Accounts___check ?e_Accounts___check ?k_Accounts___check ?a_Accounts___check_owner ?i_Accounts___check_owner ?l_Accounts___check_owner ?e_Accounts___check_owner ?k_Accounts___check_owner ?a_Accounts___check_funds ?i_Accounts___check_funds ?l_Accounts___check_funds ?e_Accounts___check_funds ?k_Accounts___check_funds ?a_Accounts___check_payment ?i_Accounts___check_payment ?l_Accounts___check_payment ?e_Accounts___check_payment ?k_Accounts___check_payment ?a_Accounts___hold_of ?i_Accounts___hold_of ?l_Accounts___hold_of ?e_Accounts___hold_of ?k_Accounts___hold_of ?a_Accounts___is_held ?i_Accounts___is_held ?l_Accounts___is_held ?e_Accounts___is_held ?k_Accounts___is_held ?ac_Sessions ?pg_Sessions ?hd_Sessions ?po_Sessions ?sa_Sessions ?mk_Sessions ?kc_Sessions ?na_Sessions__numbers ?na_Sessions__answers ?a_Sessions____init__ ?i_Sessions____init__ ?l_Sessions____init__ ?e_Sessions____init__ ?k_Sessions____init__ ?a_Sessions__last ?i_Sessions__last ?l_Sessions__last ?e_Sessions__last ?k_Sessions__last ?a_Sessions__answer ?i_Sessions__answer ?l_Sessions__answer ?e_Sessions__answer ?k_Sessions__answer ?a_Sessions__remember ?i_Sessions__remember ?l_Sessions__remember ?e_Sessions__remember ?k_Sessions__remember ?a_Sessions__rows ?i_Sessions__rows ?l_Sessions__rows ?e_Sessions__rows ?k_Sessions__rows ?a_Sessions__numbers ?i_Sessions__numbers ?l_Sessions__numbers ?e_Sessions__numbers ?k_Sessions__numbers ?a_Sessions__clone ?i_Sessions__clone ?l_Sessions__clone ?e_Sessions__clone ?k_Sessions__clone ?ac_Store ?pg_Store ?hd_Store ?po_Store ?sa_Store ?mk_Store ?kc_Store ?na_Store__owners ?na_Store__values ?a_Store____init__ ?i_Store____init__ ?l_Store____init__ ?e_Store____init__ ?k_Store____init__ ?a_Store__put ?i_Store__put ?l_Store__put ?e_Store__put ?k_Store__put ?a_Store__read ?i_Store__read ?l_Store__read ?e_Store__read ?k_Store__read ?a_Store__drop ?i_Store__drop ?l_Store__drop ?e_Store__drop ?k_Store__drop ?a_Store__swap ?i_Store__swap ?l_Store__swap ?e_Store__swap ?k_Store__swap ?a_Store__matching ?i_Store__matching ?l_Store__matching ?e_Store__matching ?k_Store__matching ?a_Store__rows ?i_Store__rows ?l_Store__rows ?e_Store__rows ?k_Store__rows ?a_Store__clone ?i_Store__clone ?l_Store__clone ?e_Store__clone ?k_Store__clone ?a_Store___check ?i_Store___check ?l_Store___check ?e_Store___check ?k_Store___check ?a_Store___check_owner ?i_Store___check_owner ?l_Store___check_owner ?e_Store___check_owner ?k_Store___check_owner ?ac_State ?pg_State ?hd_State ?po_State ?sa_State ?mk_State ?kc_State ?na_State_accounts ?na_State_store ?na_State_sessions ?a_State____init__ ?i_State____init__ ?l_State____init__ ?e_State____init__ ?k_State____init__ ?a_State__clone ?i_State__clone ?l_State__clone ?e_State__clone ?k_State__clone ?xa_BadText ?xe_BadText ?xk_BadText ?xb_BadText ?xt_BadText ?xh_BadText ?xa_Refused ?xl_Refused ?xr_Refused ?xs_Refused ?xk_Refused ?xb_Refused ?xt_Refused ?xh_Refused ?xg_Refused ?xq_Refused ?xn_Refused_reason ?a_Refused____init__ ?ty_Refused____init__ ?l_Refused____init__ ?e_Refused____init__ ?k_Refused____init__ ?xa_BadCommand ?xl_BadCommand ?xr_BadCommand ?xs_BadCommand ?xk_BadCommand ?xb_BadCommand ?xt_BadCommand ?xh_BadCommand ?xg_BadCommand ?xq_BadCommand ?xn_BadCommand_reason ?xn_BadCommand_statement ?a_BadCommand____init__ ?ty_BadCommand____init__ ?l_BadCommand____init__ ?e_BadCommand____init__ ?k_BadCommand____init__ ?a_VERBS ?l_VERBS ?kl_VERBS ?lo_VERBS ?v_VERBS_0 ?l_VERBS_0 ?v_VERBS_1 ?l_VERBS_1 ?v_VERBS_2 ?l_VERBS_2 ?v_VERBS_3 ?l_VERBS_3 ?v_VERBS_4 ?l_VERBS_4 ?v_VERBS_5 ?l_VERBS_5 ?v_VERBS_6 ?l_VERBS_6 ?v_VERBS_7 ?l_VERBS_7 ?v_VERBS_8 ?l_VERBS_8 ?v_VERBS_9 ?l_VERBS_9 ?v_VERBS_10 ?l_VERBS_10 ?v_VERBS_11 ?l_VERBS_11 ?v_VERBS_12 ?l_VERBS_12 ?v_VERBS_13 ?l_VERBS_13 ?v_VERBS_14 ?l_VERBS_14 ?v_VERBS_15 ?l_VERBS_15 ?ky_VERBS ?u_Refused_Refused ?u_BadText_BadText ?u_BadCommand_BadCommand ?a_ACCOUNT_LIMIT ?a_ENTRY_LIMIT ?a_HOLD_LIMIT ?a_KEY_CHARACTERS ?a_LETTERS ?a_MINT ?a_MOST_AMOUNT ?a_MOST_ANSWER ?a_MOST_DEPTH ?a_MOST_DIGITS ?a_MOST_KEY ?a_MOST_LENGTH ?a_MOST_NAME ?a_MOST_STATE ?a_MOST_TEXT ?a_MOST_VALUE ?a_RESULT_LIMIT ?a_SUPPLY_LIMIT ?z_abs ?z_all ?z_any ?z_dict ?z_enumerate ?z_int ?z_isinstance ?z_len ?z_list ?z_min ?z_range ?z_sorted ?z_str ?z_tuple ?z_zip)
    (case a_is_printable => k_is)
    (case l_is_printable => k_is)
    (case e_is_printable => k_is)
    (case k_is_printable => k_is)
    (case a_is_short => k_is)
    (case l_is_short => k_is)
    (case e_is_short => k_is)
    (case k_is_short => k_is)
    (case a_is_decimal => k_is)
    (case l_is_decimal => k_is)
    (case e_is_decimal => k_is)
    (case k_is_decimal => k_is)
    (case a_encode => k_is)
    (case l_encode => k_is)
    (case e_encode => k_is)
    (case k_encode => k_is)
    (case a_text_of => k_is)
    (case l_text_of => k_is)
    (case e_text_of => k_is)
    (case k_text_of => k_is)
    (case a_tuple_text => k_is)
    (case l_tuple_text => k_is)
    (case e_tuple_text => k_is)
    (case k_tuple_text => k_is)
    (case a_single_text => k_is)
    (case l_single_text => k_is)
    (case e_single_text => k_is)
    (case k_single_text => k_is)
    (case a_has_few_digits => k_is)
    (case l_has_few_digits => k_is)
    (case e_has_few_digits => k_is)
    (case k_has_few_digits => k_is)
    (case a_parts_of => k_is)
    (case l_parts_of => k_is)
    (case e_parts_of => k_is)
    (case k_parts_of => k_is)
    (case a_words_of => k_is)
    (case l_words_of => k_is)
    (case e_words_of => k_is)
    (case k_words_of => k_is)
    (case a_is_name => k_is)
    (case l_is_name => k_is)
    (case e_is_name => k_is)
    (case k_is_name => k_is)
    (case a_is_key => k_is)
    (case l_is_key => k_is)
    (case e_is_key => k_is)
    (case k_is_key => k_is)
    (case a_is_value => k_is)
    (case l_is_value => k_is)
    (case e_is_value => k_is)
    (case k_is_value => k_is)
    (case a_is_amount => k_is)
    (case l_is_amount => k_is)
    (case e_is_amount => k_is)
    (case k_is_amount => k_is)
    (case a_consists_of => k_is)
    (case l_consists_of => k_is)
    (case e_consists_of => k_is)
    (case k_consists_of => k_is)
    (case a_parse_command => k_is)
    (case l_parse_command => k_is)
    (case e_parse_command => k_is)
    (case k_parse_command => k_is)
    (case a_parse_statement => k_is)
    (case l_parse_statement => k_is)
    (case e_parse_statement => k_is)
    (case k_parse_statement => k_is)
    (case a_parse_argument => k_is)
    (case l_parse_argument => k_is)
    (case e_parse_argument => k_is)
    (case k_parse_argument => k_is)
    (case a_is_of_kind => k_is)
    (case l_is_of_kind => k_is)
    (case e_is_of_kind => k_is)
    (case k_is_of_kind => k_is)
    (case a_run => k_is)
    (case l_run => k_is)
    (case e_run => k_is)
    (case k_run => k_is)
    (case a_perform => k_is)
    (case l_perform => k_is)
    (case e_perform => k_is)
    (case k_perform => k_is)
    (case a_change_accounts => k_is)
    (case l_change_accounts => k_is)
    (case e_change_accounts => k_is)
    (case k_change_accounts => k_is)
    (case a_require => k_is)
    (case l_require => k_is)
    (case e_require => k_is)
    (case k_require => k_is)
    (case a_keys_result => k_is)
    (case l_keys_result => k_is)
    (case e_keys_result => k_is)
    (case k_keys_result => k_is)
    (case a_execute => k_is)
    (case l_execute => k_is)
    (case e_execute => k_is)
    (case k_execute => k_is)
    (case a_run_text => k_is)
    (case l_run_text => k_is)
    (case e_run_text => k_is)
    (case k_run_text => k_is)
    (case a_state_text => k_is)
    (case l_state_text => k_is)
    (case e_state_text => k_is)
    (case k_state_text => k_is)
    (case a__law_cell => k_is)
    (case l__law_cell => k_is)
    (case e__law_cell => k_is)
    (case k__law_cell => k_is)
    (case a__law_word => k_is)
    (case l__law_word => k_is)
    (case e__law_word => k_is)
    (case k__law_word => k_is)
    (case a__law_name => k_is)
    (case l__law_name => k_is)
    (case e__law_name => k_is)
    (case k__law_name => k_is)
    (case a__law_key => k_is)
    (case l__law_key => k_is)
    (case e__law_key => k_is)
    (case k__law_key => k_is)
    (case a__law_value => k_is)
    (case l__law_value => k_is)
    (case e__law_value => k_is)
    (case k__law_value => k_is)
    (case a__law_amount => k_is)
    (case l__law_amount => k_is)
    (case e__law_amount => k_is)
    (case k__law_amount => k_is)
    (case a__law_rich => k_is)
    (case l__law_rich => k_is)
    (case e__law_rich => k_is)
    (case k__law_rich => k_is)
    (case a__law_forms => k_is)
    (case l__law_forms => k_is)
    (case e__law_forms => k_is)
    (case k__law_forms => k_is)
    (case a__law_statement => k_is)
    (case l__law_statement => k_is)
    (case e__law_statement => k_is)
    (case k__law_statement => k_is)
    (case a__law_text => k_is)
    (case l__law_text => k_is)
    (case e__law_text => k_is)
    (case k__law_text => k_is)
    (case a__law_own => k_is)
    (case l__law_own => k_is)
    (case e__law_own => k_is)
    (case k__law_own => k_is)
    (case a__law_command => k_is)
    (case l__law_command => k_is)
    (case e__law_command => k_is)
    (case k__law_command => k_is)
    (case a_law => k_is)
    (case l_law => k_is)
    (case e_law => k_is)
    (case k_law => k_is)
    (case ac_Accounts => k_is)
    (case pg_Accounts => k_is)
    (case hd_Accounts => k_is)
    (case po_Accounts => k_is)
    (case sa_Accounts => k_is)
    (case mk_Accounts => k_is)
    (case kc_Accounts => k_is)
    (case na_Accounts__owners => k_is)
    (case na_Accounts__balances => k_is)
    (case na_Accounts__holds => k_is)
    (case na_Accounts__supply => k_is)
    (case a_Accounts____init__ => k_is)
    (case i_Accounts____init__ => k_is)
    (case l_Accounts____init__ => k_is)
    (case e_Accounts____init__ => k_is)
    (case k_Accounts____init__ => k_is)
    (case a_Accounts__create => k_is)
    (case i_Accounts__create => k_is)
    (case l_Accounts__create => k_is)
    (case e_Accounts__create => k_is)
    (case k_Accounts__create => k_is)
    (case a_Accounts__close => k_is)
    (case i_Accounts__close => k_is)
    (case l_Accounts__close => k_is)
    (case e_Accounts__close => k_is)
    (case k_Accounts__close => k_is)
    (case a_Accounts__issue => k_is)
    (case i_Accounts__issue => k_is)
    (case l_Accounts__issue => k_is)
    (case e_Accounts__issue => k_is)
    (case k_Accounts__issue => k_is)
    (case a_Accounts__burn => k_is)
    (case i_Accounts__burn => k_is)
    (case l_Accounts__burn => k_is)
    (case e_Accounts__burn => k_is)
    (case k_Accounts__burn => k_is)
    (case a_Accounts__pay => k_is)
    (case i_Accounts__pay => k_is)
    (case l_Accounts__pay => k_is)
    (case e_Accounts__pay => k_is)
    (case k_Accounts__pay => k_is)
    (case a_Accounts__hold => k_is)
    (case i_Accounts__hold => k_is)
    (case l_Accounts__hold => k_is)
    (case e_Accounts__hold => k_is)
    (case k_Accounts__hold => k_is)
    (case a_Accounts__settle => k_is)
    (case i_Accounts__settle => k_is)
    (case l_Accounts__settle => k_is)
    (case e_Accounts__settle => k_is)
    (case k_Accounts__settle => k_is)
    (case a_Accounts__release => k_is)
    (case i_Accounts__release => k_is)
    (case l_Accounts__release => k_is)
    (case e_Accounts__release => k_is)
    (case k_Accounts__release => k_is)
    (case a_Accounts__balance => k_is)
    (case i_Accounts__balance => k_is)
    (case l_Accounts__balance => k_is)
    (case e_Accounts__balance => k_is)
    (case k_Accounts__balance => k_is)
    (case a_Accounts__owner => k_is)
    (case i_Accounts__owner => k_is)
    (case l_Accounts__owner => k_is)
    (case e_Accounts__owner => k_is)
    (case k_Accounts__owner => k_is)
    (case a_Accounts__supply => k_is)
    (case i_Accounts__supply => k_is)
    (case l_Accounts__supply => k_is)
    (case e_Accounts__supply => k_is)
    (case k_Accounts__supply => k_is)
    (case a_Accounts__rows => k_is)
    (case i_Accounts__rows => k_is)
    (case l_Accounts__rows => k_is)
    (case e_Accounts__rows => k_is)
    (case k_Accounts__rows => k_is)
    (case a_Accounts__held => k_is)
    (case i_Accounts__held => k_is)
    (case l_Accounts__held => k_is)
    (case e_Accounts__held => k_is)
    (case k_Accounts__held => k_is)
    (case a_Accounts__clone => k_is)
    (case i_Accounts__clone => k_is)
    (case l_Accounts__clone => k_is)
    (case e_Accounts__clone => k_is)
    (case k_Accounts__clone => k_is)
    (case a_Accounts___check => k_is)
    (case i_Accounts___check => k_is)
    (case l_Accounts___check => k_is)
    (case e_Accounts___check => k_is)
    (case k_Accounts___check => k_is)
    (case a_Accounts___check_owner => k_is)
    (case i_Accounts___check_owner => k_is)
    (case l_Accounts___check_owner => k_is)
    (case e_Accounts___check_owner => k_is)
    (case k_Accounts___check_owner => k_is)
    (case a_Accounts___check_funds => k_is)
    (case i_Accounts___check_funds => k_is)
    (case l_Accounts___check_funds => k_is)
    (case e_Accounts___check_funds => k_is)
    (case k_Accounts___check_funds => k_is)
    (case a_Accounts___check_payment => k_is)
    (case i_Accounts___check_payment => k_is)
    (case l_Accounts___check_payment => k_is)
    (case e_Accounts___check_payment => k_is)
    (case k_Accounts___check_payment => k_is)
    (case a_Accounts___hold_of => k_is)
    (case i_Accounts___hold_of => k_is)
    (case l_Accounts___hold_of => k_is)
    (case e_Accounts___hold_of => k_is)
    (case k_Accounts___hold_of => k_is)
    (case a_Accounts___is_held => k_is)
    (case i_Accounts___is_held => k_is)
    (case l_Accounts___is_held => k_is)
    (case e_Accounts___is_held => k_is)
    (case k_Accounts___is_held => k_is)
    (case ac_Sessions => k_is)
    (case pg_Sessions => k_is)
    (case hd_Sessions => k_is)
    (case po_Sessions => k_is)
    (case sa_Sessions => k_is)
    (case mk_Sessions => k_is)
    (case kc_Sessions => k_is)
    (case na_Sessions__numbers => k_is)
    (case na_Sessions__answers => k_is)
    (case a_Sessions____init__ => k_is)
    (case i_Sessions____init__ => k_is)
    (case l_Sessions____init__ => k_is)
    (case e_Sessions____init__ => k_is)
    (case k_Sessions____init__ => k_is)
    (case a_Sessions__last => k_is)
    (case i_Sessions__last => k_is)
    (case l_Sessions__last => k_is)
    (case e_Sessions__last => k_is)
    (case k_Sessions__last => k_is)
    (case a_Sessions__answer => k_is)
    (case i_Sessions__answer => k_is)
    (case l_Sessions__answer => k_is)
    (case e_Sessions__answer => k_is)
    (case k_Sessions__answer => k_is)
    (case a_Sessions__remember => k_is)
    (case i_Sessions__remember => k_is)
    (case l_Sessions__remember => k_is)
    (case e_Sessions__remember => k_is)
    (case k_Sessions__remember => k_is)
    (case a_Sessions__rows => k_is)
    (case i_Sessions__rows => k_is)
    (case l_Sessions__rows => k_is)
    (case e_Sessions__rows => k_is)
    (case k_Sessions__rows => k_is)
    (case a_Sessions__numbers => k_is)
    (case i_Sessions__numbers => k_is)
    (case l_Sessions__numbers => k_is)
    (case e_Sessions__numbers => k_is)
    (case k_Sessions__numbers => k_is)
    (case a_Sessions__clone => k_is)
    (case i_Sessions__clone => k_is)
    (case l_Sessions__clone => k_is)
    (case e_Sessions__clone => k_is)
    (case k_Sessions__clone => k_is)
    (case ac_Store => k_is)
    (case pg_Store => k_is)
    (case hd_Store => k_is)
    (case po_Store => k_is)
    (case sa_Store => k_is)
    (case mk_Store => k_is)
    (case kc_Store => k_is)
    (case na_Store__owners => k_is)
    (case na_Store__values => k_is)
    (case a_Store____init__ => k_is)
    (case i_Store____init__ => k_is)
    (case l_Store____init__ => k_is)
    (case e_Store____init__ => k_is)
    (case k_Store____init__ => k_is)
    (case a_Store__put => k_is)
    (case i_Store__put => k_is)
    (case l_Store__put => k_is)
    (case e_Store__put => k_is)
    (case k_Store__put => k_is)
    (case a_Store__read => k_is)
    (case i_Store__read => k_is)
    (case l_Store__read => k_is)
    (case e_Store__read => k_is)
    (case k_Store__read => k_is)
    (case a_Store__drop => k_is)
    (case i_Store__drop => k_is)
    (case l_Store__drop => k_is)
    (case e_Store__drop => k_is)
    (case k_Store__drop => k_is)
    (case a_Store__swap => k_is)
    (case i_Store__swap => k_is)
    (case l_Store__swap => k_is)
    (case e_Store__swap => k_is)
    (case k_Store__swap => k_is)
    (case a_Store__matching => k_is)
    (case i_Store__matching => k_is)
    (case l_Store__matching => k_is)
    (case e_Store__matching => k_is)
    (case k_Store__matching => k_is)
    (case a_Store__rows => k_is)
    (case i_Store__rows => k_is)
    (case l_Store__rows => k_is)
    (case e_Store__rows => k_is)
    (case k_Store__rows => k_is)
    (case a_Store__clone => k_is)
    (case i_Store__clone => k_is)
    (case l_Store__clone => k_is)
    (case e_Store__clone => k_is)
    (case k_Store__clone => k_is)
    (case a_Store___check => k_is)
    (case i_Store___check => k_is)
    (case l_Store___check => k_is)
    (case e_Store___check => k_is)
    (case k_Store___check => k_is)
    (case a_Store___check_owner => k_is)
    (case i_Store___check_owner => k_is)
    (case l_Store___check_owner => k_is)
    (case e_Store___check_owner => k_is)
    (case k_Store___check_owner => k_is)
    (case ac_State => k_is)
    (case pg_State => k_is)
    (case hd_State => k_is)
    (case po_State => k_is)
    (case sa_State => k_is)
    (case mk_State => k_is)
    (case kc_State => k_is)
    (case na_State_accounts => k_is)
    (case na_State_store => k_is)
    (case na_State_sessions => k_is)
    (case a_State____init__ => k_is)
    (case i_State____init__ => k_is)
    (case l_State____init__ => k_is)
    (case e_State____init__ => k_is)
    (case k_State____init__ => k_is)
    (case a_State__clone => k_is)
    (case i_State__clone => k_is)
    (case l_State__clone => k_is)
    (case e_State__clone => k_is)
    (case k_State__clone => k_is)
    (case xa_BadText => k_is)
    (case xe_BadText => first | k_is | k_exc)
    (case xk_BadText => k_is)
    (case xb_BadText => k_is)
    (case xt_BadText => k_is)
    (case xh_BadText => k_is)
    (case xa_Refused => k_is)
    (case xl_Refused => k_is)
    (case xr_Refused => decide +kernel)
    (case xs_Refused => k_is)
    (case xk_Refused => k_is)
    (case xb_Refused => k_is)
    (case xt_Refused => k_is)
    (case xh_Refused => k_is)
    (case xg_Refused => k_is)
    (case xq_Refused => k_is)
    (case xn_Refused_reason => k_is)
    (case a_Refused____init__ => k_is)
    (case ty_Refused____init__ => k_is)
    (case l_Refused____init__ => k_is)
    (case e_Refused____init__ => k_is)
    (case k_Refused____init__ => k_is)
    (case xa_BadCommand => k_is)
    (case xl_BadCommand => k_is)
    (case xr_BadCommand => decide +kernel)
    (case xs_BadCommand => k_is)
    (case xk_BadCommand => k_is)
    (case xb_BadCommand => k_is)
    (case xt_BadCommand => k_is)
    (case xh_BadCommand => k_is)
    (case xg_BadCommand => k_is)
    (case xq_BadCommand => k_is)
    (case xn_BadCommand_reason => k_is)
    (case xn_BadCommand_statement => k_is)
    (case a_BadCommand____init__ => k_is)
    (case ty_BadCommand____init__ => k_is)
    (case l_BadCommand____init__ => k_is)
    (case e_BadCommand____init__ => k_is)
    (case k_BadCommand____init__ => k_is)
    (case a_VERBS => k_is)
    (case l_VERBS => k_is)
    (case kl_VERBS => k_keys)
    (case lo_VERBS => decide)
    (case v_VERBS_0 => k_is)
    (case l_VERBS_0 => k_is)
    (case v_VERBS_1 => k_is)
    (case l_VERBS_1 => k_is)
    (case v_VERBS_2 => k_is)
    (case l_VERBS_2 => k_is)
    (case v_VERBS_3 => k_is)
    (case l_VERBS_3 => k_is)
    (case v_VERBS_4 => k_is)
    (case l_VERBS_4 => k_is)
    (case v_VERBS_5 => k_is)
    (case l_VERBS_5 => k_is)
    (case v_VERBS_6 => k_is)
    (case l_VERBS_6 => k_is)
    (case v_VERBS_7 => k_is)
    (case l_VERBS_7 => k_is)
    (case v_VERBS_8 => k_is)
    (case l_VERBS_8 => k_is)
    (case v_VERBS_9 => k_is)
    (case l_VERBS_9 => k_is)
    (case v_VERBS_10 => k_is)
    (case l_VERBS_10 => k_is)
    (case v_VERBS_11 => k_is)
    (case l_VERBS_11 => k_is)
    (case v_VERBS_12 => k_is)
    (case l_VERBS_12 => k_is)
    (case v_VERBS_13 => k_is)
    (case l_VERBS_13 => k_is)
    (case v_VERBS_14 => k_is)
    (case l_VERBS_14 => k_is)
    (case v_VERBS_15 => k_is)
    (case l_VERBS_15 => k_is)
    (case ky_VERBS => first | decide +kernel | rfl | with_unfolding_all rfl)
    (case u_Refused_Refused => k_is)
    (case u_BadText_BadText => k_is)
    (case u_BadCommand_BadCommand => k_is)
    (case a_ACCOUNT_LIMIT => k_is)
    (case a_ENTRY_LIMIT => k_is)
    (case a_HOLD_LIMIT => k_is)
    (case a_KEY_CHARACTERS => k_is)
    (case a_LETTERS => k_is)
    (case a_MINT => k_is)
    (case a_MOST_AMOUNT => k_is)
    (case a_MOST_ANSWER => k_is)
    (case a_MOST_DEPTH => k_is)
    (case a_MOST_DIGITS => k_is)
    (case a_MOST_KEY => k_is)
    (case a_MOST_LENGTH => k_is)
    (case a_MOST_NAME => k_is)
    (case a_MOST_STATE => k_is)
    (case a_MOST_TEXT => k_is)
    (case a_MOST_VALUE => k_is)
    (case a_RESULT_LIMIT => k_is)
    (case a_SUPPLY_LIMIT => k_is)
    (case z_abs => k_is)
    (case z_all => k_is)
    (case z_any => k_is)
    (case z_dict => k_is)
    (case z_enumerate => k_is)
    (case z_int => k_is)
    (case z_isinstance => k_is)
    (case z_len => k_is)
    (case z_list => k_is)
    (case z_min => k_is)
    (case z_range => k_is)
    (case z_sorted => k_is)
    (case z_str => k_is)
    (case z_tuple => k_is)
    (case z_zip => k_is)

