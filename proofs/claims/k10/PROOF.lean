--@fnd FORMS vouch=holds_vouch propose=holds_block vote=holds_block ready=holds_block claim=holds_claim give=holds_give command=holds_request answer=holds_answer
import PyProof.Rows.All
import Wide.All
import OpenK.AllK
import Wide.FinOn
import HandS.ForMost
import HandS.Walk
import HandS.Flow
import HandS.Codes
import HandS.IsInst
import HandS.Conv
import HandS.StrMore
import PyProof.MeetsSeq2
import PyProof.DictTable
import HandS.Wide
import HandS.TupAny
import HandS.More
import HandS.Dict
import HandS.ForExc
import HandS.ExcIs
import HandS.ExcField
import HandS.DeepEq
import HandS.TupLe
import HandS.Steps
import HandS.ExcInit
import HandS.HotCalls
import HandS.FStr
import HandS.WideBits
import HandS.SortRule
import HandS.SortKw
import HandS.Keys
import KE.SortKeyHeap
import KE.DataMinMax
import KE.SortData
import HandS.RaiseMore
import HandS.Zip
import HandS.DictSubView
import HandS.Deep
import HandS.Sort
import HandS.SetKeys
import HandS.Strs
import HandS.SetFor
import HandS.DictComp
import HandS.Style
import PySem.Challenge.RW_oathledger_k10_letters
set_option Elab.async false
set_option linter.all false
set_option maxRecDepth 100000
set_option maxHeartbeats 4000000
namespace Law
open PySem PySem.Spec PyProof.Rows L2
open C8 (Cal Met Mak pe_c pe_mk pe_mt pe_mt0 pe_gc pss_cut tCut)
/-! ### a def of the top, by its name -/
structure DefOk (K : PySem.W.Frag) (mg : Str → Option Value) (x : Str) (st : Stmt) (ps : List Str) : Prop where
  ex : ∃ (f : Addr) (fd : FuncData), L2.Fun K x x st f fd ∧ mg x = some (.ref f) ∧ Binds K fd ps []
section
variable {P : Program} {w : World} {K : PySem.W.Frag} {mg : Str → Option Value} {base : Heap}
/-- a def's promise, by its body -/
theorem cal {x : Str} {st : Stmt} {N ps : List Str} {k : Nat} {sp : Sp} (D : DefOk K mg x st ps) (S : FnScope N ps (defScope st)) (len : ∀ vs H Q E, sp vs H Q E → vs.length = ps.length)
    (hbody : ∀ (f : Addr) (cdv : Value) (A : Around) (outer : List Env) (s : Shared) (H : Hp) (vs : List V) (Q : VK) (E : XK), Room k (A.deeper (envOfC x (defScope st) s.heap.objs.size f cdv)) → sp vs H Q E →
      ∃ t, PSs (cxOf L2.CX0 P w K mg base N x (defScope st) f cdv A outer s H E).nox (defBody st) t ∧ t { nx := fun _ H' => Q .non H', rt := Q } (start N vs) H) : Cal P w K mg base (k + 1) x sp [] := by
  obtain ⟨f, fd, F, hm, b⟩ := D.ex
  exact ⟨f, fd, ps, [], F.ok S len (fun cdv A outer s H vs Q E hr h => hbody f cdv A outer s H vs Q E hr h), hm, F.kp, b, .nil⟩
/-- a call without arguments -/
theorem pe_c0 {X : Cx} {k j : Nat} {x : Str} {sp : Sp} {dvs : List V} {p pos : Pos} (c : Cal X.prog X.w X.K X.mg X.base k x sp dvs) (hr : Room j X.A) (hk : k ≤ j) (hg : Gl X x)
    (hdb : (x == ("__debug__" : Str)) = false := by decide) : PE X (.Call (.Name x p) [] [] pos) (tCall sp dvs L2.E0 tNil) := by
  obtain ⟨f, fd, ps, ds, F, hm, kp, b, d⟩ := c.ex
  exact pe_call0 F (hr.mono hk) hg hm kp b d pass0 hdb
end
/-! ### small things -/
theorem same_upd {H : Hp} {p : Addr} {o : HO} (h : H p = none) : Same H (upd H p o) := fun b x e => by
  rw [upd_ne (ne_of_none e h)]
  exact e
theorem same_mut {H H' : Hp} {p : Addr} {o : HO} (s : Same H H') (h : H p = none) : Same H (upd H' p o) := fun b x e => by
  rw [upd_ne (ne_of_none e h)]
  exact s b x e
theorem sz1000 {n : Nat} (h : n ≤ 100000) : n ≤ sizeLine := Nat.le_trans h (by decide)
theorem sz1000' {n : Nat} (h : n < 100000) : n < sizeLine := Nat.lt_of_lt_of_le h (by decide)
theorem sz1000'' {n : Nat} (h : n ≤ 16777216) : n ≤ sizeLine := by rw [sizeLine_eq]; exact h
theorem sq {K : PySem.W.Frag} {H : Hp} {a : Addr} {xs : List V} (h : H a = some (.lst xs)) : SqL K H a xs := .inl (.inl h)
def spLaw (K : PySem.W.Frag) : Sp := fun vs H Q _ => ∃ (a : Addr) (ns : List Int), vs = [.ref a] ∧ SqL K H a (ns.map V.int) ∧ ns.length ≤ 63 ∧ ∀ H', Q (.bl true) H'
/-! ### the reading, step by step -/
local macro_rules | `(tactic| walk_at "sd") => `(tactic| first
  | omega
  | decide
  | assumption
  | (show _ ∨ _; exact Or.inl ⟨by omega, by omega⟩)
  | (show _ ∨ _; exact Or.inr ⟨by omega, by omega⟩)
  | (show _ ∧ _; exact ⟨by omega, by omega⟩)
  | (show _ ∧ _; exact ⟨by decide, by decide⟩)
  | exact sz1000 (by omega)
  | exact sz1000' (by omega))
local macro_rules | `(tactic| walk_at "sz") => `(tactic| first
  | exact sz1000 (Nat.le_of_ble_eq_true rfl)
  | exact sz1000 (by omega)
  | exact sz1000'' (by omega)
  | assumption)
/-- one step of a reading: a slot, an operator upon numbers, a call upon values -/
local macro_rules | `(tactic| walk_at "rd") => `(tactic| first
  | refine ⟨_, (rfl : (_ : List (Option V))[_]? = some (some _)), ?_⟩
  | refine ⟨_, _, (rfl : (_ : V) = _), (rfl : (_ : V) = _), (by walk_at "sd" : (_ : Prop)), ?_⟩
  | refine ⟨_, _, (rfl : (_ : V) = _), (rfl : (_ : V) = _), ?_⟩
  | refine ⟨_, (rfl : (_ : List V) = _), (by walk_at "sd" : (_ : Prop)), (by walk_at "sd" : (_ : Prop)), ?_⟩
  | refine ⟨_, (rfl : (_ : List V) = _), ?_⟩
  | refine ⟨_, (rfl : (_ : V) = _), ?_⟩
  | refine .inl ⟨_, (rfl : (_ : List V) = _), ?_⟩
  | refine ⟨⟨_, (rfl : (_ : V) = _)⟩, ?_⟩
  | refine ⟨(rfl : scal _ _ = true), ?_⟩
  | refine ⟨(rfl : V.non = V.non), ?_⟩
  | refine ⟨(by walk_at "sz" : (_ ≤ sizeLine)), ?_⟩)
local macro_rules | `(tactic| walk_at "rds") => `(tactic| repeat walk_at "rd")
theorem tyes {σ : L2.St} {H : Hp} {A B : Hp → Prop} (h : A H) : tYes σ H (fun b H3 => if b = true then A H3 else B H3) := by
  show (if true = true then A H else B H)
  rw [if_pos rfl]
  exact h
theorem sum_ones {ys : List Str} (h : ∀ y ∈ ys, y.length = 1) : (ys.map (fun x => x.length)).sum = ys.length := by
  induction ys with
  | nil => rfl
  | cons y r ih =>
    rw [List.map_cons, List.sum_cons, ih (fun z hz => h z (List.mem_cons_of_mem _ hz)), h y List.mem_cons_self, List.length_cons]
    omega
theorem chr_at {z : Str} {i : Int} (h0 : 0 ≤ i) (h1 : i < z.length) : ∃ c, atI z.cps.toList i = some c := by
  obtain ⟨j, rfl⟩ := Int.eq_ofNat_of_zero_le h0
  have hj : j < z.cps.toList.length := by
    rw [Array.length_toList]
    exact Int.ofNat_lt.mp h1
  exact ⟨z.cps.toList[j], atI_nat (List.getElem?_eq_getElem hj)⟩
/-- what an append to a tracked new list leaves -/
theorem lst_app {α : Type} {H : Hp} {D : Addr} {f : α → V} {ys : List α} {y : α} : upd H D (.lst (ys.map f ++ [f y])) D = some (.lst ((ys ++ [y]).map f)) := by
  rw [upd_same, List.map_append]
  rfl
theorem rg40 {n : Nat} (h : n ≤ 100000) : RgC 0 n 40 ((n + 39) / 40) := by
  have e : Builtin.Range.rangeSize 0 (n : Int) 40 = (((n + 39) / 40 : Nat) : Int) := by
    rw [rangeSize_pos (by decide) (by omega)]
    omega
  refine ⟨by decide, by decide, ?_, e⟩
  unfold Builtin.Range.small
  rw [e]
  unfold Builtin.Range.rangeFitsLong
  simp
  omega
theorem isi {K : PySem.W.Frag} {H : Hp} {x : V} {T1 T2 : String} {b : Bool} {Q : VK} (ty : TyX K H x (.type T1)) (e : kitB T1 T2 = some b) (q : Q (.bl b) H) : rIsi K [x, .ty T2] H Q :=
  ⟨x, .ty T2, _, _, b, rfl, .ty _, ty, kit_ty e, q⟩
theorem ifT {c : Bool} {A B : Prop} (hc : c = true) (h : A) : if c = true then A else B := by
  rw [if_pos hc]
  exact h
theorem ifF {c : Bool} {A B : Prop} (hc : c = false) (h : B) : if c = true then A else B := by
  rw [if_neg (by rw [hc]; decide)]
  exact h
local macro_rules | `(tactic| walk_at "isk") => `(tactic| first
  | exact .base (.int _) | exact .base (.str _) | exact .base (.bl _) | exact .base .non
  | exact .base (.lst (by assumption)) | exact .base (.tup (by assumption)) | exact .base (.dK (by assumption)))
/-- isinstance(x, T) with a built-in T; the object's fact stands in the context -/
local macro_rules | `(tactic| walk_at "isi") => `(tactic| first
  | refine ⟨_, .ty _, _, _, true, (rfl : (_ : List V) = _), .ty _, (by walk_at "isk"), kit_ty (by decide +kernel), ?_⟩
  | refine ⟨_, .ty _, _, _, false, (rfl : (_ : List V) = _), .ty _, (by walk_at "isk"), kit_ty (by decide +kernel), ?_⟩)
/-! ### classes of the top -/
structure MethOk (K : PySem.W.Frag) (C : Addr) (m qual : Str) (st : Stmt) (ps : List Str) : Prop where
  ex : ∃ (f : Addr) (fd : FuncData), Meth K C m f ∧ L2.Fun K m qual st f fd ∧ Binds K fd ps []
structure MakOk (K : PySem.W.Frag) (C : Addr) (qual : Str) (st : Stmt) (ps : List Str) : Prop where
  ex : ∃ (f : Addr) (fd : FuncData), Mk K C f ∧ L2.Fun K "__init__" qual st f fd ∧ Binds K fd ps []
section
variable {P : Program} {w : World} {K : PySem.W.Frag} {mg : Str → Option Value} {base : Heap}
theorem met {C : Addr} {m qual : Str} {st : Stmt} {N ps : List Str} {k : Nat} {sp : Sp} (c : Cls K C) (D : MethOk K C m qual st ps) (S : FnScope N ps (defScope st)) (len : ∀ vs H Q E, sp vs H Q E → vs.length = ps.length)
    (hbody : ∀ (f : Addr) (cdv : Value) (A : Around) (outer : List Env) (s : Shared) (H : Hp) (vs : List V) (Q : VK) (E : XK), Room k (A.deeper (envOfC qual (defScope st) s.heap.objs.size f cdv)) → sp vs H Q E →
      ∃ t, PSs (cxOf L2.CX0 P w K mg base N qual (defScope st) f cdv A outer s H E).nox (defBody st) t ∧ t { nx := fun _ H' => Q .non H', rt := Q } (start N vs) H) : Met P w K mg base (k + 1) C m sp [] := by
  obtain ⟨f, fd, M, F, b⟩ := D.ex
  exact ⟨f, fd, ps, [], c, M, F.ok S len (fun cdv A outer s H vs Q E hr h => hbody f cdv A outer s H vs Q E hr h), b, .nil⟩
theorem mak {C : Addr} {x qual : Str} {st : Stmt} {N ps : List Str} {k : Nat} {sp : Sp} (hm : mg x = some (.ref C)) (D : MakOk K C qual st ps) (S : FnScope N ps (defScope st)) (len : ∀ vs H Q E, sp vs H Q E → vs.length = ps.length)
    (hbody : ∀ (f : Addr) (cdv : Value) (A : Around) (outer : List Env) (s : Shared) (H : Hp) (vs : List V) (Q : VK) (E : XK), Room k (A.deeper (envOfC qual (defScope st) s.heap.objs.size f cdv)) → sp vs H Q E →
      ∃ t, PSs (cxOf L2.CX0 P w K mg base N qual (defScope st) f cdv A outer s H E).nox (defBody st) t ∧ t { nx := fun _ H' => Q .non H', rt := Q } (start N vs) H) : Mak P w K mg base (k + 1) x C sp [] := by
  obtain ⟨f, fd, M, F, b⟩ := D.ex
  exact ⟨f, fd, ps, [], M, F.ok S len (fun cdv A outer s H vs Q E hr h => hbody f cdv A outer s H vs Q E hr h), hm, b, .nil⟩
end
/-- a tuple of the top, in the written part -/
def KTup (K : PySem.W.Frag) (a : Addr) (xs : List V) : Prop := ∃ o its n, K.lookup a = some o ∧ o.cls = Value.type "tuple" ∧ o.data = Data.seq its n ∧ its.size ≤ sizeLine ∧ Vals xs its.toList
theorem pe_mk0 {X : Cx} {k j : Nat} {x : Str} {C : Addr} {sp : Sp} {dvs : List V} {p pos : Pos} (c : Mak X.prog X.w X.K X.mg X.base k x C sp dvs) (hr : Room j X.A) (hk : k + 1 ≤ j) (hg : Gl X x)
    (hdb : (x == ("__debug__" : Str)) = false := by decide) : PE X (.Call (.Name x p) [] [] pos) (tMake C sp dvs L2.E0 tNil) := by
  obtain ⟨f, fd, ps, ds, M, F, hm, b, d⟩ := c.ex
  exact pe_make0 M F (hr.mono hk) hg hm b d pass0 hdb
/-! ### rules whose written part is named K (a comprehension's context is another one) -/
section
variable {X : Cx} {K : PySem.W.Frag}
theorem kin (h : X.K = K := by rfl) : OpR X (compareOp .In) (rIn K false) := by subst h; exact op_in_seq
theorem knin (h : X.K = K := by rfl) : OpR X (compareOp .NotIn) (rIn K true) := by subst h; exact op_notIn_seq
theorem kixl (h : X.K = K := by rfl) : IxR X (rIxL K) := by subst h; exact ix_list
theorem kixt (h : X.K = K := by rfl) : IxR X (rIxT K) := by subst h; exact ix_tup
theorem ksll (h : X.K = K := by rfl) : SlR X (rSlL K) := by subst h; exact sl_list
theorem kisi (h : X.K = K := by rfl) : CallR X (.builtin "isinstance") (rIsi K) := by subst h; exact call_isi
theorem kfld {o : Expr} {f : Str} {pos : Pos} {ta : TE} (he : PE X o ta) (hb : attributeBase o f X.env (eval o X.env) = eval o X.env := by rfl) (h : X.K = K := by rfl) : PE X (.Attribute o f pos) (tFld K ta f) := by subst h; exact pe_fld he hb
def rLenK (K : PySem.W.Frag) : List V → Hp → VK → Prop := fun xs H Q => ∃ p ys, xs = [.ref p] ∧ (SqL K H p ys ∨ SqT K H p ys) ∧ Q (.int ys.length) H
theorem klen (h : X.K = K := by rfl) : CallR X (.builtin "len") (rLenK K) := by subst h; exact call_len_seq
end
theorem hu1 {k : Nat} {A : Around} (hr : Room k A) : A.units + 1 < cLine := by have := hr.units; omega
section
variable {X : Cx}
theorem kdin {d : Addr} (h : ∃ es n, KDict X.K X.w d es n) : OpR X (compareOp .In) (fun x y H Q => ∃ (z : Str) (r : Option Value), x = .str z ∧ y = .ref d ∧ PySem.W.nsIn X.K d z = some r ∧ Q (.bl r.isSome) H) := by
  obtain ⟨es, n, D⟩ := h
  exact op_in_kd D
theorem kdnin {d : Addr} (h : ∃ es n, KDict X.K X.w d es n) : OpR X (compareOp .NotIn) (fun x y H Q => ∃ (z : Str) (r : Option Value), x = .str z ∧ y = .ref d ∧ PySem.W.nsIn X.K d z = some r ∧ Q (.bl (!r.isSome)) H) := by
  obtain ⟨es, n, D⟩ := h
  exact op_notIn_kd D
end
theorem kgtup {X : Cx} {K : PySem.W.Frag} {es : List Expr} {k : Nat} {t : TGs} {n : Nat} {pos : Pos} (hc : X.calm = true) (h : PGs X es t)
    (hn : (assignEach es X.env).length = n := by rfl) (hst : (assignEach es X.env).findIdx? (·.1) = none := by rfl) (hK : X.K = K := by rfl) : PG X (.Tuple es k pos) (gTup K n t) := by subst hK; exact pg_tup hc h hn hst
theorem hu65 {A : Around} {k : Nat} (hr : Room k A) : A.units + 65 < cLine := by have := hr.un; omega
theorem keqD {X : Cx} {K : PySem.W.Frag} (hu : X.A.units + 64 < cLine) (h : X.K = K := by rfl) : OpR X (compareOp .Eq) (rEqD K) := by subst h; exact op_eqD hu
theorem kneD {X : Cx} {K : PySem.W.Frag} (hu : X.A.units + 64 < cLine) (h : X.K = K := by rfl) : OpR X (compareOp .NotEq) (rNeD K) := by subst h; exact op_neD hu

/-! ### defs that raise own exceptions -/
theorem kit_tyB {K : PySem.W.Frag} {B : Addr} {T : String} (hm : PySem.W.kitMeta T = true) (h : PySem.W.subIn K (.ref B) (.type T) = some true) : PySem.W.kitOne K (.ref B) (.type T) = some true := by
  unfold PySem.W.kitOne
  rw [if_neg (by rw [show ((Value.ref B : Value) == .type T) = false from rfl]; exact Bool.false_ne_true)]
  show (if PySem.W.kitMeta T = true then PySem.W.subIn K (.ref B) (.type T) else none) = some true
  rw [if_pos hm]; exact h
theorem kit_own {K : PySem.W.Frag} {B C : Addr} (h1 : PySem.W.subIn K (.ref C) (.type "BaseException") = some true) (h2 : PySem.W.typeIn K (.ref C) = some (.type "type")) (h3 : PySem.W.subIn K (.ref B) (.ref C) = some true) : PySem.W.kitOne K (.ref B) (.ref C) = some true := by
  have h0 : (PySem.W.clsIn K C).isSome = true := by
    have h1 : PySem.W.mroIn K C (.type "BaseException") = some true := h1
    unfold PySem.W.mroIn at h1
    cases e : PySem.W.clsIn K C with
    | some _ => rfl
    | none => rw [e] at h1; cases h1
  unfold PySem.W.kitOne
  split
  · rfl
  · show (if ((PySem.W.clsIn K C).isSome && PySem.W.typeIn K (.ref C) == some (.type "type")) = true then PySem.W.subIn K (.ref B) (.ref C) else none) = some true
    rw [h0, h2, h3]
    rfl
section
variable {X : Cx}
/-- C() of an own exception class without an __init__ of its own -/
theorem pmk_own0 {x : Str} {C : Addr} {bmB : List Value} {B newId initId : String} {p pos : Pos} (F : ExcBaseFacts B newId initId bmB) (q : PySem.W.excIn X.K C bmB newId = true) (gC : X.mg x = some (.ref C)) (kC : PySem.W.keepIn X.K (.ref C) = true) (r : Raises X (.ref C)) (hg : Gl X x)
    (hdb : (x == ("__debug__" : Str)) = false := by decide) : PMk X (.Call (.Name x p) [] [] pos) (fun _ H Q => Q (.ref C) none H) := by
  intro pins s σ H Q I h
  refine wpAny_Call_Name_kw (ld_glob I hg gC ?_ hdb)
  refine PySem.W.callWith_K0 I.kIn kC ?_
  show wpAny _ _ (call (.ref C) []) _ _ _
  obtain ⟨bm, N, nm, qn, bs, hdct, sn, sub, ab, col, dd, k0, k1, k2, k3, k5, mN, hC, hN, hni, T⟩ := exc_obj I.kIn q
  refine wpAny_call_exc_subT F T hC hN hni (fun h' e hm => ?_) (Nat.zero_le _)
  exact mk_of I hm r h (I.hok.gone hm.new)
end
/-- an own exception class over ValueError -/
structure ExOk (K : PySem.W.Frag) (mg : Str → Option Value) (x : Str) (C : Addr) : Prop where
  ex : PySem.W.excIn K C [.type "ValueError", .type "Exception", .type "BaseException", .type "object"] "ValueError.__new__" = true
  g : mg x = some (.ref C)
  kp : PySem.W.keepIn K (.ref C) = true
  bp : PySem.W.subIn K (.ref C) (.type "BaseException") = some true
  tp : PySem.W.typeIn K (.ref C) = some (.type "type")
  hd : PySem.W.hasDictIn K C = true
theorem ExOk.exm {K : PySem.W.Frag} {mg : Str → Option Value} {x : Str} {C : Addr} {cls : Value} {b : Bool} (e : ExOk K mg x C) (h : PySem.W.subIn K cls (.ref C) = some b) : PySem.W.exmOne K cls (.ref C) = some b := PySem.W.exm_ref e.bp e.hd e.tp h
theorem pmk_ok {X : Cx} {x : Str} {C : Addr} {p pos : Pos} (e : ExOk X.K X.mg x C) (hg : Gl X x) (hdb : (x == ("__debug__" : Str)) = false := by decide) : PMk X (.Call (.Name x p) [] [] pos) (fun _ H Q => Q (.ref C) none H) :=
  pmk_own0 PySem.F.excBase_ValueError e.ex e.g e.kp (raises_own e.bp e.tp) hg hdb
/-! the promises of such defs -/
structure CalX (P : Program) (w : World) (K : PySem.W.Frag) (mg : Str → Option Value) (base : Heap) (k : Nat) (x : Str) (sp : Sp) : Prop where
  ex : ∃ (f : Addr) (fd : FuncData) (ps : List Str), FnOk P w K mg base (L2.CX P w) k f fd ps sp ∧ mg x = some (.ref f) ∧ PySem.W.keepIn K (.ref f) = true ∧ Binds K fd ps []
structure MetX (P : Program) (w : World) (K : PySem.W.Frag) (mg : Str → Option Value) (base : Heap) (k : Nat) (C : Addr) (m : Str) (sp : Sp) : Prop where
  ex : ∃ (f : Addr) (fd : FuncData) (ps : List Str), Cls K C ∧ Meth K C m f ∧ FnOk P w K mg base (L2.CX P w) k f fd ps sp ∧ Binds K fd ps []
structure MakX (P : Program) (w : World) (K : PySem.W.Frag) (mg : Str → Option Value) (base : Heap) (k : Nat) (x : Str) (C : Addr) (sp : Sp) : Prop where
  ex : ∃ (f : Addr) (fd : FuncData) (ps : List Str), Mk K C f ∧ FnOk P w K mg base (L2.CX P w) k f fd ps sp ∧ mg x = some (.ref C) ∧ Binds K fd ps []
section
variable {P : Program} {w : World} {K : PySem.W.Frag} {mg : Str → Option Value} {base : Heap}
theorem calX {x : Str} {st : Stmt} {N ps : List Str} {k : Nat} {sp : Sp} (D : DefOk K mg x st ps) (S : FnScope N ps (defScope st)) (len : ∀ vs H Q E, sp vs H Q E → vs.length = ps.length)
    (hbody : ∀ (f : Addr) (cdv : Value) (A : Around) (outer : List Env) (s : Shared) (H : Hp) (vs : List V) (Q : VK) (E : XK), Room k (A.deeper (envOfC x (defScope st) s.heap.objs.size f cdv)) → sp vs H Q E →
      ∃ t, PSs (cxOf (L2.CX P w) P w K mg base N x (defScope st) f cdv A outer s H E) (defBody st) t ∧ t { nx := fun _ H' => Q .non H', rt := Q } (start N vs) H) : CalX P w K mg base (k + 1) x sp := by
  obtain ⟨f, fd, F, hm, b⟩ := D.ex
  exact ⟨f, fd, ps, F.okX S len (fun cdv A outer s H vs Q E hr h => hbody f cdv A outer s H vs Q E hr h), hm, F.kp, b⟩
theorem metX {C : Addr} {m qual : Str} {st : Stmt} {N ps : List Str} {k : Nat} {sp : Sp} (c : Cls K C) (D : MethOk K C m qual st ps) (S : FnScope N ps (defScope st)) (len : ∀ vs H Q E, sp vs H Q E → vs.length = ps.length)
    (hbody : ∀ (f : Addr) (cdv : Value) (A : Around) (outer : List Env) (s : Shared) (H : Hp) (vs : List V) (Q : VK) (E : XK), Room k (A.deeper (envOfC qual (defScope st) s.heap.objs.size f cdv)) → sp vs H Q E →
      ∃ t, PSs (cxOf (L2.CX P w) P w K mg base N qual (defScope st) f cdv A outer s H E) (defBody st) t ∧ t { nx := fun _ H' => Q .non H', rt := Q } (start N vs) H) : MetX P w K mg base (k + 1) C m sp := by
  obtain ⟨f, fd, M, F, b⟩ := D.ex
  exact ⟨f, fd, ps, c, M, F.okX S len (fun cdv A outer s H vs Q E hr h => hbody f cdv A outer s H vs Q E hr h), b⟩
theorem makX {C : Addr} {x qual : Str} {st : Stmt} {N ps : List Str} {k : Nat} {sp : Sp} (hm : mg x = some (.ref C)) (D : MakOk K C qual st ps) (S : FnScope N ps (defScope st)) (len : ∀ vs H Q E, sp vs H Q E → vs.length = ps.length)
    (hbody : ∀ (f : Addr) (cdv : Value) (A : Around) (outer : List Env) (s : Shared) (H : Hp) (vs : List V) (Q : VK) (E : XK), Room k (A.deeper (envOfC qual (defScope st) s.heap.objs.size f cdv)) → sp vs H Q E →
      ∃ t, PSs (cxOf (L2.CX P w) P w K mg base N qual (defScope st) f cdv A outer s H E) (defBody st) t ∧ t { nx := fun _ H' => Q .non H', rt := Q } (start N vs) H) : MakX P w K mg base (k + 1) x C sp := by
  obtain ⟨f, fd, M, F, b⟩ := D.ex
  exact ⟨f, fd, ps, M, F.okX S len (fun cdv A outer s H vs Q E hr h => hbody f cdv A outer s H vs Q E hr h), hm, b⟩
end
/-! their calls: E tells at the slots what is wished of an error -/
section
variable {X : Cx} {k j : Nat} {C : Addr} {x m : Str} {sp : Sp} {p pos apos : Pos} {e o : Expr} {es : List Expr} {ta : TE} {t : TA} {E : L2.St → XK}
theorem pe_cX (c : CalX X.prog X.w X.K X.mg X.base k x sp) (hr : Room j X.A) (hk : k ≤ j) (hg : Gl X x) (hx : ∀ σ, PassesAt (L2.CX X.prog X.w) X σ (E σ)) (ha : PA X (e :: es) t)
    (hdb : (x == ("__debug__" : Str)) = false := by decide) (he : starEach (e :: es) X.env = (false, eval e X.env) :: starEach es X.env := by rfl) (hpl : (backTo pos (starEach es X.env)).any (·.1) = false := by rfl) :
    PE X (.Call (.Name x p) (e :: es) [] pos) (tCallS sp E t) := by
  obtain ⟨f, fd, ps, F, hm, kp, b⟩ := c.ex
  exact pe_callS F (hr.mono hk) hg hm kp b hx ha hdb he hpl
/-- where nothing is raised -/
theorem pe_cXn (c : CalX X.prog X.w X.K X.mg X.base k x sp) (hr : Room j X.A) (hk : k ≤ j) (hg : Gl X x) (ha : PA X (e :: es) t)
    (hdb : (x == ("__debug__" : Str)) = false := by decide) (he : starEach (e :: es) X.env = (false, eval e X.env) :: starEach es X.env := by rfl) (hpl : (backTo pos (starEach es X.env)).any (·.1) = false := by rfl) :
    PE X (.Call (.Name x p) (e :: es) [] pos) (tCall sp [] L2.E0 t) := by
  obtain ⟨f, fd, ps, F, hm, kp, b⟩ := c.ex
  exact pe_call F (hr.mono hk) hg hm kp b .nil passL ha hdb he hpl
def tMethX (C : Addr) (m : Str) (sp : Sp) (E : L2.St → XK) (ta : TE) (t : TA) : TE := fun σ H Q => ta σ H fun x H1 => ∃ a dx fs, x = .ref a ∧ H1 a = some (.ins C dx fs) ∧ fs.lookup m = none ∧ t σ H1 fun vs H2 => sp (.ref a :: vs) H2 Q (E σ)
theorem pe_mtX {pl : Sem Bool} (c : MetX X.prog X.w X.K X.mg X.base k C m sp) (hr : Room j X.A) (hk : k ≤ j) (hx : ∀ σ, PassesAt (L2.CX X.prog X.w) X σ (E σ)) (he : PE X o ta) (ha : PA X (e :: es) t)
    (hst : starEach (e :: es) X.env = (false, eval e X.env) :: starEach es X.env := by rfl) (hpl : (backTo pos (starEach es X.env)).any (·.1) = false := by rfl)
    (ht : eval (.Call (.Attribute o m apos) (e :: es) [] pos) X.env = (do
      let ov ← eval o X.env
      standAt apos.atName
      let (f, first) ← holding [ov] (getMethod ov m pl)
      callWith pos f first (backTo pos (starEach (e :: es) X.env)) (backToKw pos (keywordEach [] X.env))) := by rfl) :
    PE X (.Call (.Attribute o m apos) (e :: es) [] pos) (tMethX C m sp E ta t) := by
  obtain ⟨f, fd, ps, hc, hm, F, b⟩ := c.ex
  refine ⟨fun pins s σ H Q I h => ?_⟩
  refine PySem.W.methodCall_KW (pl := pl) (thn (he.run pins s σ H _ I h) fun u s1 ⟨x, H1, I1, rx, a, dx, fs, ex, ea, l, q⟩ => ?_) ht
  subst ex
  obtain rfl : u = Value.ref a := rx
  refine getmeth_ok I1 ea hc hm l ?_
  refine PySem.W.callWith_K (first := [.ref a]) (h₀ := X.base) I.ok.mod.kin hm.kp (thn (ha.run pos pins s1 σ H1 _ I1 q) fun us s2 ⟨vs, H2, I2, r, q2⟩ => ⟨I2.kIn, ?_⟩) hst hpl
  exact run_fnS (us := .ref a :: us) (vs := .ref a :: vs) F (hr.mono hk) b (hx σ) I2 (.cons rfl r) q2
theorem pe_mtX0 {pl : Sem Bool} (c : MetX X.prog X.w X.K X.mg X.base k C m sp) (hr : Room j X.A) (hk : k ≤ j) (hx : ∀ σ, PassesAt (L2.CX X.prog X.w) X σ (E σ)) (he : PE X o ta)
    (ht : eval (.Call (.Attribute o m apos) [] [] pos) X.env = (do
      let ov ← eval o X.env
      standAt apos.atName
      let (f, first) ← holding [ov] (getMethod ov m pl)
      callWith pos f first (backTo pos (starEach [] X.env)) (backToKw pos (keywordEach [] X.env))) := by rfl) :
    PE X (.Call (.Attribute o m apos) [] [] pos) (tMethX C m sp E ta tNil) := by
  obtain ⟨f, fd, ps, hc, hm, F, b⟩ := c.ex
  refine ⟨fun pins s σ H Q I h => ?_⟩
  refine PySem.W.methodCall_KW (pl := pl) (thn (he.run pins s σ H _ I h) fun u s1 ⟨x, H1, I1, rx, a, dx, fs, ex, ea, l, q⟩ => ?_) ht
  subst ex
  obtain rfl : u = Value.ref a := rx
  refine getmeth_ok I1 ea hc hm l ?_
  exact PySem.W.callWith_K0 (first := [.ref a]) I1.kIn hm.kp (run_fnS (us := [.ref a]) (vs := [.ref a]) F (hr.mono hk) b (hx σ) I1 (.cons rfl .nil) q)
def tMakeX (C : Addr) (sp : Sp) (E : L2.St → XK) (t : TA) : TE := fun σ H Q => t σ H fun vs H1 => ∀ x dx, H1 x = none → H1 dx = none → dx ≠ x → sp (.ref x :: vs) (upd (upd H1 dx (.own x)) x (.ins C dx [])) (fun v H2 => v = .non ∧ Q (.ref x) H2) (E σ)
theorem run_makeX {CX : CXT} {f : Addr} {fd : FuncData} {ps : List Str} {pins : List (Addr × Obj)} {σ : L2.St} {H : Hp} {s : Shared} {Q : VK} {us : List Value} {vs : List V} {Eσ : XK} (M : Mk X.K C f) (F : FnOk X.prog X.w X.K X.mg X.base CX k f fd ps sp) (hr : Room (k + 1) X.A) (hb : Binds X.K fd ps [])
    (hx : PassesAt CX X σ Eσ) (I : Inv X pins σ H s) (r : Vals vs us)
    (h : ∀ x dx, H x = none → H dx = none → dx ≠ x → sp (.ref x :: vs) (upd (upd H dx (.own x)) x (.ins C dx [])) (fun v H2 => v = .non ∧ Q (.ref x) H2) Eσ) :
    wpAny (model X.prog X.w) X.A (call (.ref C) us) (EP X pins σ Q) X.xe s := by
  have hq := h (s.heap.objs.size + 1) s.heap.objs.size (I.hok.fresh (Nat.le_succ _)) (I.hok.fresh (Nat.le_refl _)) (Nat.ne_of_lt (Nat.lt_succ_self _))
  have I2 := Inv.made (C := C) I
  have r2 : Vals (V.ref (s.heap.objs.size + 1) :: vs) (Value.ref (s.heap.objs.size + 1) :: us) := .cons rfl r
  have hl : (Value.ref (s.heap.objs.size + 1) :: us ++ ([] : List Value)).length = ps.length := by
    have e := r2.length
    rw [F.len _ _ _ _ hq] at e
    rw [List.append_nil]
    exact e.symm
  have hb' := hb _ (Value.ref (s.heap.objs.size + 1) :: us) I2.kIn hl
  rw [List.append_nil] at hb'
  refine wpAny_call (make_map (f := f) I.kIn M.makes M.init (beq_iff_eq.mp M.fn) (codeAny_mono (F.run _ X.stack _ _ ⟨Value.ref (s.heap.objs.size + 1) :: us, []⟩ (Value.ref (s.heap.objs.size + 1) :: us) _ _ Eσ (hr.make C us [])
    (I2.env0.make C us []) hb' r2 hq) fun r s' hq' => ?_))
  cases r with
  | error e => exact hx pins _ _ e s' I2 hq'
  | ok fl =>
    cases fl with
    | ret u =>
      obtain ⟨v, H', I3, rv, ev, q3⟩ := I2.after hq'
      subst ev
      exact ⟨rv, ⟨V.ref (s.heap.objs.size + 1), H', I3, rfl, q3⟩⟩
    | next => exact False.elim hq'
    | brk => exact False.elim hq'
    | cont => exact False.elim hq'
theorem pe_mkX (c : MakX X.prog X.w X.K X.mg X.base k x C sp) (hr : Room j X.A) (hk : k + 1 ≤ j) (hg : Gl X x) (hx : ∀ σ, PassesAt (L2.CX X.prog X.w) X σ (E σ)) (ha : PA X (e :: es) t)
    (hdb : (x == ("__debug__" : Str)) = false := by decide) (he : starEach (e :: es) X.env = (false, eval e X.env) :: starEach es X.env := by rfl) (hpl : (backTo pos (starEach es X.env)).any (·.1) = false := by rfl) :
    PE X (.Call (.Name x p) (e :: es) [] pos) (tMakeX C sp E t) := by
  obtain ⟨f, fd, ps, M, F, hm, b⟩ := c.ex
  refine ⟨fun pins s σ H Q I h => ?_⟩
  refine wpAny_Call_Name_kw (ld_glob I hg hm ?_ hdb)
  refine PySem.W.callWith_K (h₀ := X.base) I.ok.mod.kin M.kp (thn (ha.run pos pins s σ H _ I h) fun us s1 ⟨vs, H1, I1, r, q⟩ => ⟨I1.kIn, ?_⟩) he hpl
  exact run_makeX M F (hr.mono hk) b (hx σ) I1 r q
/-- where nothing is let out: for the calls above in a def without errors -/
theorem no_pass : ∀ σ : L2.St, PassesAt (L2.CX X.prog X.w) X σ ((fun _ => L2.E0) σ) := fun σ pins H s e s' I c => passL pins σ H s e s' I c
end
/-- a for's body that is one try: kept together, so that for_it can name it -/
def tBody (t : TS) : TS := t
theorem pss_body {X : Cx} {b : List Stmt} {t : TS} (h : PSs X b t) : PSs X b (tBody t) := h

/-! ### x.translate({37: None}) of an ASCII text: the sign with code 37 is left out -/
section
open PySem PySem.Builtin PySem.Builtin.Str
/-- what the table tells of a sign -/
def Tl37 {prog : Program} {w : World} (f : Key → Option Value) : Prop := ∀ c : Nat, f (Sum.inl (c : Int)) = if c = 37 then some Value.none else none
theorem mapOfK {prog : Program} {w : World} {h h' : Heap} {a : Addr} {f : Key → Option Value} (m : h.MapOf (mixKind prog w) a f) (k : ∀ b o, h.get? b = some o → h'.get? b = some o) : h'.MapOf (mixKind prog w) a f := by
  obtain ⟨o, es, ep, ho, r⟩ := m
  exact ⟨o, es, ep, k _ _ ho, r⟩
theorem tl37 {prog : Program} {w : World} {A : Around} {E : Value → Shared → Prop} {s : Shared} {d : Addr} {c : Nat} {f : Key → Option Value} {Q : Mapped → Shared → Prop} (hh : A.handled = none) (hd : (d == sysModules) = false) (hm : s.heap.MapOf (mixKind prog w) d f) (hk : Tl37 (prog := prog) (w := w) f)
    (h1 : c = 37 → ∀ h' k, (∀ b o, s.heap.get? b = some o → h'.get? b = some o) → Q .drop { s with heap := h', toks := k })
    (h2 : c ≠ 37 → ∀ h' k, (∀ b o, s.heap.get? b = some o → h'.get? b = some o) → Q .keep { s with heap := h', toks := k }) : wpAny (model prog w) A (tableLookup (.ref d) c) Q E s := by
  unfold tableLookup
  refine wpAny_bind (wpAny_attempt (wpAny_bind (wpAny_mkInt ?_)))
  have hf := hk c
  by_cases hc : c = 37
  · rw [if_pos hc] at hf
    refine wpAny_getItem_of (knd := mixKind prog w) (k := Sum.inl (c : Int)) (mixKind_int prog w _ _) hm hf ?_
    exact wpAny_pure (h1 hc s.heap _ fun _ _ e => e)
  · rw [if_neg hc] at hf
    refine wpAny_getItem_missing_of (knd := mixKind prog w) (k := Sum.inl (c : Int)) (mixKind_int prog w _ _) hd hh hm hf fun h' e hx => ?_
    show wpAny _ _ (do let b ← isInstance (.ref e) (.type "LookupError"); _) _ _ _
    obtain ⟨ob, t, ho, hc2, _⟩ := hx.there
    refine wpAny_bind (wpAny_isInstance (T := "KeyError") (b := true) ⟨ob, ho, hc2⟩ (by first | rfl | kernel_rfl) ?_)
    show wpAny _ _ (if true = true then (do rule "str.translate.not-in-table"; pure Mapped.keep) else _) _ _ _
    rw [if_pos rfl]
    exact wpAny_bind (wpAny_rule (wpAny_pure (h2 hc h' _ hx.keeps)))
theorem pieces37 : ∀ (l : List Nat) (acc : Array Nat), List.foldl (fun acc (p : Str) => acc ++ p.cps) acc (l.map fun c => (⟨#[c]⟩ : Str)) = acc ++ l.toArray
  | [], acc => by
    show acc = acc ++ #[]
    rw [Array.append_empty]
  | c :: l, acc => by
    rw [List.map_cons, List.foldl_cons, pieces37 l]
    apply Array.toList_inj.mp
    simp
theorem look_new {c c' : Nat} {a b : Option Nat} {known : List (Nat × Option Nat)} (h : List.lookup c' ((c, a) :: known) = some b) : (c' = c ∧ b = a) ∨ List.lookup c' known = some b := by
  rw [List.lookup_cons] at h
  by_cases e : c' = c
  · rw [e, beq_self_eq_true] at h
    exact Or.inl ⟨e, (Option.some.inj h).symm⟩
  · have e2 : (c' == c) = false := beq_eq_false_iff_ne.mpr e
    rw [e2] at h
    exact Or.inr h
def out37 (l : List Nat) : List Nat := l.filter (fun c => decide (c ≠ 37))
def an37 (c : Nat) : Option Nat := if c = 37 then none else some c
/-- what stands while the signs are walked -/
def Tr37 (x : List Nat) (s : Shared) (rest : List Nat) (st : List Str × Nat × Bool × List (Nat × Option Nat) × Bool) (s' : Shared) : Prop :=
  ∃ (past : List Nat) (pieces : List Str) (known : List (Nat × Option Nat)) (h' : Heap) (k : Nat), x = past ++ rest ∧ st = (pieces, (out37 past).length, true, known, false) ∧ pieces.reverse = (out37 past).map (fun c => (⟨#[c]⟩ : Str)) ∧
    (∀ c a, List.lookup c known = some a → a = an37 c) ∧ s' = { s with heap := h', toks := k } ∧ ∀ b o, s.heap.get? b = some o → h'.get? b = some o
theorem Tr37.keep {x : List Nat} {s : Shared} {rest past : List Nat} {c : Nat} {pieces : List Str} {known : List (Nat × Option Nat)} {h' : Heap} {k : Nat} (hc : c ≠ 37) (h1 : x = past ++ c :: rest)
    (h3 : pieces.reverse = (out37 past).map (fun c => (⟨#[c]⟩ : Str))) (h4 : ∀ c a, List.lookup c known = some a → a = an37 c) (h6 : ∀ b o, s.heap.get? b = some o → h'.get? b = some o) :
    Tr37 x s rest (⟨#[c]⟩ :: pieces, (out37 past).length + 1, true, known, false) { s with heap := h', toks := k } := by
  have e : out37 (past ++ [c]) = out37 past ++ [c] := by
    unfold out37
    rw [List.filter_append, List.filter_cons_of_pos (by simpa using hc), List.filter_nil]
  refine ⟨past ++ [c], ⟨#[c]⟩ :: pieces, known, h', k, ?_, ?_, ?_, h4, rfl, h6⟩
  · rw [h1, List.append_assoc] <;> rfl
  · rw [e, List.length_append] <;> rfl
  · rw [e, List.reverse_cons, h3, List.map_append] <;> rfl
theorem Tr37.drop {x : List Nat} {s : Shared} {rest past : List Nat} {c : Nat} {pieces : List Str} {known : List (Nat × Option Nat)} {h' : Heap} {k : Nat} (hc : c = 37) (h1 : x = past ++ c :: rest)
    (h3 : pieces.reverse = (out37 past).map (fun c => (⟨#[c]⟩ : Str))) (h4 : ∀ c a, List.lookup c known = some a → a = an37 c) (h6 : ∀ b o, s.heap.get? b = some o → h'.get? b = some o) :
    Tr37 x s rest (pieces, (out37 past).length, true, known, false) { s with heap := h', toks := k } := by
  have e : out37 (past ++ [c]) = out37 past := by
    unfold out37
    rw [List.filter_append, List.filter_cons_of_neg (by simpa using hc), List.filter_nil, List.append_nil]
  refine ⟨past ++ [c], pieces, known, h', k, ?_, ?_, ?_, h4, rfl, h6⟩
  · rw [h1, List.append_assoc] <;> rfl
  · rw [e]
  · rw [e]; exact h3
theorem meets_tr37 {prog : Program} {w : World} (x : List Nat) (t : Tok) (d : Addr) (hd : (d == sysModules) = false) (hz : x.length ≤ 16000000) (ha : ∀ c ∈ x, c < 128) : MeetsIn prog w («str.translate» ⟨[.str (SX.S x) t, .ref d], []⟩) (fun A R s =>
    A.handled = none ∧ (∃ f, s.heap.MapOf (mixKind prog w) d f ∧ Tl37 (prog := prog) (w := w) f) ∧ ∀ (v : Value) (h' : Heap) (k : Nat), (∀ b o, s.heap.get? b = some o → h'.get? b = some o) → (∃ t', v = .str (SX.S (out37 x)) t') → R (.ok (.ret v)) { s with heap := h', toks := k }) := by
  refine .of_wp fun A R s h => ?_
  obtain ⟨hh, ⟨f, hm, hk⟩, h⟩ := h
  have hh1 : A.in1.handled = none := hh
  show wpAny _ _ (if ((SX.S x).length == 0) = true then (do rule "str.translate.empty"; ret (.str (SX.S x) t)) else (do
    let st ← forIn (SX.S x).cps (([], 0, (SX.S x).cps.all fun y => decide (y < 128), [], false) : List Str × Nat × Bool × List (Nat × Option Nat) × Bool) _
    _)) _ _ s
  by_cases h0 : ((SX.S x).length == 0) = true
  · rw [if_pos h0]
    have hx : x = [] := by
      rw [beq_iff_eq, SX.S_len] at h0
      exact List.eq_nil_of_length_eq_zero h0
    subst hx
    exact wpAny_bind (wpAny_rule (wpAny_pure ⟨_, rfl, h _ s.heap s.toks (fun _ _ e => e) ⟨t, rfl⟩⟩))
  · rw [if_neg h0]
    have hfast : ((SX.S x).cps.all fun y => decide (y < 128)) = true := by
      rw [← Array.all_toList]
      show (x.toArray.toList.all _) = true
      rw [List.toList_toArray, List.all_eq_true]
      exact fun c hc => decide_eq_true (ha c hc)
    rw [hfast]
    refine wpAny_bind (MeetsSeq2.wpAny_forIn_array _ (Tr37 x s) _ (fun c rest st s' hI => ?turn) (fun st s' hI => ?fin) (SX.S x).cps ([], 0, true, [], false) ?h0)
    case h0 =>
      refine ⟨[], [], [], s.heap, s.toks, ?_, rfl, rfl, fun c a z => ?_, rfl, fun _ _ e => e⟩
      · show x = [] ++ x.toArray.toList
        rw [List.toList_toArray, List.nil_append]
      · rw [List.lookup_nil] at z
        cases z
    case turn =>
      obtain ⟨past, pieces, known, h', k, e1, e2, e3, e4, e5, e6⟩ := hI
      subst e2
      subst e5
      have hpl : (out37 past).length ≤ 16000000 := by
        have q := congrArg List.length e1
        rw [List.length_append] at q
        exact Nat.le_trans (List.length_filter_le _ _) (by omega)
      have hm' : ({ s with heap := h', toks := k } : Shared).heap.MapOf (mixKind prog w) d f := mapOfK hm e6
      show wpAny _ _ (if tooLong (out37 past).length = true then _ else (if true = true then _ else _)) _ _ _
      rw [show tooLong (out37 past).length = false from PyProof.Rows.short24 (by omega), if_neg Bool.false_ne_true]
      rw [if_pos rfl]
      cases hl : List.lookup c known with
      | some a =>
        have ha2 := e4 c a hl
        subst ha2
        refine wpAny_bind (wpAny_pure ?_)
        by_cases hc : c = 37
        · have e : an37 c = none := if_pos hc
          rw [e]
          exact wpAny_pure (Tr37.drop hc e1 e3 e4 e6)
        · have e : an37 c = some c := if_neg hc
          rw [e]
          exact wpAny_pure (Tr37.keep hc e1 e3 e4 e6)
      | none =>
        have new : ∀ b, b = an37 c → ∀ c' a, List.lookup c' ((c, b) :: known) = some a → a = an37 c' := fun b hb c' a z => by
          rcases look_new z with ⟨q1, q2⟩ | q
          · rw [q2, hb, q1]
          · exact e4 c' a q
        refine wpAny_bind (tl37 hh1 hd hm' hk (fun hw h2 k2 k3 => ?_) (fun hw h2 k2 k3 => ?_))
        · have e : an37 c = none := if_pos hw
          refine wpAny_bind (wpAny_pure ?_)
          refine wpAny_pure ?_
          exact Tr37.drop (known := (c, none) :: known) hw e1 e3 (new none e.symm) (fun b o z => k3 b o (e6 b o z))
        · have e : an37 c = some c := if_neg hw
          refine wpAny_bind (wpAny_pure ?_)
          refine wpAny_pure ?_
          exact Tr37.keep (known := (c, some c) :: known) hw e1 e3 (new (some c) e.symm) (fun b o z => k3 b o (e6 b o z))
    case fin =>
      obtain ⟨past, pieces, known, h', k, e1, e2, e3, e4, e5, e6⟩ := hI
      subst e2
      subst e5
      have ex : x = past := by rw [e1, List.append_nil]
      have hl : (out37 past).length ≤ 16000000 := by
        rw [← ex]
        exact Nat.le_trans (List.length_filter_le _ _) hz
      show wpAny _ _ (if tooLong (out37 past).length = true then _ else retStr { cps := List.foldl (fun acc (p : Str) => acc ++ p.cps) #[] pieces.reverse }) _ _ _
      rw [show tooLong (out37 past).length = false from PyProof.Rows.short24 (by omega), if_neg Bool.false_ne_true, e3, pieces37, ← ex]
      have ev : (⟨#[] ++ (out37 x).toArray⟩ : Str) = SX.S (out37 x) := by
        rw [Array.empty_append] <;> rfl
      rw [ev]
      exact wpAny_bind (wpAny_mkStr (wpAny_pure ⟨_, rfl, h _ h' _ e6 ⟨_, rfl⟩⟩) (by rw [SX.S_len, sizeLine_eq, ex]; omega))
def rTr37 : V → List V → Hp → VK → Prop := fun x xs H Q => ∃ (t : Str) (d : Addr), x = .str t ∧ xs = [.ref d] ∧ H d = some (.dK [(Sum.inl 37, .non)]) ∧ (∀ c ∈ t.cps.toList, c < 128) ∧ t.length ≤ 16000000 ∧ Q (.str (SX.S (out37 t.cps.toList))) H
theorem mt_tr37 {X : Cx} (hc : X.calm = true) : MtR X "str.translate" rTr37 := by
  intro pins s σ H x xs v us Q I rx rs h
  obtain ⟨a, d, rfl, rfl, hd, ha, h3, h⟩ := h
  obtain ⟨t, rfl⟩ := rx
  obtain ⟨_, low, vs, kv, dd⟩ := dk_of I.hok hd
  cases rs with
  | cons r1 rs =>
    cases rs
    cases r1
    have ea : SX.S a.cps.toList = a := SX.S_tl a
    have hm := dd.mapOf
    have tl : Tl37 (prog := X.prog) (w := X.w) (valueAt vs) := by
      cases kv with
      | cons p r =>
        cases r
        rename_i b
        obtain ⟨k1, v1⟩ := b
        obtain ⟨e1, e2⟩ := p
        have e1 : Sum.inl 37 = k1 := e1
        have e2 : v1 = Value.none := e2
        subst e1 e2
        intro c
        unfold valueAt
        by_cases hc : c = 37
        · subst hc
          rfl
        · rw [if_neg hc]
          have hne : ¬ ((Sum.inl 37 : Key) = Sum.inl (c : Int)) := fun z => hc (by have := Sum.inl.inj z; omega)
          simp [List.find?, hne]
    rw [← ea]
    refine call_meetsIn F.slot_str_translate (typeIs_str _ _ _) F.entry_str_translate (F.args_str_translate_2 _ _) (meets_tr37 a.cps.toList t d low (by rw [Array.length_toList]; exact h3) ha) ⟨I.ok.hd hc, ⟨_, hm, tl⟩, ?_⟩
    intro v h' k hk ⟨t', e⟩
    subst e
    exact ⟨.str _, H, I.kept (t' := k) hk, ⟨t', rfl⟩, h⟩
end

def topS (i : Nat) : Stmt := PySem.Challenge.pw_oathledger_k10_letters.main.body.getD i (.Pass ⟨0, 0, 0, 0⟩)
abbrev s_is_integer : Stmt := topS 11
theorem sc_is_integer : FnScope ["value", "least", "greatest"] ["value", "least", "greatest"] (defScope s_is_integer) := ⟨rfl, rfl, rfl, by decide +kernel, rfl, by decide +kernel, by decide +kernel⟩
abbrev s_is_printable : Stmt := topS 12
theorem sc_is_printable : FnScope ["value"] ["value"] (defScope s_is_printable) := ⟨rfl, rfl, rfl, by decide +kernel, rfl, by decide +kernel, by decide +kernel⟩
abbrev s_is_short : Stmt := topS 13
theorem sc_is_short : FnScope ["value", "most"] ["value", "most"] (defScope s_is_short) := ⟨rfl, rfl, rfl, by decide +kernel, rfl, by decide +kernel, by decide +kernel⟩
abbrev s_is_client : Stmt := topS 15
theorem sc_is_client : FnScope ["value"] ["value"] (defScope s_is_client) := ⟨rfl, rfl, rfl, by decide +kernel, rfl, by decide +kernel, by decide +kernel⟩
abbrev s_is_number : Stmt := topS 16
theorem sc_is_number : FnScope ["value"] ["value"] (defScope s_is_number) := ⟨rfl, rfl, rfl, by decide +kernel, rfl, by decide +kernel, by decide +kernel⟩
abbrev s_is_command : Stmt := topS 17
theorem sc_is_command : FnScope ["value", "client", "number", "text"] ["value"] (defScope s_is_command) := ⟨rfl, rfl, rfl, by decide +kernel, rfl, by decide +kernel, by decide +kernel⟩
abbrev s_is_command_list : Stmt := topS 18
theorem sc_is_command_list : FnScope ["value", "before", "command"] ["value"] (defScope s_is_command_list) := ⟨rfl, rfl, rfl, by decide +kernel, rfl, by decide +kernel, by decide +kernel⟩
abbrev s_is_block : Stmt := topS 20
theorem sc_is_block : FnScope ["value", "epoch", "parent", "height", "commands"] ["value"] (defScope s_is_block) := ⟨rfl, rfl, rfl, by decide +kernel, rfl, by decide +kernel, by decide +kernel⟩
abbrev s_is_height_above : Stmt := topS 21
theorem sc_is_height_above : FnScope ["parent", "height"] ["parent", "height"] (defScope s_is_height_above) := ⟨rfl, rfl, rfl, by decide +kernel, rfl, by decide +kernel, by decide +kernel⟩
abbrev s_holds_vouch : Stmt := topS 23
theorem sc_holds_vouch : FnScope ["parts"] ["parts"] (defScope s_holds_vouch) := ⟨rfl, rfl, rfl, by decide +kernel, rfl, by decide +kernel, by decide +kernel⟩
abbrev s_holds_block : Stmt := topS 24
theorem sc_holds_block : FnScope ["parts"] ["parts"] (defScope s_holds_block) := ⟨rfl, rfl, rfl, by decide +kernel, rfl, by decide +kernel, by decide +kernel⟩
abbrev s_holds_claim : Stmt := topS 25
theorem sc_holds_claim : FnScope ["parts"] ["parts"] (defScope s_holds_claim) := ⟨rfl, rfl, rfl, by decide +kernel, rfl, by decide +kernel, by decide +kernel⟩
abbrev s_holds_give : Stmt := topS 26
theorem sc_holds_give : FnScope ["parts", "height"] ["parts"] (defScope s_holds_give) := ⟨rfl, rfl, rfl, by decide +kernel, rfl, by decide +kernel, by decide +kernel⟩
abbrev s_holds_request : Stmt := topS 27
theorem sc_holds_request : FnScope ["parts"] ["parts"] (defScope s_holds_request) := ⟨rfl, rfl, rfl, by decide +kernel, rfl, by decide +kernel, by decide +kernel⟩
abbrev s_holds_answer : Stmt := topS 28
theorem sc_holds_answer : FnScope ["parts"] ["parts"] (defScope s_holds_answer) := ⟨rfl, rfl, rfl, by decide +kernel, rfl, by decide +kernel, by decide +kernel⟩
abbrev s_is_letter : Stmt := topS 30
theorem sc_is_letter : FnScope ["value", "holds"] ["value"] (defScope s_is_letter) := ⟨rfl, rfl, rfl, by decide +kernel, rfl, by decide +kernel, by decide +kernel⟩
abbrev s_route : Stmt := topS 31
theorem sc_route : FnScope ["letter"] ["letter"] (defScope s_route) := ⟨rfl, rfl, rfl, by decide +kernel, rfl, by decide +kernel, by decide +kernel⟩
abbrev s_check_letter : Stmt := topS 32
theorem sc_check_letter : FnScope ["group", "sender", "receiver", "letter", "way", "fits"] ["group", "sender", "receiver", "letter"] (defScope s_check_letter) := ⟨rfl, rfl, rfl, by decide +kernel, rfl, by decide +kernel, by decide +kernel⟩
abbrev s_Group____init__ : Stmt := inClass (topS 34) 0
theorem sc_Group____init__ : FnScope ["self", "faults"] ["self", "faults"] (defScope s_Group____init__) := ⟨rfl, rfl, rfl, by decide +kernel, rfl, by decide +kernel, by decide +kernel⟩
abbrev s_Group__is_member : Stmt := inClass (topS 34) 2
theorem sc_Group__is_member : FnScope ["self", "value"] ["self", "value"] (defScope s_Group__is_member) := ⟨rfl, rfl, rfl, by decide +kernel, rfl, by decide +kernel, by decide +kernel⟩
abbrev s__law_draws : Stmt := topS 36
theorem sc__law_draws : FnScope ["script", "draws", "k", "cell", "step", "mixed"] ["script"] (defScope s__law_draws) := ⟨rfl, rfl, rfl, by decide +kernel, rfl, by decide +kernel, by decide +kernel⟩
abbrev s__law_next : Stmt := topS 37
theorem sc__law_next : FnScope ["draws", "at", "many", "index"] ["draws", "at", "many"] (defScope s__law_next) := ⟨rfl, rfl, rfl, by decide +kernel, rfl, by decide +kernel, by decide +kernel⟩
abbrev s__law_big : Stmt := topS 38
theorem sc__law_big : FnScope ["draws", "at", "many", "number", "k"] ["draws", "at", "many"] (defScope s__law_big) := ⟨rfl, rfl, rfl, by decide +kernel, rfl, by decide +kernel, by decide +kernel⟩
abbrev s__law_char : Stmt := topS 39
theorem sc__law_char : FnScope ["number", "chars"] ["number"] (defScope s__law_char) := ⟨rfl, rfl, rfl, by decide +kernel, rfl, by decide +kernel, by decide +kernel⟩
abbrev s__law_string : Stmt := topS 40
theorem sc__law_string : FnScope ["draws", "at", "most", "size", "first", "step", "text", "k"] ["draws", "at", "most"] (defScope s__law_string) := ⟨rfl, rfl, rfl, by decide +kernel, rfl, by decide +kernel, by decide +kernel⟩
abbrev s__law_command : Stmt := topS 41
theorem sc__law_command : FnScope ["draws", "at", "client", "number"] ["draws", "at", "client"] (defScope s__law_command) := ⟨rfl, rfl, rfl, by decide +kernel, rfl, by decide +kernel, by decide +kernel⟩
abbrev s__law_commands : Stmt := topS 42
theorem sc__law_commands : FnScope ["draws", "at", "most", "commands", "client", "k"] ["draws", "at", "most"] (defScope s__law_commands) := ⟨rfl, rfl, rfl, by decide +kernel, rfl, by decide +kernel, by decide +kernel⟩
abbrev s__law_block : Stmt := topS 43
theorem sc__law_block : FnScope ["draws", "at", "most", "parent", "epoch", "height"] ["draws", "at", "most"] (defScope s__law_block) := ⟨rfl, rfl, rfl, by decide +kernel, rfl, by decide +kernel, by decide +kernel⟩
abbrev s__law_truth : Stmt := topS 44
theorem sc__law_truth : FnScope ["actual", "expected"] ["actual", "expected"] (defScope s__law_truth) := ⟨rfl, rfl, rfl, by decide +kernel, rfl, by decide +kernel, by decide +kernel⟩
abbrev s__law_letter : Stmt := topS 45
theorem sc__law_letter : FnScope ["draws", "at", "kind", "block", "number"] ["draws", "at"] (defScope s__law_letter) := ⟨rfl, rfl, rfl, by decide +kernel, rfl, by decide +kernel, by decide +kernel⟩
abbrev s__law_spoilt : Stmt := topS 46
theorem sc__law_spoilt : FnScope ["letter", "draws", "at", "choice"] ["letter", "draws", "at"] (defScope s__law_spoilt) := ⟨rfl, rfl, rfl, by decide +kernel, rfl, by decide +kernel, by decide +kernel⟩
abbrev s__law_route : Stmt := topS 47
theorem sc__law_route : FnScope ["letter"] ["letter"] (defScope s__law_route) := ⟨rfl, rfl, rfl, by decide +kernel, rfl, by decide +kernel, by decide +kernel⟩
abbrev s__law_checked : Stmt := topS 48
theorem sc__law_checked : FnScope ["group", "sender", "receiver", "letter"] ["group", "sender", "receiver", "letter"] (defScope s__law_checked) := ⟨rfl, rfl, rfl, by decide +kernel, rfl, by decide +kernel, by decide +kernel⟩
abbrev s__law_end : Stmt := topS 49
theorem sc__law_end : FnScope ["draws", "at", "choice"] ["draws", "at"] (defScope s__law_end) := ⟨rfl, rfl, rfl, by decide +kernel, rfl, by decide +kernel, by decide +kernel⟩
abbrev s__law_machine : Stmt := topS 50
theorem sc__law_machine : FnScope ["end", "machines"] ["end", "machines"] (defScope s__law_machine) := ⟨rfl, rfl, rfl, by decide +kernel, rfl, by decide +kernel, by decide +kernel⟩
abbrev s__law_client : Stmt := topS 51
theorem sc__law_client : FnScope ["end"] ["end"] (defScope s__law_client) := ⟨rfl, rfl, rfl, by decide +kernel, rfl, by decide +kernel, by decide +kernel⟩
abbrev s__law_fits : Stmt := topS 52
theorem sc__law_fits : FnScope ["way", "sender", "receiver", "machines"] ["way", "sender", "receiver", "machines"] (defScope s__law_fits) := ⟨rfl, rfl, rfl, by decide +kernel, rfl, by decide +kernel, by decide +kernel⟩
abbrev s_law : Stmt := topS 53
theorem sc_law : FnScope ["script", "draws", "at", "faults", "group", "turn", "letter", "way", "wrong", "turn_again", "sender", "receiver", "actual"] ["script"] (defScope s_law) := ⟨rfl, rfl, rfl, by decide +kernel, rfl, by decide +kernel, by decide +kernel⟩
structure Txt (K : PySem.W.Frag) (mg : Str → Option Value) (w : World) (C_Group : Addr) (C_BadGroup : Addr) (C_BadLetter : Addr) (C_FORMS : Addr) : Prop where
  d_is_integer : DefOk K mg "is_integer" s_is_integer ["value", "least", "greatest"]
  d_is_printable : DefOk K mg "is_printable" s_is_printable ["value"]
  d_is_short : DefOk K mg "is_short" s_is_short ["value", "most"]
  d_is_client : DefOk K mg "is_client" s_is_client ["value"]
  d_is_number : DefOk K mg "is_number" s_is_number ["value"]
  d_is_command : DefOk K mg "is_command" s_is_command ["value"]
  d_is_command_list : DefOk K mg "is_command_list" s_is_command_list ["value"]
  d_is_block : DefOk K mg "is_block" s_is_block ["value"]
  d_is_height_above : DefOk K mg "is_height_above" s_is_height_above ["parent", "height"]
  d_holds_vouch : DefOk K mg "holds_vouch" s_holds_vouch ["parts"]
  d_holds_block : DefOk K mg "holds_block" s_holds_block ["parts"]
  d_holds_claim : DefOk K mg "holds_claim" s_holds_claim ["parts"]
  d_holds_give : DefOk K mg "holds_give" s_holds_give ["parts"]
  d_holds_request : DefOk K mg "holds_request" s_holds_request ["parts"]
  d_holds_answer : DefOk K mg "holds_answer" s_holds_answer ["parts"]
  d_is_letter : DefOk K mg "is_letter" s_is_letter ["value"]
  d_route : DefOk K mg "route" s_route ["letter"]
  d_check_letter : DefOk K mg "check_letter" s_check_letter ["group", "sender", "receiver", "letter"]
  d__law_draws : DefOk K mg "_law_draws" s__law_draws ["script"]
  d__law_next : DefOk K mg "_law_next" s__law_next ["draws", "at", "many"]
  d__law_big : DefOk K mg "_law_big" s__law_big ["draws", "at", "many"]
  d__law_char : DefOk K mg "_law_char" s__law_char ["number"]
  d__law_string : DefOk K mg "_law_string" s__law_string ["draws", "at", "most"]
  d__law_command : DefOk K mg "_law_command" s__law_command ["draws", "at", "client"]
  d__law_commands : DefOk K mg "_law_commands" s__law_commands ["draws", "at", "most"]
  d__law_block : DefOk K mg "_law_block" s__law_block ["draws", "at", "most"]
  d__law_truth : DefOk K mg "_law_truth" s__law_truth ["actual", "expected"]
  d__law_letter : DefOk K mg "_law_letter" s__law_letter ["draws", "at"]
  d__law_spoilt : DefOk K mg "_law_spoilt" s__law_spoilt ["letter", "draws", "at"]
  d__law_route : DefOk K mg "_law_route" s__law_route ["letter"]
  d__law_checked : DefOk K mg "_law_checked" s__law_checked ["group", "sender", "receiver", "letter"]
  d__law_end : DefOk K mg "_law_end" s__law_end ["draws", "at"]
  d__law_machine : DefOk K mg "_law_machine" s__law_machine ["end", "machines"]
  d__law_client : DefOk K mg "_law_client" s__law_client ["end"]
  d__law_fits : DefOk K mg "_law_fits" s__law_fits ["way", "sender", "receiver", "machines"]
  d_law : DefOk K mg "law" s_law ["script"]
  cl_Group : Cls K C_Group
  g_Group : mg "Group" = some (.ref C_Group)
  na_Group_faults : NoAttr K C_Group "faults"
  na_Group_machines : NoAttr K C_Group "machines"
  na_Group_quorum : NoAttr K C_Group "quorum"
  na_Group_blocking : NoAttr K C_Group "blocking"
  mk_Group : MakOk K C_Group "Group.__init__" s_Group____init__ ["self", "faults"]
  me_Group__is_member : MethOk K C_Group "is_member" "Group.is_member" s_Group__is_member ["self", "value"]
  x_BadGroup : ExOk K mg "BadGroup" C_BadGroup
  x_BadLetter : ExOk K mg "BadLetter" C_BadLetter
  g_FORMS : mg "FORMS" = some (.ref C_FORMS)
  kd_FORMS : ∃ es n, KDict K w C_FORMS es n
  kf_FORMS_vouch : ∃ f, mg "holds_vouch" = some (.ref f) ∧ KDct K w C_FORMS "vouch" (.ref f)
  kf_FORMS_propose : ∃ f, mg "holds_block" = some (.ref f) ∧ KDct K w C_FORMS "propose" (.ref f)
  kf_FORMS_vote : ∃ f, mg "holds_block" = some (.ref f) ∧ KDct K w C_FORMS "vote" (.ref f)
  kf_FORMS_ready : ∃ f, mg "holds_block" = some (.ref f) ∧ KDct K w C_FORMS "ready" (.ref f)
  kf_FORMS_claim : ∃ f, mg "holds_claim" = some (.ref f) ∧ KDct K w C_FORMS "claim" (.ref f)
  kf_FORMS_give : ∃ f, mg "holds_give" = some (.ref f) ∧ KDct K w C_FORMS "give" (.ref f)
  kf_FORMS_command : ∃ f, mg "holds_request" = some (.ref f) ∧ KDct K w C_FORMS "command" (.ref f)
  kf_FORMS_answer : ∃ f, mg "holds_answer" = some (.ref f) ∧ KDct K w C_FORMS "answer" (.ref f)
  km_FORMS_0 : PySem.W.nsIn K C_FORMS "" = some none
  u_BadGroup_BadGroup : PySem.W.subIn K (.ref C_BadGroup) (.ref C_BadGroup) = some true
  u_BadLetter_BadLetter : PySem.W.subIn K (.ref C_BadLetter) (.ref C_BadLetter) = some true
  c_MOST_ANSWER : ∃ u, mg "MOST_ANSWER" = some u ∧ RelV (.int 200) u
  c_MOST_CLIENTS : ∃ u, mg "MOST_CLIENTS" = some u ∧ RelV (.int 100) u
  c_MOST_FAULTS : ∃ u, mg "MOST_FAULTS" = some u ∧ RelV (.int 10) u
  c_MOST_NUMBER : ∃ u, mg "MOST_NUMBER" = some u ∧ RelV (.int 1000000000000) u
  c_MOST_TEXT : ∃ u, mg "MOST_TEXT" = some u ∧ RelV (.int 240) u
  z_abs : mg "abs" = none
  z_bool : mg "bool" = none
  z_int : mg "int" = none
  z_isinstance : mg "isinstance" = none
  z_len : mg "len" = none
  z_min : mg "min" = none
  z_range : mg "range" = none
  z_str : mg "str" = none
  z_tuple : mg "tuple" = none
set_option pp.maxSteps 150
/-! ### the draws of a script -/
def Dr (H : Hp) (D A : Addr) : Prop := D ≠ A ∧ ∃ (ds : List Int) (n : Nat), H D = some (.lst (ds.map V.int)) ∧ H A = some (.lst [.int n]) ∧ (∀ d ∈ ds, 0 ≤ d ∧ d < 1000) ∧ ds.length ≤ 2520
/-- all that was tracked but A is as it was -/
def Mod (A : Addr) (H H' : Hp) : Prop := ∀ b o, b ≠ A → H b = some o → H' b = some o
theorem Mod.refl {A : Addr} {H : Hp} : Mod A H H := fun _ _ _ h => h
theorem Mod.trans {A : Addr} {H H1 H2 : Hp} (a : Mod A H H1) (b : Mod A H1 H2) : Mod A H H2 := fun c o n h => b c o n (a c o n h)
theorem Same.mod {A : Addr} {H H' : Hp} (s : Same H H') : Mod A H H' := fun b o _ h => s b o h
theorem Mod.new {A p : Addr} {o : HO} {H H' : Hp} (s : Mod A H H') (h : H' p = none) : Mod A H (upd H' p o) := fun b u n e => by
  rw [upd_ne (ne_of_none (s b u n e) h)]
  exact s b u n e
theorem Dr.new {D A p : Addr} {o : HO} {H : Hp} (d : Dr H D A) (h : H p = none) : Dr (upd H p o) D A := by
  obtain ⟨ne, ds, n, h1, h2, h3⟩ := d
  exact ⟨ne, ds, n, by rw [upd_ne (ne_of_none h1 h)]; exact h1, by rw [upd_ne (ne_of_none h2 h)]; exact h2, h3⟩
theorem Dr.same {D A : Addr} {H H' : Hp} (d : Dr H D A) (s : Same H H') : Dr H' D A := by
  obtain ⟨ne, ds, n, h1, h2, h3⟩ := d
  exact ⟨ne, ds, n, s _ _ h1, s _ _ h2, h3⟩
/-- an object that is neither D nor A is changed -/
theorem Dr.put {D A p : Addr} {o : HO} {H : Hp} (d : Dr H D A) (h1 : p ≠ D) (h2 : p ≠ A) : Dr (upd H p o) D A := by
  obtain ⟨ne, ds, n, e1, e2, h3⟩ := d
  exact ⟨ne, ds, n, by rw [upd_ne h1.symm]; exact e1, by rw [upd_ne h2.symm]; exact e2, h3⟩
theorem Dr.freshA {D A p : Addr} {H : Hp} (d : Dr H D A) (h : H p = none) : p ≠ A := by
  obtain ⟨_, _, _, _, e, _⟩ := d
  exact (ne_of_none e h).symm
theorem Dr.freshD {D A p : Addr} {H : Hp} (d : Dr H D A) (h : H p = none) : p ≠ D := by
  obtain ⟨_, _, _, e, _⟩ := d
  exact (ne_of_none e h).symm
theorem Mod.free {A p : Addr} {H H' : Hp} (s : Mod A H H') (d : ∃ o, H' A = some o) (h : H' p = none) : H p = none := by
  cases e : H p with
  | none => rfl
  | some o =>
    by_cases hp : p = A
    · subst hp
      obtain ⟨o', e'⟩ := d
      rw [e'] at h; cases h
    · rw [s p o hp e] at h; cases h
theorem Dr.A_in {D A : Addr} {H : Hp} (d : Dr H D A) : ∃ o, H A = some o := by
  obtain ⟨_, _, _, _, e, _⟩ := d
  exact ⟨_, e⟩
theorem rng_app {ds : List Int} {x : Int} (h : ∀ d ∈ ds, 0 ≤ d ∧ d < 1000) (h0 : 0 ≤ x) (h1 : x < 1000) : ∀ d ∈ ds ++ [x], 0 ≤ d ∧ d < 1000 := fun d hd => by
  rcases List.mem_append.mp hd with hd | hd
  · exact h d hd
  · rw [List.mem_singleton.mp hd]; exact ⟨h0, h1⟩

def spDraws (K : PySem.W.Frag) : Sp := fun vs H Q _ => ∃ (a : Addr) (ns : List Int), vs = [.ref a] ∧ SqL K H a (ns.map V.int) ∧ ns.length ≤ 63 ∧
  ∀ (H' : Hp) (D : Addr) (ds : List Int), Same H H' → H D = none → H' D = some (.lst (ds.map V.int)) → (∀ d ∈ ds, 0 ≤ d ∧ d < 1000) → ds.length ≤ 2520 → Q (.ref D) H'
def spNext : Sp := fun vs H Q _ => ∃ (D A : Addr) (m : Int), vs = [.ref D, .ref A, .int m] ∧ Dr H D A ∧ 1 ≤ m ∧
  ∀ (H' : Hp) (r : Int), 0 ≤ r → r < m → Mod A H H' → Dr H' D A → Q (.int r) H'
section
variable {P : Program} {w : World} {K : PySem.W.Frag} {mg : Str → Option Value} {base : Heap}
theorem c__law_next {C_Group : Addr} {C_BadGroup : Addr} {C_BadLetter : Addr} {C_FORMS : Addr} (T : Txt K mg w C_Group C_BadGroup C_BadLetter C_FORMS) : Cal P w K mg base 1 "_law_next" spNext [] := by
  refine cal T.d__law_next sc__law_next (fun vs H Q E h => ?_) (fun f cdv A outer s H vs Q E hr h => ?_)
  · obtain ⟨D, A, m, rfl, _⟩ := h; rfl
  obtain ⟨D, A, m, rfl, dr, hm, q⟩ := h
  obtain ⟨ne, ds, n, hD, hA, hrg, hle⟩ := id dr
  refine ⟨_, (pss_cons (ps_set (i := 3) sc__law_next.nd rfl (Or.inl rfl) (pe_ix (kixl (K := K)) (pv 1) pe_int (fun _ _ => rfl)))
      (pss_cons (ps_asg (pe_op op_add (pv 3) pe_int) (pg_sub (pv 1) pe_int set_list))
      (pss_cons (ps_if (pt_cmpR op_lt (pv 3) (pe_callB (klen (K := K)) (by rfl) T.z_len (by decide +kernel) (pa_cons (pv 0) pa_nil)) (nomark _)) (pss_one (ps_ret (pe_op op_mod (pe_callTy call_int1 (by rfl) T.z_int (by decide +kernel) (pa_cons (pe_ix (kixl (K := K)) (pv 0) (pv 3) (fun _ _ => rfl)) pa_nil)) (pv 2)))) pss_nil)
      (pss_one (ps_ret pe_int))))), ?_⟩
  walk_at "rds"
  refine ⟨A, _, (0 : Int), _, rfl, rfl, sq hA, atI_nat (j := 0) rfl, ?_⟩
  walk_at "rds"
  refine ⟨A, _, (0 : Int), 0, rfl, rfl, hA, rfl, ?_⟩
  have hD' : (upd H A (.lst [.int ((n : Int) + 1)])) D = some (.lst (ds.map V.int)) := by rw [upd_ne ne]; exact hD
  have md : Mod A H (upd H A (.lst [.int ((n : Int) + 1)])) := fun b o hb e => by rw [upd_ne hb]; exact e
  have dr' : Dr (upd H A (.lst [.int ((n : Int) + 1)])) D A := ⟨ne, ds, n + 1, hD', upd_same, hrg, hle⟩
  walk_at "rds"
  refine ⟨D, _, rfl, .inl (sq hD'), ?_⟩
  walk_at "rds"
  refine ite2 (fun e => ?_) (fun e => ?_)
  · have e := of_decide_eq_true e
    rw [List.length_map] at e
    have e1 : n < ds.length := by omega
    have g : (ds.map V.int)[n]? = some (.int ds[n]) := by
      rw [List.getElem?_map, List.getElem?_eq_getElem e1]; rfl
    walk_at "rds"
    refine ⟨D, _, (n : Int), _, rfl, rfl, sq hD', atI_nat g, ?_⟩
    walk_at "rds"
    exact q _ _ (Int.emod_nonneg _ (by omega)) (Int.emod_lt_of_pos _ (by omega)) md dr'
  · exact q _ _ (by omega) (by omega) md dr'
theorem c__law_draws {C_Group : Addr} {C_BadGroup : Addr} {C_BadLetter : Addr} {C_FORMS : Addr} (T : Txt K mg w C_Group C_BadGroup C_BadLetter C_FORMS) : Cal P w K mg base 1 "_law_draws" (spDraws K) [] := by
  refine cal T.d__law_draws sc__law_draws (fun vs H Q E h => ?_) (fun f cdv A outer s H vs Q E hr h => ?_)
  · obtain ⟨a, ns, rfl, _⟩ := h; rfl
  obtain ⟨a, ns, rfl, hS, hlen, q⟩ := h
  refine ⟨_, (pss_cons (ps_set (i := 1) sc__law_draws.nd rfl (Or.inl rfl) (pe_lst pa_nil))
      (pss_cons (ps_for PassesOwn.never rfl (pi_range1 (by rfl) T.z_range (pa_cons (pe_callB (klen (K := K)) (by rfl) T.z_len (by decide +kernel) (pa_cons (pv 0) pa_nil)) pa_nil)) (pg_name (i := 2) sc__law_draws.nd rfl (Or.inl rfl)) (pss_cons (ps_set (i := 3) sc__law_draws.nd rfl (Or.inl rfl) (pe_callB call_abs (by rfl) T.z_abs (by decide +kernel) (pa_cons (pe_ix (kixl (K := K)) (pv 0) (pv 2) (fun _ _ => rfl)) pa_nil)))
      (pss_one (ps_if (pt_cmpR op_ge (pv 3) (pe_op op_pow pe_int pe_int) (nomark _)) (pss_one (ps_for PassesOwn.never rfl (pi_range1 (by rfl) T.z_range (pa_cons pe_int pa_nil)) (pg_name (i := 4) sc__law_draws.nd rfl (Or.inl rfl)) (pss_cons (ps_expr (pe_bm PySem.F.plainAttrs_list PySem.F.slot_list_append PySem.F.type_list_append mt_append (pv 1) (pa_cons (pe_op op_mod (pe_callTy call_int1 (by rfl) T.z_int (by decide +kernel) (pa_cons (pv 3) pa_nil)) pe_int) pa_nil)))
      (pss_one (ps_set (i := 3) sc__law_draws.nd rfl (Or.inl rfl) (pe_op op_fdiv (pv 3) pe_int)))))) (pss_cons (ps_set (i := 5) sc__law_draws.nd rfl (Or.inl rfl) (pe_op op_add (pv 3) pe_int))
      (pss_one (ps_for PassesOwn.never rfl (pi_range1 (by rfl) T.z_range (pa_cons pe_int pa_nil)) (pg_name (i := 4) sc__law_draws.nd rfl (Or.inl rfl)) (pss_cons (ps_set (i := 5) sc__law_draws.nd rfl (Or.inl rfl) (pe_op op_mod (pe_callTy call_int1 (by rfl) T.z_int (by decide +kernel) (pa_cons (pe_op op_add (pe_op op_add (pe_op op_mul (pv 5) pe_int) (pe_op op_mul pe_int (pe_op op_add (pv 2) (pv 4)))) pe_int) pa_nil)) pe_int))
      (pss_cons (ps_set (i := 5) sc__law_draws.nd rfl (Or.inl rfl) (pe_op op_mod (pe_callTy call_int1 (by rfl) T.z_int (by decide +kernel) (pa_cons (pe_op op_add (pe_op op_mul (pv 5) pe_int) pe_int) pa_nil)) pe_int))
      (pss_one (ps_expr (pe_bm PySem.F.plainAttrs_list PySem.F.slot_list_append PySem.F.type_list_append mt_append (pv 1) (pa_cons (pe_op op_mod (pe_callTy call_int1 (by rfl) T.z_int (by decide +kernel) (pa_cons (pe_op op_fdiv (pv 5) pe_int) pa_nil)) pe_int) pa_nil)))))))))))))
      (pss_one (ps_ret (pv 1))))), ?_⟩
  refine ⟨by decide, fun D hD => ?_⟩
  walk_at "rds"
  refine ⟨a, _, rfl, .inl ((same_upd hD).seq hS), ?_⟩
  refine ⟨_, rfl, by rw [List.length_map]; omega, by rw [List.length_map]; omega, ?_⟩
  refine for_it walk_range (Pv := fun i σ H' => ∃ y2 y3 y4 y5 ds, σ = [some (.ref a), some (.ref D), y2, y3, y4, y5] ∧ Same H H' ∧ H' D = some (.lst (ds.map V.int)) ∧ (∀ d ∈ ds, 0 ≤ d ∧ d < 1000) ∧ ds.length ≤ 40 * i) ⟨none, none, none, none, [], rfl, same_upd hD, upd_same, by simp, by simp⟩ (fun _ _ _ _ _ => trivial) (fun i x σ H1 H2 hi hp hy => ?_) (fun σ H1 hp => ?_)
  · obtain ⟨y2, y3, y4, y5, ds, rfl, sm, hd, hrg, hl⟩ := hp
    obtain ⟨rfl, rfl⟩ := hy
    have hi' : i < ns.length := by rw [List.length_map] at hi; omega
    have g : (ns.map V.int)[i]? = some (.int ns[i]) := by
      rw [List.getElem?_map, List.getElem?_eq_getElem hi']; rfl
    have e0 : (0 : Int) + (i : Int) = (i : Int) := by omega
    walk_at "rds"
    refine ⟨a, _, (i : Int), _, rfl, by show V.int (0 + (i : Int)) = V.int i; rw [e0], sm.seq hS, atI_nat g, ?_⟩
    walk_at "rds"
    have hc0 : (0 : Int) ≤ (if ns[i] < 0 then -ns[i] else ns[i]) := by split <;> omega
    generalize (if ns[i] < 0 then -ns[i] else ns[i]) = c at hc0
    refine ite2 (fun e => ?_) (fun e => ?_)
    · refine ⟨40, rfl, by decide, by decide, ?_⟩
      refine for_it walk_range (Pv := fun j σ H' => ∃ y4 ds c, σ = [some (.ref a), some (.ref D), some (.int (0 + (i : Int))), some (.int c), y4, y5] ∧ Same H H' ∧ H' D = some (.lst (ds.map V.int)) ∧ (∀ d ∈ ds, 0 ≤ d ∧ d < 1000) ∧ ds.length ≤ 40 * i + j ∧ 0 ≤ c) ⟨y4, ds, c, rfl, sm, hd, hrg, by omega, hc0⟩ (fun _ _ _ _ _ => trivial) (fun j x σ H3 H4 hj hp hy => ?_) (fun σ H3 hp => ?_)
      · obtain ⟨z4, ds, c, rfl, sm, hd, hrg, hl, hc0⟩ := hp
        obtain ⟨rfl, rfl⟩ := hy
        refine ⟨.ref D, rfl, .inl ⟨rfl, _, sq hd⟩, ?_⟩
        walk_at "rds"
        have hj' : j < 40 := hj
        refine ⟨_, _, _, rfl, rfl, hd, by rw [List.length_map]; exact sz1000' (by omega), ?_⟩
        refine ⟨_, rfl, _, _, rfl, rfl, ⟨by decide, by decide⟩, ?_⟩
        refine ⟨_, ds ++ [c % 1000], c / 1000, rfl, same_mut sm hD, lst_app, rng_app hrg (by omega) (by omega), ?_, by omega⟩
        rw [List.length_append, List.length_singleton]; omega
      · obtain ⟨z4, ds, c, rfl, sm, hd, hrg, hl, hc0⟩ := hp
        exact ⟨_, _, _, _, ds, rfl, sm, hd, hrg, by have : (40 : Int).toNat = 40 := rfl; omega⟩
    · have hc1 : c < 10 ^ 18 := by
        have : ¬ ((10 : Int) ^ (18 : Int).toNat ≤ c) := fun z => e (decide_eq_true z)
        have e18 : (10 : Int) ^ (18 : Int).toNat = 10 ^ 18 := rfl
        omega
      walk_at "rds"
      refine for_it walk_range (Pv := fun j σ H' => ∃ y4 ds m, σ = [some (.ref a), some (.ref D), some (.int (0 + (i : Int))), some (.int c), y4, some (.int m)] ∧ Same H H' ∧ H' D = some (.lst (ds.map V.int)) ∧ (∀ d ∈ ds, 0 ≤ d ∧ d < 1000) ∧ ds.length ≤ 40 * i + j ∧ 0 ≤ m ∧ m ≤ 10 ^ 18) ⟨y4, ds, _, rfl, sm, hd, hrg, by omega, by omega, by omega⟩ (fun _ _ _ _ _ => trivial) (fun j x σ H3 H4 hj hp hy => ?_) (fun σ H3 hp => ?_)
      · obtain ⟨z4, ds, m, rfl, sm, hd, hrg, hl, hm0, hm1⟩ := hp
        obtain ⟨rfl, rfl⟩ := hy
        have hj' : j < 8 := hj
        walk_at "rds"
        refine ⟨.inl ⟨rfl, _, sq hd⟩, ?_⟩
        walk_at "rds"
        refine ⟨_, _, _, rfl, rfl, hd, by rw [List.length_map]; exact sz1000' (by omega), ?_⟩
        refine ⟨_, ds ++ [_], _, rfl, same_mut sm hD, lst_app, rng_app hrg (by omega) (by omega), ?_, by omega, by omega⟩
        rw [List.length_append, List.length_singleton]; omega
      · obtain ⟨z4, ds, m, rfl, sm, hd, hrg, hl, hm0, hm1⟩ := hp
        exact ⟨_, _, _, _, ds, rfl, sm, hd, hrg, by have : (8 : Int).toNat = 8 := rfl; omega⟩
  · obtain ⟨y2, y3, y4, y5, ds, rfl, sm, hd, hrg, hl⟩ := hp
    refine ⟨.ref D, rfl, ?_⟩
    refine q _ _ _ sm hD hd hrg ?_
    rw [List.length_map] at hl; omega
end

/-! ### drawn numbers and strings -/
def prC (c : Nat) : Bool := decide (32 ≤ c) && decide (c ≤ 126) && decide (c ≠ 37)
def isPr (z : Str) : Bool := z.cps.toList.all prC
theorem app_tl (a b : Str) : (a ++ b).cps.toList = a.cps.toList ++ b.cps.toList := by
  show (a.cps ++ b.cps).toList = _
  rw [Array.toList_append]
theorem len_tl (z : Str) : z.cps.toList.length = z.length := Array.length_toList
theorem isPr_app (a b : Str) : isPr (a ++ b) = (isPr a && isPr b) := by
  unfold isPr
  rw [app_tl, List.all_append]

def spBig : Sp := fun vs H Q _ => ∃ (D A : Addr) (m : Int), vs = [.ref D, .ref A, .int m] ∧ Dr H D A ∧ 1 ≤ m ∧
  ∀ (H' : Hp) (r : Int), 0 ≤ r → r < m → Mod A H H' → Dr H' D A → Q (.int r) H'
def spChar : Sp := fun vs H Q _ => ∃ (n : Int), vs = [.int n] ∧ ∀ c : Nat, prC c = true → Q (.str ⟨#[c]⟩) H
def spString : Sp := fun vs H Q _ => ∃ (D A : Addr) (m : Int), vs = [.ref D, .ref A, .int m] ∧ Dr H D A ∧ 5 ≤ m ∧ m ≤ 1000000 ∧
  ∀ (H' : Hp) (z : Str), z.length ≤ m → isPr z = true → Mod A H H' → Dr H' D A → Q (.str z) H'
section
variable {P : Program} {w : World} {K : PySem.W.Frag} {mg : Str → Option Value} {base : Heap}
theorem c__law_big {C_Group : Addr} {C_BadGroup : Addr} {C_BadLetter : Addr} {C_FORMS : Addr} (T : Txt K mg w C_Group C_BadGroup C_BadLetter C_FORMS) : Cal P w K mg base 2 "_law_big" spBig [] := by
  have c__law_next := c__law_next (P := P) (w := w) (base := base) T
  refine cal T.d__law_big sc__law_big (fun vs H Q E h => ?_) (fun f cdv A' outer s H vs Q E hr h => ?_)
  · obtain ⟨D, A, m, rfl, _⟩ := h; rfl
  obtain ⟨D, A, m, rfl, dr, hm, q⟩ := h
  refine ⟨_, (pss_cons (ps_set (i := 3) sc__law_big.nd rfl (Or.inl rfl) pe_int)
      (pss_cons (ps_for PassesOwn.never rfl (pi_range1 (by rfl) T.z_range (pa_cons pe_int pa_nil)) (pg_name (i := 4) sc__law_big.nd rfl (Or.inl rfl)) (pss_one (ps_set (i := 3) sc__law_big.nd rfl (Or.inl rfl) (pe_op op_add (pe_op op_mul pe_int (pv 3)) (pe_c c__law_next hr (by decide) (by rfl) (pa_cons (pv 0) (pa_cons (pv 1) (pa_cons pe_int pa_nil))))))))
      (pss_one (ps_ret (pe_op op_mod (pe_callTy call_int1 (by rfl) T.z_int (by decide +kernel) (pa_cons (pv 3) pa_nil)) (pv 2)))))), ?_⟩
  walk_at "rds"
  refine for_it walk_range (Pv := fun i σ H' => ∃ (n : Int) (y : Option V), σ = [some (.ref D), some (.ref A), some (.int m), some (.int n), y] ∧ 0 ≤ n ∧ Mod A H H' ∧ Dr H' D A) ⟨0, none, rfl, by decide, Mod.refl, dr⟩ (fun _ _ _ _ _ => trivial) (fun i x σ H1 H2 hi hp hy => ?_) (fun σ H1 hp => ?_)
  · obtain ⟨n, y, rfl, hn, md, dr⟩ := hp
    obtain ⟨rfl, rfl⟩ := hy
    walk_at "rds"
    refine ⟨D, A, 1000, rfl, dr, by decide, fun H3 r r0 r1 md3 dr3 => ?_⟩
    walk_at "rds"
    exact ⟨_, _, rfl, by omega, md.trans md3, dr3⟩
  · obtain ⟨n, y, rfl, hn, md, dr⟩ := hp
    walk_at "rds"
    exact q _ _ (Int.emod_nonneg _ (by omega)) (Int.emod_lt_of_pos _ (by omega)) md dr
theorem c__law_char {C_Group : Addr} {C_BadGroup : Addr} {C_BadLetter : Addr} {C_FORMS : Addr} (T : Txt K mg w C_Group C_BadGroup C_BadLetter C_FORMS) : Cal P w K mg base 1 "_law_char" spChar [] := by
  refine cal T.d__law_char sc__law_char (fun vs H Q E h => ?_) (fun f cdv A' outer s H vs Q E hr h => ?_)
  · obtain ⟨n, rfl, _⟩ := h; rfl
  obtain ⟨n, rfl, q⟩ := h
  refine ⟨_, (pss_cons (ps_set (i := 1) sc__law_char.nd rfl (Or.inl rfl) pe_str)
      (pss_cons (ps_set (i := 1) sc__law_char.nd rfl (Or.inl rfl) (pe_op op_add_str (pv 1) pe_str))
      (pss_one (ps_ret (pe_ix ix_str (pv 1) (pe_op op_mod (pe_callTy call_int1 (by rfl) T.z_int (by decide +kernel) (pa_cons (pv 0) pa_nil)) pe_int) (fun _ _ => rfl)))))), ?_⟩
  walk_at "rds"
  have e94 : ∀ z : Str, z = Str.ofString " !\"#$&'()*+,-./0123456789:;<=>?@ABCDEFGHIJKLMNOPQRSTUVWXYZ[\\]^_`" ++ Str.ofString "abcdefghijklmnopqrstuvwxyz{|}~" → z.length = 94 ∧ isPr z = true := by
    intro z e; subst e; exact ⟨by decide +kernel, by decide +kernel⟩
  generalize Str.ofString " !\"#$&'()*+,-./0123456789:;<=>?@ABCDEFGHIJKLMNOPQRSTUVWXYZ[\\]^_`" ++ Str.ofString "abcdefghijklmnopqrstuvwxyz{|}~" = z at e94
  obtain ⟨hz, hp⟩ := e94 z rfl
  obtain ⟨c, hc⟩ := chr_at (z := z) (i := n % 94) (by omega) (by rw [hz]; omega)
  have hm : c ∈ z.cps.toList := by
    obtain ⟨j, _, e, _⟩ := atI_get hc
    exact List.mem_of_getElem? e
  refine ⟨_, _, c, rfl, rfl, by rw [hz]; exact sz1000 (by omega), hc, ?_⟩
  exact q c (List.all_eq_true.mp hp c hm)
theorem c__law_string {C_Group : Addr} {C_BadGroup : Addr} {C_BadLetter : Addr} {C_FORMS : Addr} (T : Txt K mg w C_Group C_BadGroup C_BadLetter C_FORMS) : Cal P w K mg base 2 "_law_string" spString [] := by
  have c__law_next := c__law_next (P := P) (w := w) (base := base) T
  have c__law_char := c__law_char (P := P) (w := w) (base := base) T
  refine cal T.d__law_string sc__law_string (fun vs H Q E h => ?_) (fun f cdv A' outer s H vs Q E hr h => ?_)
  · obtain ⟨D, A, m, rfl, _⟩ := h; rfl
  obtain ⟨D, A, m, rfl, dr, hm, hm2, q⟩ := h
  refine ⟨_, (pss_cons (ps_set (i := 3) sc__law_string.nd rfl (Or.inl rfl) (pe_c c__law_next hr (by decide) (by rfl) (pa_cons (pv 0) (pa_cons (pv 1) (pa_cons pe_int pa_nil)))))
      (pss_cut (ps_if (pt_cmpR op_eq (pe_c c__law_next hr (by decide) (by rfl) (pa_cons (pv 0) (pa_cons (pv 1) (pa_cons pe_int pa_nil)))) pe_int (nomark _)) (pss_one (ps_set (i := 3) sc__law_string.nd rfl (Or.inl rfl) (pe_c c__law_next hr (by decide) (by rfl) (pa_cons (pv 0) (pa_cons (pv 1) (pa_cons (pe_op op_add (pv 2) pe_int) pa_nil)))))) pss_nil)
      (pss_cut (ps_if (pt_cmpR op_eq (pe_c c__law_next hr (by decide) (by rfl) (pa_cons (pv 0) (pa_cons (pv 1) (pa_cons pe_int pa_nil)))) pe_int (nomark _)) (pss_one (ps_set (i := 3) sc__law_string.nd rfl (Or.inl rfl) (pv 2))) pss_nil)
      (pss_cons (ps_set (i := 4) sc__law_string.nd rfl (Or.inl rfl) (pe_c c__law_next hr (by decide) (by rfl) (pa_cons (pv 0) (pa_cons (pv 1) (pa_cons pe_int pa_nil)))))
      (pss_cons (ps_set (i := 5) sc__law_string.nd rfl (Or.inl rfl) (pe_c c__law_next hr (by decide) (by rfl) (pa_cons (pv 0) (pa_cons (pv 1) (pa_cons pe_int pa_nil)))))
      (pss_cons (ps_set (i := 6) sc__law_string.nd rfl (Or.inl rfl) pe_str)
      (pss_cons (ps_for PassesOwn.never rfl (pi_range1 (by rfl) T.z_range (pa_cons (pv 3) pa_nil)) (pg_name (i := 7) sc__law_string.nd rfl (Or.inl rfl)) (pss_one (ps_if (pt_cmpR op_lt (pv 7) pe_int (nomark _)) (pss_one (ps_set (i := 6) sc__law_string.nd rfl (Or.inl rfl) (pe_op op_add_str (pv 6) (pe_c c__law_char hr (by decide) (by rfl) (pa_cons (pe_c c__law_next hr (by decide) (by rfl) (pa_cons (pv 0) (pa_cons (pv 1) (pa_cons pe_int pa_nil)))) pa_nil))))) (pss_one (ps_set (i := 6) sc__law_string.nd rfl (Or.inl rfl) (pe_op op_add_str (pv 6) (pe_c c__law_char hr (by decide) (by rfl) (pa_cons (pe_op op_add (pv 4) (pe_op op_mul (pv 5) (pv 7))) pa_nil))))))))
      (pss_one (ps_ret (pv 6)))))))))), ?_⟩
  walk_at "rds"
  refine ⟨D, A, 6, rfl, dr, by decide, fun H1 s1 s10 s11 md1 dr1 => ?_⟩
  obtain ⟨s1, rfl⟩ := Int.eq_ofNat_of_zero_le s10
  refine ⟨fun σ' H' => ∃ n : Nat, σ' = [some (.ref D), some (.ref A), some (.int m), some (.int n), none, none, none, none] ∧ (n : Int) ≤ m ∧ Mod A H H' ∧ Dr H' D A, ?_, ?_⟩
  · walk_at "rds"
    refine ⟨D, A, 7, rfl, dr1, by decide, fun H2 s2 s20 s21 md2 dr2 => ?_⟩
    walk_at "rds"
    refine ite2 (fun _ => ?_) (fun _ => ?_)
    · walk_at "rds"
      refine ⟨D, A, _, rfl, dr2, by omega, fun H3 s3 s30 s31 md3 dr3 => ?_⟩
      obtain ⟨s3, rfl⟩ := Int.eq_ofNat_of_zero_le s30
      exact ⟨s3, rfl, by omega, (md1.trans md2).trans md3, dr3⟩
    · exact ⟨s1, rfl, by omega, md1.trans md2, dr2⟩
  rintro σ' H2 ⟨n, rfl, hn, md2, dr2⟩
  refine ⟨fun σ' H' => ∃ n : Nat, σ' = [some (.ref D), some (.ref A), some (.int m), some (.int n), none, none, none, none] ∧ (n : Int) ≤ m ∧ Mod A H H' ∧ Dr H' D A, ?_, ?_⟩
  · walk_at "rds"
    refine ⟨D, A, 9, rfl, dr2, by decide, fun H3 s3 s30 s31 md3 dr3 => ?_⟩
    walk_at "rds"
    obtain ⟨m, rfl⟩ := Int.eq_ofNat_of_zero_le (show 0 ≤ m by omega)
    refine ite2 (fun _ => ?_) (fun _ => ?_)
    · walk_at "rds"
      exact ⟨m, rfl, by omega, md2.trans md3, dr3⟩
    · exact ⟨n, rfl, by omega, md2.trans md3, dr3⟩
  rintro σ' H3 ⟨n, rfl, hn, md3, dr3⟩
  walk_at "rds"
  refine ⟨D, A, 94, rfl, dr3, by decide, fun H4 f1 f10 f11 md4 dr4 => ?_⟩
  walk_at "rds"
  refine ⟨D, A, 3, rfl, dr4, by decide, fun H5 f2 f20 f21 md5 dr5 => ?_⟩
  walk_at "rds"
  refine for_it walk_range (Pv := fun i σ H' => ∃ (z : Str) (y : Option V), σ = [some (.ref D), some (.ref A), some (.int m), some (.int n), some (.int f1), some (.int f2), some (.str z), y] ∧ z.length = i ∧ isPr z = true ∧ Mod A H H' ∧ Dr H' D A) ⟨Str.ofString "", none, rfl, by decide, by decide, (md3.trans md4).trans md5, dr5⟩ (fun _ _ _ _ _ => trivial) (fun i x σ H6 H7 hi hp hy => ?_) (fun σ H6 hp => ?_)
  · obtain ⟨z, y, rfl, hz, hpz, md, dr⟩ := hp
    obtain ⟨rfl, rfl⟩ := hy
    have hi' : i < n := by omega
    have one : ∀ c : Nat, prC c = true → (z ++ ⟨#[c]⟩ : Str).length = i + 1 ∧ isPr (z ++ ⟨#[c]⟩) = true := fun c hc => by
      refine ⟨by rw [Str.length_append, hz]; rfl, ?_⟩
      rw [isPr_app, hpz]
      show (true && List.all [c] prC) = true
      rw [List.all_cons, hc]; rfl
    walk_at "rds"
    refine ite2 (fun _ => ?_) (fun _ => ?_)
    · walk_at "rds"
      refine ⟨D, A, 94, rfl, dr, by decide, fun H8 f3 f30 f31 md8 dr8 => ?_⟩
      refine ⟨f3, rfl, fun c hc => ?_⟩
      have l1 : (⟨#[c]⟩ : Str).length = 1 := rfl
      refine ⟨_, _, rfl, rfl, by rw [l1]; exact sz1000'' (by omega), ?_⟩
      exact ⟨_, _, rfl, (one c hc).1, (one c hc).2, md.trans md8, dr8⟩
    · walk_at "rds"
      intro c hc
      have l1 : (⟨#[c]⟩ : Str).length = 1 := rfl
      refine ⟨_, _, rfl, rfl, by rw [l1]; exact sz1000'' (by omega), ?_⟩
      exact ⟨_, _, rfl, (one c hc).1, (one c hc).2, md, dr⟩
  · obtain ⟨z, y, rfl, hz, hpz, md, dr⟩ := hp
    walk_at "rds"
    exact q _ z (by omega) hpz md dr
end

/-! ### is_integer, is_printable -/
/-- no int, told by its type -/
def NoInt (K : PySem.W.Frag) (H : Hp) (v : V) : Prop := ∃ T, TyX K H v (.type T) ∧ (kitB T "int" = some false ∨ (kitB T "int" = some true ∧ kitB T "bool" = some true))
def spInt (K : PySem.W.Frag) : Sp := fun vs H Q _ => ∃ (v : V) (lo hi : Int), vs = [v, .int lo, .int hi] ∧ ((∃ i, v = .int i ∧ Q (.bl (decide (lo ≤ i ∧ i ≤ hi))) H) ∨ (NoInt K H v ∧ Q (.bl false) H))
section
variable {P : Program} {w : World} {K : PySem.W.Frag} {mg : Str → Option Value} {base : Heap}
theorem c_is_integer {C_Group : Addr} {C_BadGroup : Addr} {C_BadLetter : Addr} {C_FORMS : Addr} (T : Txt K mg w C_Group C_BadGroup C_BadLetter C_FORMS) : Cal P w K mg base 1 "is_integer" (spInt K) [] := by
  refine cal T.d_is_integer sc_is_integer (fun vs H Q E h => ?_) (fun f cdv A outer s H vs Q E hr h => ?_)
  · obtain ⟨v, lo, hi, rfl, _⟩ := h; rfl
  obtain ⟨v, lo, hi, rfl, h⟩ := h
  refine ⟨_, (pss_one (ps_ret (pe_and (pe_callB (kisi (K := K)) (by rfl) T.z_isinstance (by decide +kernel) (pa_cons (pv 0) (pa_cons (pe_bltn (v := .ty "int") (by rfl) T.z_int (by decide +kernel) rfl) pa_nil))) (pe_and (pe_not (pe_callB (kisi (K := K)) (by rfl) T.z_isinstance (by decide +kernel) (pa_cons (pv 0) (pa_cons (pe_bltn (v := .ty "bool") (by rfl) T.z_bool (by decide +kernel) rfl) pa_nil)))) (pe_one (pe_chain op_le op_le (pv 1) (pv 0) (pv 2))))))), ?_⟩
  rcases h with ⟨i, rfl, q⟩ | ⟨⟨T, ty, hk⟩, q⟩
  · walk_at "rds"
    walk_at "isi"
    walk_at "rds"
    walk_at "isi"
    walk_at "rds"
    refine ite2 (fun e => ?_) (fun e => ?_)
    · have e := of_decide_eq_true e
      walk_at "rds"
      have e2 : decide (lo ≤ i ∧ i ≤ hi) = decide (i ≤ hi) := by simp [e]
      rw [e2] at q
      exact q
    · have e : ¬ lo ≤ i := fun z => e (decide_eq_true z)
      have e2 : decide (lo ≤ i ∧ i ≤ hi) = false := by simp [e]
      rw [e2] at q
      exact q
  · walk_at "rds"
    rcases hk with hk | ⟨hk, hb⟩
    · refine ⟨_, .ty _, _, _, false, rfl, .ty _, ty, kit_ty hk, ?_⟩
      walk_at "rds"
      exact q
    · refine ⟨_, .ty _, _, _, true, rfl, .ty _, ty, kit_ty hk, ?_⟩
      walk_at "rds"
      refine ⟨_, .ty _, _, _, true, rfl, .ty _, ty, kit_ty hb, ?_⟩
      walk_at "rds"
      exact q
end
def NoStr (K : PySem.W.Frag) (H : Hp) (v : V) : Prop := ∃ T, TyX K H v (.type T) ∧ kitB T "str" = some false
def spPrint (K : PySem.W.Frag) : Sp := fun vs H Q _ => ∃ (v : V), vs = [v] ∧ ((∃ z : Str, v = .str z ∧ z.length ≤ 16000000 ∧ ∀ H', Same H H' → Q (.bl (isPr z)) H') ∨ (NoStr K H v ∧ Q (.bl false) H))
theorem print128 : ∀ c : Nat, c < 128 → (Unicode.isPrintable c = true ↔ (32 ≤ c ∧ c ≤ 126)) := by
  intro c hc
  have h : ∀ c : Fin 128, (Unicode.isPrintable c.val = true ↔ (32 ≤ c.val ∧ c.val ≤ 126)) := by decide +kernel
  exact h ⟨c, hc⟩
theorem asc_list {z : Str} : Txt.isascii z = true ↔ ∀ c ∈ z.cps.toList, c < 128 := by
  unfold Txt.isascii
  rw [← Array.all_toList, List.all_eq_true]
  simp
theorem pri_list {z : Str} : Txt.isprintable z = true ↔ ∀ c ∈ z.cps.toList, Unicode.isPrintable c = true := by
  unfold Txt.isprintable
  rw [← Array.all_toList, List.all_eq_true]
theorem isPr_iff {z : Str} : isPr z = true ↔ ∀ c ∈ z.cps.toList, 32 ≤ c ∧ c ≤ 126 ∧ c ≠ 37 := by
  unfold isPr
  rw [List.all_eq_true]
  simp [prC, and_assoc]
theorem out37_len {l : List Nat} : (out37 l).length = l.length ↔ ∀ c ∈ l, c ≠ 37 := by
  unfold out37
  rw [List.length_filter_eq_length_iff]
  simp
section
variable {P : Program} {w : World} {K : PySem.W.Frag} {mg : Str → Option Value} {base : Heap}
theorem c_is_printable {C_Group : Addr} {C_BadGroup : Addr} {C_BadLetter : Addr} {C_FORMS : Addr} (T : Txt K mg w C_Group C_BadGroup C_BadLetter C_FORMS) : Cal P w K mg base 1 "is_printable" (spPrint K) [] := by
  refine cal T.d_is_printable sc_is_printable (fun vs H Q E h => ?_) (fun f cdv A outer s H vs Q E hr h => ?_)
  · obtain ⟨v, rfl, _⟩ := h; rfl
  obtain ⟨v, rfl, h⟩ := h
  refine ⟨_, (pss_cons (ps_if (PW.pt (pw_or (pt_not (pt_val (pe_callB (kisi (K := K)) (by rfl) T.z_isinstance (by decide +kernel) (pa_cons (pv 0) (pa_cons (pe_bltn (v := .ty "str") (by rfl) T.z_str (by decide +kernel) rfl) pa_nil))))) (pw_or (pt_not (pt_val (pe_bm0 PySem.F.plainAttrs_str PySem.F.slot_str_isascii PySem.F.type_str_isascii mt_isascii (pv 0)))) (pw_or1 (pt_not (pt_val (pe_bm0 PySem.F.plainAttrs_str PySem.F.slot_str_isprintable PySem.F.type_str_isprintable mt_isprintable (pv 0)))))))) (pss_one (ps_ret pe_bl)) pss_nil)
      (pss_one (ps_ret (pe_cmpR op_eq (pe_callB call_len_str (by rfl) T.z_len (by decide +kernel) (pa_cons (pe_bm PySem.F.plainAttrs_str PySem.F.slot_str_translate PySem.F.type_str_translate (mt_tr37 rfl) (pv 0) (pa_cons (pe_disp (pps_cons pe_int pe_non pps_nil) rfl rfl (by intro z; cases z) (by decide)) pa_nil)) pa_nil)) (pe_callB call_len_str (by rfl) T.z_len (by decide +kernel) (pa_cons (pv 0) pa_nil)) (nomark _))))), ?_⟩
  rcases h with ⟨z, rfl, hz, q⟩ | ⟨⟨T, ty, hk⟩, q⟩
  · walk_at "rds"
    walk_at "isi"
    walk_at "rds"
    refine ⟨rfl, _, rfl, rfl, trivial, ?_⟩
    walk_at "rds"
    cases ha : Txt.isascii z with
    | false =>
      have e : isPr z = false := by
        cases e : isPr z with
        | false => rfl
        | true =>
          have := asc_list.mpr (fun c hc => by have := isPr_iff.mp e c hc; omega)
          rw [ha] at this; cases this
      rw [e] at q
      walk_at "rds"
      exact q H (Same.refl H)
    | true =>
      have ha := asc_list.mp ha
      walk_at "rds"
      refine ⟨rfl, _, rfl, rfl, trivial, ?_⟩
      walk_at "rds"
      cases hp : Txt.isprintable z with
      | false =>
        have e : isPr z = false := by
          cases e : isPr z with
          | false => rfl
          | true =>
            have := pri_list.mpr (fun c hc => by have := isPr_iff.mp e c hc; exact (print128 c (by omega)).mpr ⟨by omega, by omega⟩)
            rw [hp] at this; cases this
        rw [e] at q
        walk_at "rds"
        exact q H (Same.refl H)
      | true =>
        have hp := pri_list.mp hp
        walk_at "rds"
        refine ⟨rfl, fun p np => ?_⟩
        refine ⟨upd_same, [(Sum.inl 37, .non)], rfl, by decide, ?_⟩
        refine ⟨z, p, rfl, rfl, upd_same, ha, hz, ?_⟩
        have l37 : (SX.S (out37 z.cps.toList)).length ≤ 16000000 := by
          rw [SX.S_len]
          exact Nat.le_trans (List.length_filter_le _ _) (by rw [len_tl]; exact hz)
        walk_at "rds"
        have e : decide (V.int ((SX.S (out37 z.cps.toList)).length : Int) = V.int (z.length : Int)) = isPr z := by
          rw [SX.S_len]
          have hl := @out37_len z.cps.toList
          rw [len_tl] at hl
          cases e : isPr z with
          | true =>
            refine decide_eq_true ?_
            rw [hl.mpr (fun c hc => (isPr_iff.mp e c hc).2.2)]
          | false =>
            refine decide_eq_false fun z' => ?_
            have h1 := hl.mp (Int.ofNat.inj (V.int.inj z'))
            have : isPr z = true := isPr_iff.mpr (fun c hc => ⟨((print128 c (ha c hc)).mp (hp c hc)).1, ((print128 c (ha c hc)).mp (hp c hc)).2, h1 c hc⟩)
            rw [e] at this; cases this
        rw [← e] at q
        exact q _ (same_mut (same_upd np) np)
  · walk_at "rds"
    refine ⟨_, .ty _, _, _, false, rfl, .ty _, ty, kit_ty hk, ?_⟩
    walk_at "rds"
    exact q
end


/-! ### values as data: what stands at them does not change -/
def TupAt (K : PySem.W.Frag) (H : Hp) (a : Addr) (xs : List V) : Prop := H a = some (.tup xs) ∨ KTup K a xs
section
variable {K : PySem.W.Frag}
theorem TupAt.sq {H : Hp} {a : Addr} {xs : List V} (h : TupAt K H a xs) : SqT K H a xs := h.elim SqT.of .inr
theorem TupAt.ty {H : Hp} {a : Addr} {xs : List V} (h : TupAt K H a xs) : TyX K H (.ref a) (.type "tuple") := h.elim (fun h => .base (.tup h)) (fun ⟨_, _, _, h1, h2, _⟩ => .kTuple h1 h2)
theorem TupAt.same {H H' : Hp} {a : Addr} {xs : List V} (h : TupAt K H a xs) (s : Same H H') : TupAt K H' a xs := h.imp (s _ _) id
/-- none of those at A (none: no matter) -/
def NeA (A : Option Addr) (a : Addr) : Prop := match A with | some b => a ≠ b | none => True
mutual
/-- v is the data d; the lists in it are none of those at A -/
inductive Dt (K : PySem.W.Frag) (H : Hp) (A : Option Addr) : V → PyData → Prop
  | non : Dt K H A .non .none
  | bl (b : Bool) : Dt K H A (.bl b) (.bool b)
  | int (i : Int) : Dt K H A (.int i) (.int i)
  | str (z : Str) (h : z.length ≤ 1000000) : Dt K H A (.str z) (.str z)
  | lst {a : Addr} {xs : List V} {ds : List PyData} : NeA A a → H a = some (.lst xs) → DtAll K H A xs ds → Dt K H A (.ref a) (.list ds)
  | tup {a : Addr} {xs : List V} {ds : List PyData} : TupAt K H a xs → DtAll K H A xs ds → Dt K H A (.ref a) (.tuple ds)
inductive DtAll (K : PySem.W.Frag) (H : Hp) (A : Option Addr) : List V → List PyData → Prop
  | nil : DtAll K H A [] []
  | cons {v : V} {vs : List V} {d : PyData} {ds : List PyData} : Dt K H A v d → DtAll K H A vs ds → DtAll K H A (v :: vs) (d :: ds)
end
theorem DtAll.length {H : Hp} {A : Option Addr} : ∀ {xs : List V} {ds : List PyData}, DtAll K H A xs ds → xs.length = ds.length
  | _, _, .nil => rfl
  | _, _, .cons _ r => by rw [List.length_cons, List.length_cons, r.length]
theorem DtAll.get {H : Hp} {A : Option Addr} : ∀ {xs : List V} {ds : List PyData} {i : Nat} {x : V}, DtAll K H A xs ds → xs[i]? = some x → ∃ d, ds[i]? = some d ∧ Dt K H A x d
  | _, _, _, _, .nil, e => by simp at e
  | _, _, 0, x, .cons h _, e => by simp at e; subst e; exact ⟨_, rfl, h⟩
  | _, _, i + 1, x, .cons _ r, e => by
    obtain ⟨d, h1, h2⟩ := r.get (i := i) (x := x) (by simpa using e)
    exact ⟨d, by simpa using h1, h2⟩
theorem DtAll.getD {H : Hp} {A : Option Addr} {xs : List V} {ds : List PyData} {i : Nat} {d : PyData} (h : DtAll K H A xs ds) (e : ds[i]? = some d) : ∃ x, xs[i]? = some x ∧ Dt K H A x d := by
  have hi : i < ds.length := (List.getElem?_eq_some_iff.mp e).1
  have hi' : i < xs.length := by rw [h.length]; exact hi
  obtain ⟨d', h1, h2⟩ := h.get (List.getElem?_eq_getElem hi')
  rw [e] at h1
  cases h1
  exact ⟨_, List.getElem?_eq_getElem hi', h2⟩
mutual
theorem Dt.mod {H H' : Hp} {A D : Addr} (s : Mod A H H') (dr : Dr H D A) : ∀ (d : PyData) (v : V), Dt K H (some A) v d → Dt K H' (some A) v d
  | .none, _, h => by cases h; exact .non
  | .bool b, _, h => by cases h; exact .bl b
  | .int i, _, h => by cases h; exact .int i
  | .str z, _, h => by cases h with | str _ hz => exact .str z hz
  | .list ds, _, h => by cases h with | lst hn ha hd => exact .lst hn (s _ _ hn ha) (DtAll.mod s dr ds _ hd)
  | .tuple ds, _, h => by
    cases h with
    | tup ha hd =>
      obtain ⟨_, _, _, _, e, _⟩ := id dr
      exact .tup (ha.imp (fun ha => s _ _ (ne_of ha e (by intro z; cases z)) ha) id) (DtAll.mod s dr ds _ hd)
  | .dict _, _, h => by cases h
theorem DtAll.mod {H H' : Hp} {A D : Addr} (s : Mod A H H') (dr : Dr H D A) : ∀ (ds : List PyData) (xs : List V), DtAll K H (some A) xs ds → DtAll K H' (some A) xs ds
  | [], _, h => by cases h; exact .nil
  | d :: ds, _, h => by cases h with | cons h1 h2 => exact .cons (Dt.mod s dr d _ h1) (DtAll.mod s dr ds _ h2)
end
mutual
theorem Dt.same {H H' : Hp} {A : Option Addr} (s : Same H H') : ∀ (d : PyData) (v : V), Dt K H A v d → Dt K H' A v d
  | .none, _, h => by cases h; exact .non
  | .bool b, _, h => by cases h; exact .bl b
  | .int i, _, h => by cases h; exact .int i
  | .str z, _, h => by cases h with | str _ hz => exact .str z hz
  | .list ds, _, h => by cases h with | lst hn ha hd => exact .lst hn (s _ _ ha) (DtAll.same s ds _ hd)
  | .tuple ds, _, h => by cases h with | tup ha hd => exact .tup (ha.same s) (DtAll.same s ds _ hd)
  | .dict _, _, h => by cases h
theorem DtAll.same {H H' : Hp} {A : Option Addr} (s : Same H H') : ∀ (ds : List PyData) (xs : List V), DtAll K H A xs ds → DtAll K H' A xs ds
  | [], _, h => by cases h; exact .nil
  | d :: ds, _, h => by cases h with | cons h1 h2 => exact .cons (Dt.same s d _ h1) (DtAll.same s ds _ h2)
end
mutual
/-- data for a comparison -/
theorem Dt.dp {H : Hp} {A : Option Addr} : ∀ (d : PyData) (v : V), Dt K H A v d → Dp K H v d
  | .none, _, h => by cases h; exact .non
  | .bool b, _, h => by cases h; exact .bl b
  | .int i, _, h => by cases h; exact .int i
  | .str z, _, h => by cases h; exact .str z
  | .list ds, _, h => by cases h with | lst hn ha hd => exact .lst (SqL.of ha) (DtAll.dp ds _ hd)
  | .tuple ds, _, h => by cases h with | tup ha hd => exact .tup ha.sq (DtAll.dp ds _ hd)
  | .dict _, _, h => by cases h
theorem DtAll.dp {H : Hp} {A : Option Addr} : ∀ (ds : List PyData) (xs : List V), DtAll K H A xs ds → DpAll K H xs ds
  | [], _, h => by cases h; exact .nil
  | d :: ds, _, h => by cases h with | cons h1 h2 => exact .cons (Dt.dp d _ h1) (DtAll.dp ds _ h2)
end
theorem Dt.on {H H' : Hp} {A : Option Addr} {v : V} {d : PyData} (h : Dt K H A v d) (s : Same H H') : Dt K H' A v d := Dt.same s d v h
theorem DtAll.on {H H' : Hp} {A : Option Addr} {xs : List V} {ds : List PyData} (h : DtAll K H A xs ds) (s : Same H H') : DtAll K H' A xs ds := DtAll.same s ds xs h
theorem Dt.by {H H' : Hp} {A D : Addr} {v : V} {d : PyData} (h : Dt K H (some A) v d) (s : Mod A H H') (dr : Dr H D A) : Dt K H' (some A) v d := Dt.mod s dr d v h
theorem DtAll.by {H H' : Hp} {A D : Addr} {xs : List V} {ds : List PyData} (h : DtAll K H (some A) xs ds) (s : Mod A H H') (dr : Dr H D A) : DtAll K H' (some A) xs ds := DtAll.mod s dr ds xs h
theorem Dt.two {H : Hp} {A : Option Addr} {v : V} {d : PyData} (h : Dt K H A v d) : (∃ a xs ds, v = .ref a ∧ d = .tuple ds ∧ TupAt K H a xs ∧ DtAll K H A xs ds) ∨ (∃ T, TyX K H v (.type T) ∧ kitB T "tuple" = some false ∧ ∀ ds, d ≠ .tuple ds) := by
  cases h with
  | tup ha hx => exact .inl ⟨_, _, _, rfl, rfl, ha, hx⟩
  | str z hz => exact .inr ⟨_, .base (.str z), by decide +kernel, fun _ z => nomatch z⟩
  | int i => exact .inr ⟨_, .base (.int i), by decide +kernel, fun _ z => nomatch z⟩
  | non => exact .inr ⟨_, .base .non, by decide +kernel, fun _ z => nomatch z⟩
  | bl b => exact .inr ⟨_, .base (.bl b), by decide +kernel, fun _ z => nomatch z⟩
  | lst _ ha _ => exact .inr ⟨_, .base (.lst ha), by decide +kernel, fun _ z => nomatch z⟩
/-- the kind of a value -/
def dTy : PyData → String
  | .none => "NoneType" | .bool _ => "bool" | .int _ => "int" | .str _ => "str" | .list _ => "list" | .tuple _ => "tuple" | .dict _ => "dict"
theorem Dt.ty {H : Hp} {A : Option Addr} {v : V} {d : PyData} (h : Dt K H A v d) : TyX K H v (.type (dTy d)) := by
  cases h with
  | non => exact .base .non
  | bl b => exact .base (.bl b)
  | int i => exact .base (.int i)
  | str z _ => exact .base (.str z)
  | lst _ ha _ => exact .base (.lst ha)
  | tup ha _ => exact ha.ty
/-! the predicates of the program, upon data -/
def dInt (lo hi : Int) : PyData → Bool
  | .int i => decide (lo ≤ i ∧ i ≤ hi)
  | _ => false
def dShort (m : Int) : PyData → Bool
  | .str z => isPr z && decide ((z.length : Int) ≤ m)
  | _ => false
def dCmd : PyData → Bool
  | .tuple [c, n, t] => dInt (-100) (-1) c && dInt 1 1000000000000 n && dShort 240 t
  | _ => false
def dClient : PyData → Int
  | .tuple (.int c :: _) => c
  | _ => 0
def dAfter : Option Int → PyData → Bool
  | some k, d => decide (k < dClient d)
  | none, _ => true
def befV : Option Int → V
  | some k => .int k
  | none => .non
def dCmdsFrom : Option Int → List PyData → Bool
  | _, [] => true
  | b, d :: r => dCmd d && dAfter b d && dCmdsFrom (some (dClient d)) r
theorem dCmdsFrom_cons (b : Option Int) (d : PyData) (r : List PyData) : dCmdsFrom b (d :: r) = (dCmd d && dAfter b d && dCmdsFrom (some (dClient d)) r) := by cases b <;> rfl
theorem dCmdsFrom_nil (b : Option Int) : dCmdsFrom b [] = true := by cases b <;> rfl
def dCmds : PyData → Bool
  | .tuple ds => dCmdsFrom none ds
  | _ => false
def dHeight (parent : Int) (h : PyData) : Bool := if parent = 0 then dInt 1 1 h else dInt 2 (parent + 1) h
def dBlock4 (e p h cs : PyData) : Bool := match e, p with
  | .int e, .int p => dInt 1 1000000000000 (.int e) && dInt 0 (e - 1) (.int p) && dHeight p h && dCmds cs
  | _, _ => false
def dBlock : PyData → Bool
  | .tuple [e, p, h, cs] => dBlock4 e p h cs
  | _ => false
def dEmpty : PyData → Bool
  | .tuple [] => true
  | _ => false
def dGen : PyData → Bool
  | .tuple [e, p, h, cs] => dInt 0 0 e && dInt 0 0 p && dInt 0 0 h && dEmpty cs
  | _ => false
theorem DtAll.four {H : Hp} {A : Option Addr} {xs : List V} {ds : List PyData} (h : DtAll K H A xs ds) (hl : xs.length = 4) :
    ∃ x1 x2 x3 x4 d1 d2 d3 d4, xs = [x1, x2, x3, x4] ∧ ds = [d1, d2, d3, d4] ∧ Dt K H A x1 d1 ∧ Dt K H A x2 d2 ∧ Dt K H A x3 d3 ∧ Dt K H A x4 d4 := by
  match xs, ds, h with
  | [_, _, _, _], _, .cons h1 (.cons h2 (.cons h3 (.cons h4 .nil))) => exact ⟨_, _, _, _, _, _, _, _, rfl, rfl, h1, h2, h3, h4⟩
theorem dBlock4_e1 {e p h cs : PyData} (z : dInt 1 1000000000000 e = false) : dBlock4 e p h cs = false := by
  unfold dBlock4
  split
  · rw [z]; rfl
  · rfl
theorem dBlock4_e2 {e : Int} {p h cs : PyData} (z : dInt 0 (e - 1) p = false) : dBlock4 (.int e) p h cs = false := by
  unfold dBlock4
  split
  · rename_i h1
    cases h1
    rw [z, Bool.and_false]; rfl
  · rfl
/-- a predicate of one value, kept by growing heaps -/
def spPred (K : PySem.W.Frag) (A : Option Addr) (f : PyData → Bool) : Sp := fun vs H Q _ => ∃ (v : V) (d : PyData), vs = [v] ∧ Dt K H A v d ∧ ∀ H', Same H H' → Q (.bl (f d)) H'
def spIntD (K : PySem.W.Frag) (A : Option Addr) : Sp := fun vs H Q _ => ∃ (v : V) (d : PyData) (lo hi : Int), vs = [v, .int lo, .int hi] ∧ Dt K H A v d ∧ Q (.bl (dInt lo hi d)) H
def spShortD (K : PySem.W.Frag) (A : Option Addr) : Sp := fun vs H Q _ => ∃ (v : V) (d : PyData) (m : Int), vs = [v, .int m] ∧ Dt K H A v d ∧ ∀ H', Same H H' → Q (.bl (dShort m d)) H'
theorem dInt_inv {lo hi : Int} {d : PyData} (h : dInt lo hi d = true) : ∃ i, d = .int i ∧ lo ≤ i ∧ i ≤ hi := by
  cases d with
  | int i =>
    have h : decide (lo ≤ i ∧ i ≤ hi) = true := h
    exact ⟨i, rfl, (of_decide_eq_true h).1, (of_decide_eq_true h).2⟩
  | none => cases h
  | bool b => cases h
  | str z => cases h
  | list ds => cases h
  | tuple ds => cases h
  | dict k => cases h
theorem dShort_inv {m : Int} {d : PyData} (h : dShort m d = true) : ∃ z : Str, d = .str z ∧ isPr z = true ∧ (z.length : Int) ≤ m := by
  cases d with
  | str z =>
    have h : (isPr z && decide ((z.length : Int) ≤ m)) = true := h
    obtain ⟨h1, h2⟩ := Bool.and_eq_true_iff.mp h
    exact ⟨z, rfl, h1, of_decide_eq_true h2⟩
  | none => cases h
  | bool b => cases h
  | int i => cases h
  | list ds => cases h
  | tuple ds => cases h
  | dict k => cases h
theorem dCmd_inv {d : PyData} (h : dCmd d = true) : ∃ (c n : Int) (t : Str), d = .tuple [.int c, .int n, .str t] ∧ -100 ≤ c ∧ c ≤ -1 ∧ 1 ≤ n ∧ n ≤ 1000000000000 ∧ isPr t = true ∧ (t.length : Int) ≤ 240 := by
  unfold dCmd at h
  split at h
  · rename_i c n t
    rw [Bool.and_eq_true, Bool.and_eq_true] at h
    obtain ⟨⟨h1, h2⟩, h3⟩ := h
    obtain ⟨c, rfl, c0, c1⟩ := dInt_inv h1
    obtain ⟨n, rfl, n0, n1⟩ := dInt_inv h2
    obtain ⟨t, rfl, t0, t1⟩ := dShort_inv h3
    exact ⟨c, n, t, rfl, c0, c1, n0, n1, t0, t1⟩
  · cases h
/-- what a tuple of three ints, ints, texts stands for -/
theorem Dt.three {H : Hp} {A : Option Addr} {v : V} {d1 d2 d3 : PyData} (h : Dt K H A v (.tuple [d1, d2, d3])) : ∃ a x1 x2 x3, v = .ref a ∧ TupAt K H a [x1, x2, x3] ∧ Dt K H A x1 d1 ∧ Dt K H A x2 d2 ∧ Dt K H A x3 d3 := by
  cases h with
  | tup ha hd =>
    cases hd with
    | cons h1 hd =>
      cases hd with
      | cons h2 hd =>
        cases hd with
        | cons h3 hd =>
          cases hd
          exact ⟨_, _, _, _, rfl, ha, h1, h2, h3⟩
mutual
theorem Dt.any {H : Hp} {A : Option Addr} : ∀ (d : PyData) (v : V), Dt K H A v d → Dt K H none v d
  | .none, _, h => by cases h; exact .non
  | .bool b, _, h => by cases h; exact .bl b
  | .int i, _, h => by cases h; exact .int i
  | .str z, _, h => by cases h with | str _ hz => exact .str z hz
  | .list ds, _, h => by cases h with | lst hn ha hd => exact .lst trivial ha (DtAll.any ds _ hd)
  | .tuple ds, _, h => by cases h with | tup ha hd => exact .tup ha (DtAll.any ds _ hd)
  | .dict _, _, h => by cases h
theorem DtAll.any {H : Hp} {A : Option Addr} : ∀ (ds : List PyData) (xs : List V), DtAll K H A xs ds → DtAll K H none xs ds
  | [], _, h => by cases h; exact .nil
  | d :: ds, _, h => by cases h with | cons h1 h2 => exact .cons (Dt.any d _ h1) (DtAll.any ds _ h2)
end
theorem Dt.an {H : Hp} {A : Option Addr} {v : V} {d : PyData} (h : Dt K H A v d) : Dt K H none v d := Dt.any d v h
/-! data without lists -/
mutual
def noL : PyData → Bool
  | .list _ => false
  | .tuple ds => noLs ds
  | _ => true
def noLs : List PyData → Bool
  | [] => true
  | d :: r => noL d && noLs r
end
/-- tracked tuples stay -/
def Tp (H H' : Hp) : Prop := ∀ a xs, H a = some (.tup xs) → H' a = some (.tup xs)
mutual
theorem Dt.keep {H H' : Hp} {A B : Option Addr} (t : Tp H H') : ∀ (d : PyData) (v : V), noL d = true → Dt K H A v d → Dt K H' B v d
  | .none, _, _, h => by cases h; exact .non
  | .bool b, _, _, h => by cases h; exact .bl b
  | .int i, _, _, h => by cases h; exact .int i
  | .str z, _, _, h => by cases h with | str _ hz => exact .str z hz
  | .list ds, _, n, _ => by cases n
  | .tuple ds, _, n, h => by cases h with | tup ha hd => exact .tup (ha.imp (t _ _) id) (DtAll.keep t ds _ n hd)
  | .dict _, _, _, h => by cases h
theorem DtAll.keep {H H' : Hp} {A B : Option Addr} (t : Tp H H') : ∀ (ds : List PyData) (xs : List V), noLs ds = true → DtAll K H A xs ds → DtAll K H' B xs ds
  | [], _, _, h => by cases h; exact .nil
  | d :: ds, _, n, h => by
    have n : (noL d && noLs ds) = true := n
    rw [Bool.and_eq_true] at n
    cases h with | cons h1 h2 => exact .cons (Dt.keep t d _ n.1 h1) (DtAll.keep t ds _ n.2 h2)
end
theorem DtAll.snoc {H : Hp} {A : Option Addr} : ∀ {xs : List V} {ds : List PyData} {x : V} {d : PyData}, DtAll K H A xs ds → Dt K H A x d → DtAll K H A (xs ++ [x]) (ds ++ [d])
  | _, _, _, _, .nil, h => .cons h .nil
  | _, _, _, _, .cons h r, h2 => .cons h (r.snoc h2)
theorem TupAt.tp {H H' : Hp} {a : Addr} {xs : List V} (h : TupAt K H a xs) (t : Tp H H') : TupAt K H' a xs := h.imp (t _ _) id
theorem Same.tp {H H' : Hp} (s : Same H H') : Tp H H' := fun _ _ h => s _ _ h
theorem Mod.tp {H H' : Hp} {A D : Addr} (s : Mod A H H') (dr : Dr H D A) : Tp H H' := fun a xs h => by
  obtain ⟨_, _, _, _, e, _⟩ := id dr
  exact s _ _ (ne_of h e (by intro z; cases z)) h
theorem tp_put {H : Hp} {l : Addr} {xs ys : List V} (h : H l = some (.lst xs)) : Tp H (upd H l (.lst ys)) := fun a zs e => by
  rw [upd_ne (ne_of e h (by intro z; cases z))]; exact e
theorem dCmd_noL {d : PyData} (h : dCmd d = true) : noL d = true := by
  obtain ⟨c, n, t, rfl, _⟩ := dCmd_inv h
  rfl
theorem dCmdsFrom_noL : ∀ {ds : List PyData} {b : Option Int}, dCmdsFrom b ds = true → noLs ds = true
  | [], _, _ => rfl
  | d :: r, b, h => by
    rw [dCmdsFrom_cons, Bool.and_eq_true, Bool.and_eq_true] at h
    show (noL d && noLs r) = true
    rw [dCmd_noL h.1.1, dCmdsFrom_noL h.2]; rfl
theorem dCmdsFrom_all : ∀ {ds : List PyData} {b : Option Int}, dCmdsFrom b ds = true → ∀ d ∈ ds, dCmd d = true
  | [], _, _, _, m => nomatch m
  | d :: r, b, h, e, m => by
    rw [dCmdsFrom_cons, Bool.and_eq_true, Bool.and_eq_true] at h
    rcases List.mem_cons.mp m with rfl | m
    · exact h.1.1
    · exact dCmdsFrom_all h.2 e m
def lastC : Option Int → List PyData → Option Int
  | b, [] => b
  | _, d :: r => lastC (some (dClient d)) r
theorem lastC_snoc : ∀ (ds : List PyData) (b : Option Int) (d : PyData), lastC b (ds ++ [d]) = some (dClient d)
  | [], _, _ => rfl
  | _ :: r, _, d => lastC_snoc r _ d
theorem dCmdsFrom_snoc : ∀ (ds : List PyData) (b : Option Int) (d : PyData), dCmdsFrom b (ds ++ [d]) = (dCmdsFrom b ds && (dCmd d && dAfter (lastC b ds) d))
  | [], b, d => by
    show dCmdsFrom b [d] = _
    rw [dCmdsFrom_cons, dCmdsFrom_nil, dCmdsFrom_nil, Bool.and_true, Bool.true_and]; rfl
  | e :: r, b, d => by
    show dCmdsFrom b (e :: (r ++ [d])) = _
    rw [dCmdsFrom_cons, dCmdsFrom_snoc r, dCmdsFrom_cons, Bool.and_assoc, Bool.and_assoc, Bool.and_assoc]; rfl
end
theorem noLs_all : ∀ {ds : List PyData}, (∀ d ∈ ds, noL d = true) → noLs ds = true
  | [], _ => rfl
  | d :: r, h => by
    show (noL d && noLs r) = true
    rw [h d List.mem_cons_self, noLs_all (fun e he => h e (List.mem_cons_of_mem _ he))]; rfl

/-! ### slices and sums of tuples, as data -/
def cutD (ds : List PyData) (lo hi : Option Int) : List PyData := (ds.drop (HT.sIx ds.length 0 lo)).take (HT.sIx ds.length ds.length hi - HT.sIx ds.length 0 lo)
theorem DtAll.drop {K : PySem.W.Frag} {H : Hp} {A : Option Addr} : ∀ {xs : List V} {ds : List PyData} (n : Nat), DtAll K H A xs ds → DtAll K H A (xs.drop n) (ds.drop n)
  | _, _, 0, h => h
  | _, _, _ + 1, .nil => .nil
  | _, _, n + 1, .cons _ r => r.drop n
theorem DtAll.take {K : PySem.W.Frag} {H : Hp} {A : Option Addr} : ∀ {xs : List V} {ds : List PyData} (n : Nat), DtAll K H A xs ds → DtAll K H A (xs.take n) (ds.take n)
  | _, _, 0, _ => by rw [List.take_zero, List.take_zero]; exact .nil
  | _, _, _ + 1, .nil => .nil
  | _, _, n + 1, .cons h r => .cons h (r.take n)
theorem DtAll.app {K : PySem.W.Frag} {H : Hp} {A : Option Addr} : ∀ {xs ys : List V} {ds es : List PyData}, DtAll K H A xs ds → DtAll K H A ys es → DtAll K H A (xs ++ ys) (ds ++ es)
  | _, _, _, _, .nil, h => h
  | _, _, _, _, .cons h r, h2 => .cons h (r.app h2)
theorem sl_dt {K : PySem.W.Frag} {A : Option Addr} {H : Hp} {b : Addr} {xs : List V} {ds : List PyData} {lo hi : Option Int} {Q : VK} (ha : TupAt K H b xs) (hx : DtAll K H A xs ds) (q : ∀ H' v, Same H H' → Dt K H' A v (.tuple (cutD ds lo hi)) → Q v H') : rSlA K (.ref b) lo hi H Q := by
  have hl := hx.length
  refine ⟨b, xs, rfl, ha.sq, fun hw => q _ _ (Same.refl H) ?_, fun _ p hp => q _ _ (same_upd hp) (.tup (.inl upd_same) ?_)⟩
  · have e : cutD ds lo hi = ds := by
      unfold cutD
      rw [← hl, hw.1, hw.2, List.drop_zero, Nat.sub_zero, hl, List.take_of_length_le (Nat.le_refl _)]
    rw [e]
    exact .tup ha hx
  · unfold cutV cutD
    rw [← hl]
    exact ((hx.drop _).take _).on (same_upd hp)
theorem cat_dt {K : PySem.W.Frag} {A : Option Addr} {H : Hp} {v u : V} {ds es : List PyData} {Q : VK} (hv : Dt K H A v (.tuple ds)) (hu : Dt K H A u (.tuple es)) (hl : ds.length + es.length ≤ 100000) (q : ∀ H' v', Same H H' → Dt K H' A v' (.tuple (ds ++ es)) → Q v' H') : rCatA K v u H Q := by
  cases hv with
  | tup ha hx =>
    cases hu with
    | tup hb hy =>
      rename_i a xs b ys
      have l1 := hx.length
      have l2 := hy.length
      refine ⟨a, b, xs, ys, rfl, rfl, ha.sq, hb.sq, sz1000 (by omega), fun e => q _ _ (Same.refl H) ?_, fun _ e => q _ _ (Same.refl H) ?_, fun _ _ p hp => q _ _ (same_upd hp) (.tup (.inl upd_same) ((hx.app hy).on (same_upd hp)))⟩
      · rw [e] at l1
        rw [List.length_eq_zero_iff.mp l1.symm]
        exact .tup hb hy
      · rw [e] at l2
        rw [List.length_eq_zero_iff.mp l2.symm, List.append_nil]
        exact .tup ha hx
theorem cutD_take (ds : List PyData) (j : Nat) : cutD ds none (some (j : Int)) = ds.take j := by
  unfold cutD
  rw [HT.sIx_nat, HT.sIx_none, List.drop_zero, Nat.sub_zero]
  rcases Nat.le_total j ds.length with h | h
  · rw [Nat.min_eq_left h]
  · rw [Nat.min_eq_right h, List.take_of_length_le (Nat.le_refl _), List.take_of_length_le h]
theorem cutD_drop (ds : List PyData) (j : Nat) : cutD ds (some (j : Int)) none = ds.drop j := by
  unfold cutD
  rw [HT.sIx_nat, HT.sIx_none]
  rcases Nat.le_total j ds.length with h | h
  · rw [Nat.min_eq_left h, List.take_of_length_le (by rw [List.length_drop]; exact Nat.le_refl _)]
  · rw [Nat.min_eq_right h, Nat.sub_self, List.take_zero, List.drop_of_length_le h]

theorem atI_lt {α : Type} {xs : List α} {i : Int} (h0 : 0 ≤ i) (h1 : i < xs.length) : ∃ v, v ∈ xs ∧ atI xs i = some v := by
  obtain ⟨j, rfl⟩ := Int.eq_ofNat_of_zero_le h0
  have hj : j < xs.length := Int.ofNat_lt.mp h1
  exact ⟨xs[j], List.getElem_mem hj, atI_nat (List.getElem?_eq_getElem hj)⟩

/-! ### data for comparisons: shape and depth -/
def Ly (k : Nat) (d : PyData) : Prop := d.canLay0 = true ∧ d.depth ≤ k
theorem ly_all {k : Nat} : ∀ {ds : List PyData}, (∀ d ∈ ds, Ly k d) → PyData.canLayAll0 ds = true ∧ PyData.depthAll ds ≤ k
  | [], _ => ⟨by simp [PyData.canLayAll0], by simp [PyData.depthAll]⟩
  | d :: r, h => by
    obtain ⟨i1, i2⟩ := ly_all fun z hz => h z (List.mem_cons_of_mem _ hz)
    obtain ⟨l1, l2⟩ := h d List.mem_cons_self
    constructor
    · rw [PyData.canLayAll0, i1, l1]; rfl
    · rw [PyData.depthAll]; omega
theorem ly_tup {k : Nat} {ds : List PyData} (h : ∀ d ∈ ds, Ly k d) : Ly (k + 1) (.tuple ds) := by
  obtain ⟨a, b⟩ := ly_all h
  exact ⟨by rw [PyData.canLay0]; exact a, by rw [PyData.depth]; omega⟩
theorem ly_lst {k : Nat} {ds : List PyData} (h : ∀ d ∈ ds, Ly k d) : Ly (k + 1) (.list ds) := by
  obtain ⟨a, b⟩ := ly_all h
  exact ⟨by rw [PyData.canLay0]; exact a, by rw [PyData.depth]; omega⟩
theorem ly_int {k : Nat} (i : Int) : Ly k (.int i) := ⟨by simp [PyData.canLay0], by simp [PyData.depth]⟩
theorem ly_non {k : Nat} : Ly k .none := ⟨by simp [PyData.canLay0], by simp [PyData.depth]⟩
theorem ly_bl {k : Nat} (b : Bool) : Ly k (.bool b) := ⟨by simp [PyData.canLay0], by simp [PyData.depth]⟩
theorem ly_str {k : Nat} {z : Str} (h : PyData.strOk z = true) : Ly k (.str z) := ⟨by simp [PyData.canLay0, h], by simp [PyData.depth]⟩
theorem Ly.mono {k j : Nat} {d : PyData} (h : Ly k d) (le : k ≤ j) : Ly j d := ⟨h.1, Nat.le_trans h.2 le⟩
theorem ly_nil {k : Nat} : ∀ d ∈ ([] : List PyData), Ly k d := fun _ m => nomatch m
theorem ly_cons {k : Nat} {d : PyData} {r : List PyData} (h : Ly k d) (hr : ∀ d ∈ r, Ly k d) : ∀ e ∈ d :: r, Ly k e := fun e m => by
  rcases List.mem_cons.mp m with rfl | m
  · exact h
  · exact hr e m
theorem ly_app {k : Nat} {r s : List PyData} (hr : ∀ d ∈ r, Ly k d) (hs : ∀ d ∈ s, Ly k d) : ∀ e ∈ r ++ s, Ly k e := fun e m => by
  rcases List.mem_append.mp m with m | m
  · exact hr e m
  · exact hs e m
theorem shpL {d : PyData} (h : Ly 20 d) : SeqAt.shaped d = true ∧ PyData.eqv d d = true := by
  refine ⟨?_, SeqAt.eqv_refl _ h.1⟩
  unfold SeqAt.shaped
  rw [h.1, decide_eq_true (by have := h.2; omega)]; rfl

/-! ### a text times an int -/
theorem op_mul_str {X : Cx} : OpR X (binaryOp .Mult) (fun x y H Q => ∃ a i, x = .str a ∧ y = .int i ∧ PySem.MulOk a i ∧ Q (.str (PySem.Txt.mul a i)) H) := fun pins s σ H x y v u Q I rx ry ⟨a, i, ex, ey, ok, q⟩ => by
  subst ex; subst ey
  obtain ⟨t, rfl⟩ := rx
  obtain ⟨t2, rfl⟩ := ry
  exact PySem.SB.mul ok (fun t' k => ⟨.str (PySem.Txt.mul a i), H, I.turnedL (ch := []) (fun _ _ _ e => e) (fun _ m => nomatch m), ⟨t', rfl⟩, q⟩)
theorem mulOk_a {n : Nat} (h : n ≤ 1000000) : PySem.MulOk (Str.ofString "a") (n : Int) := by
  refine ⟨?_, fun _ _ => ?_, fun _ _ => ?_⟩
  · rw [decide_eq_false (by omega), decide_eq_false (by omega)]; rfl
  · have e : (Str.ofString "a").length = 1 := by decide
    rw [e]
    intro z
    have : (1 : Int) ≤ (2 ^ 63 - 1) / (n : Int) := Int.le_ediv_of_mul_le (by omega) (by omega)
    omega
  · have e : (Str.ofString "a").length = 1 := by decide
    rw [e, Nat.one_mul, Int.toNat_natCast]
    unfold PySem.Builtin.Str.tooLong
    have : n ≤ sizeLine := Nat.le_trans h (by decide)
    exact decide_eq_false (by omega)
theorem mul_a {n : Nat} : (PySem.Txt.mul (Str.ofString "a") (n : Int)).cps = (List.replicate n (97 : Nat)).toArray := by
  unfold PySem.Txt.mul
  split
  · rw [show n = 0 by omega]; rfl
  · split
    · rename_i h
      have : n = 1 := by
        have e : ((Str.ofString "a").length == 0) = false := by decide
        rw [e, Bool.or_false] at h
        have := eq_of_beq h
        omega
      subst this
      decide
    · show List.foldl (fun x1 x2 => x1 ++ x2) #[] (List.replicate (n : Int).toNat (Str.ofString "a").cps) = _
      rw [Int.toNat_natCast, show (Str.ofString "a").cps = #[97] by decide]
      have : ∀ (n : Nat) (acc : Array Nat), List.foldl (fun (x1 x2 : Array Nat) => x1 ++ x2) acc (List.replicate n #[97]) = acc ++ (List.replicate n (97 : Nat)).toArray := by
        intro n
        induction n with
        | zero => intro acc; simp
        | succ n ih =>
          intro acc
          rw [List.replicate_succ, List.foldl_cons, ih, List.replicate_succ]
          apply Array.toList_inj.mp
          simp
      rw [this]
      simp

/-! ### is_short, is_client, is_number, is_command, is_command_list -/
section
variable {P : Program} {w : World} {K : PySem.W.Frag} {mg : Str → Option Value} {base : Heap}
theorem c_is_integerD {C_Group : Addr} {C_BadGroup : Addr} {C_BadLetter : Addr} {C_FORMS : Addr} (T : Txt K mg w C_Group C_BadGroup C_BadLetter C_FORMS) (A : Option Addr) : Cal P w K mg base 1 "is_integer" (spIntD K A) [] := by
  obtain ⟨f, fd, ps, ds, F, r⟩ := (c_is_integer (P := P) (w := w) (base := base) T).ex
  refine ⟨f, fd, ps, ds, F.imp fun vs H Q E h => ?_, r⟩
  obtain ⟨v, d, lo, hi, rfl, hd, q⟩ := h
  refine ⟨v, lo, hi, rfl, ?_⟩
  cases hd with
  | int i => exact .inl ⟨i, rfl, q⟩
  | non => exact .inr ⟨⟨_, .base .non, .inl (by decide +kernel)⟩, q⟩
  | bl b => exact .inr ⟨⟨_, .base (.bl b), .inr ⟨by decide +kernel, by decide +kernel⟩⟩, q⟩
  | str z _ => exact .inr ⟨⟨_, .base (.str z), .inl (by decide +kernel)⟩, q⟩
  | lst _ ha _ => exact .inr ⟨⟨_, .base (.lst ha), .inl (by decide +kernel)⟩, q⟩
  | tup ha _ => exact .inr ⟨⟨_, ha.ty, .inl (by decide +kernel)⟩, q⟩
theorem c_is_short {C_Group : Addr} {C_BadGroup : Addr} {C_BadLetter : Addr} {C_FORMS : Addr} (T : Txt K mg w C_Group C_BadGroup C_BadLetter C_FORMS) (A : Option Addr) : Cal P w K mg base 2 "is_short" (spShortD K A) [] := by
  have c_is_printable := c_is_printable (P := P) (w := w) (base := base) T
  refine cal T.d_is_short sc_is_short (fun vs H Q E h => ?_) (fun f cdv A' outer s H vs Q E hr h => ?_)
  · obtain ⟨v, d, m, rfl, _⟩ := h; rfl
  obtain ⟨v, d, m, rfl, hd, q⟩ := h
  refine ⟨_, (pss_one (ps_ret (pe_and (pe_c c_is_printable hr (by decide) (by rfl) (pa_cons (pv 0) pa_nil)) (pe_one (pe_cmpR op_le (pe_callB call_len_str (by rfl) T.z_len (by decide +kernel) (pa_cons (pv 0) pa_nil)) (pv 1) (nomark _)))))), ?_⟩
  have two : (∃ z : Str, d = .str z ∧ v = .str z ∧ z.length ≤ 1000000) ∨ (NoStr K H v ∧ dShort m d = false) := by
    cases hd with
    | str z hz => exact .inl ⟨z, rfl, rfl, hz⟩
    | int i => exact .inr ⟨⟨_, .base (.int i), by decide +kernel⟩, rfl⟩
    | non => exact .inr ⟨⟨_, .base .non, by decide +kernel⟩, rfl⟩
    | bl b => exact .inr ⟨⟨_, .base (.bl b), by decide +kernel⟩, rfl⟩
    | lst _ ha _ => exact .inr ⟨⟨_, .base (.lst ha), by decide +kernel⟩, rfl⟩
    | tup ha _ => exact .inr ⟨⟨_, ha.ty, by decide +kernel⟩, rfl⟩
  rcases two with ⟨z, rfl, rfl, hz⟩ | ⟨hn, e⟩
  · refine ⟨_, rfl, .str z, rfl, .inl ⟨z, rfl, by omega, fun H' sm => ?_⟩⟩
    have q := q H' sm
    cases e : isPr z with
    | false =>
      rw [show dShort m (.str z) = false by show (isPr z && decide ((z.length : Int) ≤ m)) = false; rw [e]; rfl] at q
      refine ⟨_, rfl, ?_⟩
      exact q
    | true =>
      rw [show dShort m (.str z) = decide ((z.length : Int) ≤ m) by show (isPr z && decide ((z.length : Int) ≤ m)) = _; rw [e]; rfl] at q
      refine ⟨_, rfl, ?_⟩
      walk_at "rds"
      exact q
  · refine ⟨_, rfl, v, rfl, .inr ⟨hn, ?_⟩⟩
    rw [e] at q
    refine ⟨_, rfl, ?_⟩
    exact q H (Same.refl H)
theorem c_is_client {C_Group : Addr} {C_BadGroup : Addr} {C_BadLetter : Addr} {C_FORMS : Addr} (T : Txt K mg w C_Group C_BadGroup C_BadLetter C_FORMS) (A : Option Addr) : Cal P w K mg base 2 "is_client" (spPred K A (dInt (-100) (-1))) [] := by
  have c_is_integer := c_is_integerD (P := P) (w := w) (base := base) T A
  refine cal T.d_is_client sc_is_client (fun vs H Q E h => ?_) (fun f cdv A' outer s H vs Q E hr h => ?_)
  · obtain ⟨v, d, rfl, _⟩ := h; rfl
  obtain ⟨v, d, rfl, hd, q⟩ := h
  refine ⟨_, (pss_one (ps_ret (pe_c c_is_integer hr (by decide) (by rfl) (pa_cons (pv 0) (pa_cons (pe_un un_neg (pe_gc (by rfl) T.c_MOST_CLIENTS)) (pa_cons (pe_un un_neg pe_int) pa_nil)))))), ?_⟩
  walk_at "rds"
  exact ⟨v, d, _, _, rfl, hd, q H (Same.refl H)⟩
theorem c_is_number {C_Group : Addr} {C_BadGroup : Addr} {C_BadLetter : Addr} {C_FORMS : Addr} (T : Txt K mg w C_Group C_BadGroup C_BadLetter C_FORMS) (A : Option Addr) : Cal P w K mg base 2 "is_number" (spPred K A (dInt 1 1000000000000)) [] := by
  have c_is_integer := c_is_integerD (P := P) (w := w) (base := base) T A
  refine cal T.d_is_number sc_is_number (fun vs H Q E h => ?_) (fun f cdv A' outer s H vs Q E hr h => ?_)
  · obtain ⟨v, d, rfl, _⟩ := h; rfl
  obtain ⟨v, d, rfl, hd, q⟩ := h
  refine ⟨_, (pss_one (ps_ret (pe_c c_is_integer hr (by decide) (by rfl) (pa_cons (pv 0) (pa_cons pe_int (pa_cons (pe_gc (by rfl) T.c_MOST_NUMBER) pa_nil)))))), ?_⟩
  walk_at "rds"
  exact ⟨v, d, _, _, rfl, hd, q H (Same.refl H)⟩
theorem c_is_command {C_Group : Addr} {C_BadGroup : Addr} {C_BadLetter : Addr} {C_FORMS : Addr} (T : Txt K mg w C_Group C_BadGroup C_BadLetter C_FORMS) (A : Option Addr) : Cal P w K mg base 3 "is_command" (spPred K A dCmd) [] := by
  have c_is_short := c_is_short (P := P) (w := w) (base := base) T A
  have c_is_client := c_is_client (P := P) (w := w) (base := base) T A
  have c_is_number := c_is_number (P := P) (w := w) (base := base) T A
  refine cal T.d_is_command sc_is_command (fun vs H Q E h => ?_) (fun f cdv A' outer s H vs Q E hr h => ?_)
  · obtain ⟨v, d, rfl, _⟩ := h; rfl
  obtain ⟨v, d, rfl, hd, q⟩ := h
  refine ⟨_, (pss_cons (ps_if (PW.pt (pw_or (pt_not (pt_val (pe_callB (kisi (K := K)) (by rfl) T.z_isinstance (by decide +kernel) (pa_cons (pv 0) (pa_cons (pe_bltn (v := .ty "tuple") (by rfl) T.z_tuple (by decide +kernel) rfl) pa_nil))))) (pw_or1 (pt_cmpR op_ne (pe_callB (klen (K := K)) (by rfl) T.z_len (by decide +kernel) (pa_cons (pv 0) pa_nil)) pe_int (nomark _))))) (pss_one (ps_ret pe_bl)) pss_nil)
      (pss_cons (ps_asg (pv 0) (pg_tup (by rfl) (pgs_cons (pg_name (i := 1) sc_is_command.nd rfl (Or.inl rfl)) (pgs_cons (pg_name (i := 2) sc_is_command.nd rfl (Or.inl rfl)) (pgs_cons (pg_name (i := 3) sc_is_command.nd rfl (Or.inl rfl)) pgs_nil)))))
      (pss_one (ps_ret (pe_and (pe_c c_is_client hr (by decide) (by rfl) (pa_cons (pv 1) pa_nil)) (pe_and (pe_c c_is_number hr (by decide) (by rfl) (pa_cons (pv 2) pa_nil)) (pe_one (pe_c c_is_short hr (by decide) (by rfl) (pa_cons (pv 3) (pa_cons (pe_gc (by rfl) T.c_MOST_TEXT) pa_nil)))))))))), ?_⟩
  walk_at "rds"
  have two : (∃ a xs ds, v = .ref a ∧ d = .tuple ds ∧ TupAt K H a xs ∧ DtAll K H A xs ds) ∨ (∃ T, TyX K H v (.type T) ∧ kitB T "tuple" = some false ∧ dCmd d = false) := by
    cases hd with
    | tup ha hx => exact .inl ⟨_, _, _, rfl, rfl, ha, hx⟩
    | str z hz => exact .inr ⟨_, .base (.str z), by decide +kernel, rfl⟩
    | int i => exact .inr ⟨_, .base (.int i), by decide +kernel, rfl⟩
    | non => exact .inr ⟨_, .base .non, by decide +kernel, rfl⟩
    | bl b => exact .inr ⟨_, .base (.bl b), by decide +kernel, rfl⟩
    | lst _ ha _ => exact .inr ⟨_, .base (.lst ha), by decide +kernel, rfl⟩
  rcases two with ⟨a, xs, ds, rfl, rfl, ha, hx⟩ | ⟨T, ty, hk, e⟩
  · refine ⟨_, .ty _, _, _, true, rfl, .ty _, ha.ty, kit_ty (by decide +kernel), ?_⟩
    walk_at "rds"
    refine ⟨a, xs, rfl, .inr (ha.sq), ?_⟩
    walk_at "rds"
    refine ite2 (fun e => ?_) (fun e => ?_)
    · have e2 : dCmd (.tuple ds) = false := by
        have hl := hx.length
        match ds with
        | [] => rfl
        | [_] => rfl
        | [_, _] => rfl
        | [_, _, _] =>
          exfalso
          have e : (!decide (V.int (xs.length : Int) = V.int 3)) = true := e
          rw [hl] at e
          exact absurd e (by show ¬ ((!decide (V.int 3 = V.int 3)) = true); decide)
        | _ :: _ :: _ :: _ :: _ => rfl
      rw [e2] at q
      exact q H (Same.refl H)
    · have hl : xs.length = 3 := by
        by_cases h3 : (xs.length : Int) = 3
        · omega
        · exfalso
          exact e (by show (!decide (V.int _ = V.int _)) = true; rw [decide_eq_false (fun z => h3 (V.int.inj z))]; rfl)
      cases hx with
      | nil => simp at hl
      | cons h1 hx =>
        cases hx with
        | nil => simp at hl
        | cons h2 hx =>
          cases hx with
          | nil => simp at hl
          | cons h3 hx =>
            cases hx with
            | cons _ _ => simp at hl
            | nil =>
              rename_i x1 d1 x2 d2 x3 d3
              walk_at "rds"
              refine ⟨a, _, rfl, ha.sq, rfl, _, _, rfl, _, _, rfl, _, _, rfl, rfl, ?_⟩
              walk_at "rds"
              refine ⟨_, d1, rfl, h1, fun H2 s2 => ?_⟩
              have q : ∀ H', Same H H' → Q (.bl (dInt (-100) (-1) d1 && dInt 1 1000000000000 d2 && dShort 240 d3)) H' := q
              refine ⟨_, rfl, ?_⟩
              cases e1 : dInt (-100) (-1) d1 with
              | false =>
                rw [e1] at q
                refine ifF rfl ?_
                exact q _ s2
              | true =>
                rw [e1] at q
                refine ifT rfl ?_
                walk_at "rds"
                refine ⟨_, d2, rfl, h2.on s2, fun H3 s3 => ?_⟩
                refine ⟨_, rfl, ?_⟩
                cases e2 : dInt 1 1000000000000 d2 with
                | false =>
                  rw [e2] at q
                  refine ifF rfl ?_
                  exact q _ (s2.trans s3)
                | true =>
                  rw [e2] at q
                  refine ifT rfl ?_
                  walk_at "rds"
                  refine ⟨_, d3, 240, rfl, (h3.on s2).on s3, fun H4 s4 => ?_⟩
                  exact q _ ((s2.trans s3).trans s4)
  · refine ⟨_, .ty _, _, _, false, rfl, .ty _, ty, kit_ty hk, ?_⟩
    walk_at "rds"
    rw [e] at q
    exact q H (Same.refl H)
theorem c_is_command_list {C_Group : Addr} {C_BadGroup : Addr} {C_BadLetter : Addr} {C_FORMS : Addr} (T : Txt K mg w C_Group C_BadGroup C_BadLetter C_FORMS) (A : Option Addr) : Cal P w K mg base 4 "is_command_list" (spPred K A dCmds) [] := by
  have c_is_command := c_is_command (P := P) (w := w) (base := base) T A
  refine cal T.d_is_command_list sc_is_command_list (fun vs H Q E h => ?_) (fun f cdv A' outer s H vs Q E hr h => ?_)
  · obtain ⟨v, d, rfl, _⟩ := h; rfl
  obtain ⟨v, d, rfl, hd, q⟩ := h
  refine ⟨_, (pss_cons (ps_if (pt_not (pt_val (pe_callB (kisi (K := K)) (by rfl) T.z_isinstance (by decide +kernel) (pa_cons (pv 0) (pa_cons (pe_bltn (v := .ty "tuple") (by rfl) T.z_tuple (by decide +kernel) rfl) pa_nil))))) (pss_one (ps_ret pe_bl)) pss_nil)
      (pss_cons (ps_set (i := 1) sc_is_command_list.nd rfl (Or.inl rfl) pe_non)
      (pss_cons (ps_for PassesOwn.never rfl (pi_tup (pv 0)) (pg_name (i := 2) sc_is_command_list.nd rfl (Or.inl rfl)) (pss_cons (ps_if (pt_not (pt_val (pe_c c_is_command hr (by decide) (by rfl) (pa_cons (pv 2) pa_nil)))) (pss_one (ps_ret pe_bl)) pss_nil)
      (pss_cons (ps_if (PW.pt (pw_and (pt_cmpR op_notN (pv 1) pe_non (nomark _)) (pw_and1 (pt_cmpR op_le (pe_ix (kixt (K := K)) (pv 2) pe_int (fun _ _ => rfl)) (pv 1) (nomark _))))) (pss_one (ps_ret pe_bl)) pss_nil)
      (pss_one (ps_set (i := 1) sc_is_command_list.nd rfl (Or.inl rfl) (pe_ix (kixt (K := K)) (pv 2) pe_int (fun _ _ => rfl)))))))
      (pss_one (ps_ret pe_bl))))), ?_⟩
  walk_at "rds"
  have two : (∃ a xs ds, v = .ref a ∧ d = .tuple ds ∧ TupAt K H a xs ∧ DtAll K H A xs ds) ∨ (∃ T, TyX K H v (.type T) ∧ kitB T "tuple" = some false ∧ dCmds d = false) := by
    cases hd with
    | tup ha hx => exact .inl ⟨_, _, _, rfl, rfl, ha, hx⟩
    | str z hz => exact .inr ⟨_, .base (.str z), by decide +kernel, rfl⟩
    | int i => exact .inr ⟨_, .base (.int i), by decide +kernel, rfl⟩
    | non => exact .inr ⟨_, .base .non, by decide +kernel, rfl⟩
    | bl b => exact .inr ⟨_, .base (.bl b), by decide +kernel, rfl⟩
    | lst _ ha _ => exact .inr ⟨_, .base (.lst ha), by decide +kernel, rfl⟩
  rcases two with ⟨a, xs, ds, rfl, rfl, ha, hx⟩ | ⟨T, ty, hk, e⟩
  · refine ⟨_, .ty _, _, _, true, rfl, .ty _, ha.ty, kit_ty (by decide +kernel), ?_⟩
    walk_at "rds"
    refine ⟨⟨xs, ha.sq⟩, ?_⟩
    refine for_it (walk_tup (K := K) (a := a) (xs := xs)) (Pv := fun i σ H' => ∃ (b : Option Int) (y : Option V), σ = [some (.ref a), some (befV b), y] ∧ Same H H' ∧ dCmdsFrom none ds = dCmdsFrom b (ds.drop i)) ⟨none, none, rfl, Same.refl H, rfl⟩ (fun i σ H' _ h => by obtain ⟨_, _, _, sm, _⟩ := h; exact (ha.same sm).sq) (fun i x σ H2 H3 hi hp hy => ?_) (fun σ H2 hp => ?_)
    · obtain ⟨b, y, rfl, sm, eq⟩ := hp
      obtain ⟨rfl, gx⟩ := hy
      obtain ⟨d, gd, hdx⟩ := hx.get gx
      have hid : i < ds.length := (List.getElem?_eq_some_iff.mp gd).1
      have edrop : ds.drop i = d :: ds.drop (i + 1) := by
        rw [List.drop_eq_getElem_cons hid]
        rw [List.getElem?_eq_getElem hid] at gd
        cases gd; rfl
      rw [edrop, dCmdsFrom_cons] at eq
      have q : ∀ H', Same H H' → Q (.bl (dCmdsFrom none ds)) H' := q
      walk_at "rds"
      refine ⟨x, d, rfl, hdx.on sm, fun H4 s4 => ?_⟩
      refine ⟨_, rfl, ?_⟩
      cases ec : dCmd d with
      | false =>
        rw [ec] at eq
        refine ifT rfl ?_
        rw [show dCmdsFrom none ds = false from eq] at q
        exact q _ (sm.trans s4)
      | true =>
        rw [ec] at eq
        refine ifF rfl ?_
        obtain ⟨c, n, t, rfl, c0, c1, n0, n1, t0, t1⟩ := dCmd_inv ec
        obtain ⟨aq, x1, x2, x3, rfl, haq, h1, h2, h3⟩ := (hdx.on (sm.trans s4)).three
        cases h1
        have eq : dCmdsFrom none ds = (dAfter b (.tuple [.int c, .int n, .str t]) && dCmdsFrom (some c) (ds.drop (i + 1))) := eq
        cases b with
        | none =>
          walk_at "rds"
          refine ⟨aq, _, 0, _, rfl, rfl, haq.sq, atI_nat rfl, ?_⟩
          exact ⟨some c, some (.ref aq), rfl, sm.trans s4, by rw [eq]; rfl⟩
        | some k =>
          walk_at "rds"
          refine ⟨aq, _, 0, _, rfl, rfl, haq.sq, atI_nat rfl, ?_⟩
          walk_at "rds"
          have eq : dCmdsFrom none ds = (decide (k < c) && dCmdsFrom (some c) (ds.drop (i + 1))) := eq
          refine ite2 (fun e => ?_) (fun e => ?_)
          · have e : decide (c ≤ k) = true := e
            rw [show dCmdsFrom none ds = false by rw [eq, decide_eq_false (by have := of_decide_eq_true e; omega)]; rfl] at q
            exact q _ (sm.trans s4)
          · have e : ¬ decide (c ≤ k) = true := e
            walk_at "rds"
            refine ⟨aq, _, 0, _, rfl, rfl, haq.sq, atI_nat rfl, ?_⟩
            exact ⟨some c, some (.ref aq), rfl, sm.trans s4, by rw [eq, decide_eq_true (by rcases Int.lt_or_le k c with h | h; exact h; exact absurd (decide_eq_true h) e)]; rfl⟩
    · obtain ⟨b, y, rfl, sm, eq⟩ := hp
      walk_at "rds"
      rw [List.drop_of_length_le (by rw [hx.length]; exact Nat.le_refl _), dCmdsFrom_nil] at eq
      have q : ∀ H', Same H H' → Q (.bl (dCmdsFrom none ds)) H' := q
      rw [show dCmdsFrom none ds = true from eq] at q
      exact q _ sm
  · refine ⟨_, .ty _, _, _, false, rfl, .ty _, ty, kit_ty hk, ?_⟩
    walk_at "rds"
    rw [e] at q
    exact q H (Same.refl H)
end

/-! ### blocks -/
def spHeight (K : PySem.W.Frag) (A : Option Addr) : Sp := fun vs H Q _ => ∃ (p : Int) (v : V) (d : PyData), vs = [.int p, v] ∧ Dt K H A v d ∧ ∀ H', Same H H' → Q (.bl (dHeight p d)) H'
section
variable {P : Program} {w : World} {K : PySem.W.Frag} {mg : Str → Option Value} {base : Heap}
theorem c_is_height_above {C_Group : Addr} {C_BadGroup : Addr} {C_BadLetter : Addr} {C_FORMS : Addr} (T : Txt K mg w C_Group C_BadGroup C_BadLetter C_FORMS) (A : Option Addr) : Cal P w K mg base 2 "is_height_above" (spHeight K A) [] := by
  have c_is_integer := c_is_integerD (P := P) (w := w) (base := base) T A
  refine cal T.d_is_height_above sc_is_height_above (fun vs H Q E h => ?_) (fun f cdv A' outer s H vs Q E hr h => ?_)
  · obtain ⟨p, v, d, rfl, _⟩ := h; rfl
  obtain ⟨p, v, d, rfl, hd, q⟩ := h
  refine ⟨_, (pss_cons (ps_if (pt_cmpR op_eq (pv 0) pe_int (nomark _)) (pss_one (ps_ret (pe_c c_is_integer hr (by decide) (by rfl) (pa_cons (pv 1) (pa_cons pe_int (pa_cons pe_int pa_nil)))))) pss_nil)
      (pss_one (ps_ret (pe_c c_is_integer hr (by decide) (by rfl) (pa_cons (pv 1) (pa_cons pe_int (pa_cons (pe_op op_add (pv 0) pe_int) pa_nil))))))), ?_⟩
  walk_at "rds"
  refine ite2 (fun e => ?_) (fun e => ?_)
  · have e : p = 0 := V.int.inj (of_decide_eq_true e)
    subst e
    walk_at "rds"
    exact ⟨v, d, _, _, rfl, hd, q H (Same.refl H)⟩
  · have e : p ≠ 0 := fun z => e (by rw [z]; rfl)
    walk_at "rds"
    refine ⟨v, d, _, _, rfl, hd, ?_⟩
    have q := q H (Same.refl H)
    unfold dHeight at q
    rw [if_neg e] at q
    exact q
theorem c_is_block {C_Group : Addr} {C_BadGroup : Addr} {C_BadLetter : Addr} {C_FORMS : Addr} (T : Txt K mg w C_Group C_BadGroup C_BadLetter C_FORMS) (A : Option Addr) : Cal P w K mg base 5 "is_block" (spPred K A dBlock) [] := by
  have c_is_integer := c_is_integerD (P := P) (w := w) (base := base) T A
  have c_is_height_above := c_is_height_above (P := P) (w := w) (base := base) T A
  have c_is_command_list := c_is_command_list (P := P) (w := w) (base := base) T A
  refine cal T.d_is_block sc_is_block (fun vs H Q E h => ?_) (fun f cdv A' outer s H vs Q E hr h => ?_)
  · obtain ⟨v, d, rfl, _⟩ := h; rfl
  obtain ⟨v, d, rfl, hd, q⟩ := h
  refine ⟨_, (pss_cons (ps_if (PW.pt (pw_or (pt_not (pt_val (pe_callB (kisi (K := K)) (by rfl) T.z_isinstance (by decide +kernel) (pa_cons (pv 0) (pa_cons (pe_bltn (v := .ty "tuple") (by rfl) T.z_tuple (by decide +kernel) rfl) pa_nil))))) (pw_or1 (pt_cmpR op_ne (pe_callB (klen (K := K)) (by rfl) T.z_len (by decide +kernel) (pa_cons (pv 0) pa_nil)) pe_int (nomark _))))) (pss_one (ps_ret pe_bl)) pss_nil)
      (pss_cons (ps_asg (pv 0) (pg_tup (by rfl) (pgs_cons (pg_name (i := 1) sc_is_block.nd rfl (Or.inl rfl)) (pgs_cons (pg_name (i := 2) sc_is_block.nd rfl (Or.inl rfl)) (pgs_cons (pg_name (i := 3) sc_is_block.nd rfl (Or.inl rfl)) (pgs_cons (pg_name (i := 4) sc_is_block.nd rfl (Or.inl rfl)) pgs_nil))))))
      (pss_cons (ps_if (PW.pt (pw_or (pt_not (pt_val (pe_c c_is_integer hr (by decide) (by rfl) (pa_cons (pv 1) (pa_cons pe_int (pa_cons (pe_gc (by rfl) T.c_MOST_NUMBER) pa_nil)))))) (pw_or1 (pt_not (pt_val (pe_c c_is_integer hr (by decide) (by rfl) (pa_cons (pv 2) (pa_cons pe_int (pa_cons (pe_op op_sub (pv 1) pe_int) pa_nil))))))))) (pss_one (ps_ret pe_bl)) pss_nil)
      (pss_one (ps_ret (pe_and (pe_c c_is_height_above hr (by decide) (by rfl) (pa_cons (pv 2) (pa_cons (pv 3) pa_nil))) (pe_one (pe_c c_is_command_list hr (by decide) (by rfl) (pa_cons (pv 4) pa_nil))))))))), ?_⟩
  walk_at "rds"
  have two : (∃ a xs ds, v = .ref a ∧ d = .tuple ds ∧ TupAt K H a xs ∧ DtAll K H A xs ds) ∨ (∃ T, TyX K H v (.type T) ∧ kitB T "tuple" = some false ∧ dBlock d = false) := by
    cases hd with
    | tup ha hx => exact .inl ⟨_, _, _, rfl, rfl, ha, hx⟩
    | str z hz => exact .inr ⟨_, .base (.str z), by decide +kernel, rfl⟩
    | int i => exact .inr ⟨_, .base (.int i), by decide +kernel, rfl⟩
    | non => exact .inr ⟨_, .base .non, by decide +kernel, rfl⟩
    | bl b => exact .inr ⟨_, .base (.bl b), by decide +kernel, rfl⟩
    | lst _ ha _ => exact .inr ⟨_, .base (.lst ha), by decide +kernel, rfl⟩
  rcases two with ⟨a, xs, ds, rfl, rfl, ha, hx⟩ | ⟨T, ty, hk, e⟩
  · refine ⟨_, .ty _, _, _, true, rfl, .ty _, ha.ty, kit_ty (by decide +kernel), ?_⟩
    walk_at "rds"
    refine ⟨a, xs, rfl, .inr (ha.sq), ?_⟩
    walk_at "rds"
    refine ite2 (fun e => ?_) (fun e => ?_)
    · have e2 : dBlock (.tuple ds) = false := by
        have hl := hx.length
        match ds with
        | [] => rfl
        | [_] => rfl
        | [_, _] => rfl
        | [_, _, _] => rfl
        | [_, _, _, _] =>
          exfalso
          have e : (!decide (V.int (xs.length : Int) = V.int 4)) = true := e
          rw [hl] at e
          exact absurd e (by show ¬ ((!decide (V.int 4 = V.int 4)) = true); decide)
        | _ :: _ :: _ :: _ :: _ :: _ => rfl
      rw [e2] at q
      exact q H (Same.refl H)
    · have hl : xs.length = 4 := by
        by_cases h3 : (xs.length : Int) = 4
        · omega
        · exfalso
          exact e (by show (!decide (V.int _ = V.int _)) = true; rw [decide_eq_false (fun z => h3 (V.int.inj z))]; rfl)
      obtain ⟨x1, x2, x3, x4, d1, d2, d3, d4, rfl, rfl, h1, h2, h3, h4⟩ := hx.four hl
      have q : ∀ H', Same H H' → Q (.bl (dBlock4 d1 d2 d3 d4)) H' := q
      walk_at "rds"
      refine ⟨a, _, rfl, ha.sq, rfl, _, _, rfl, _, _, rfl, _, _, rfl, _, _, rfl, rfl, ?_⟩
      walk_at "rds"
      refine ⟨_, d1, _, _, rfl, h1, ?_⟩
      cases e1 : dInt 1 1000000000000 d1 with
      | false =>
        rw [show dBlock4 d1 d2 d3 d4 = false from dBlock4_e1 e1] at q
        refine ⟨_, rfl, ?_⟩
        refine ifT rfl ?_
        exact q _ (Same.refl H)
      | true =>
        obtain ⟨ep, rfl, ep0, ep1⟩ := dInt_inv e1
        cases h1
        refine ⟨_, rfl, ?_⟩
        refine ifF rfl ?_
        walk_at "rds"
        refine ⟨_, d2, _, _, rfl, h2, ?_⟩
        cases e2 : dInt 0 (ep - 1) d2 with
        | false =>
          rw [show dBlock4 (.int ep) d2 d3 d4 = false from dBlock4_e2 e2] at q
          refine ⟨_, rfl, ?_⟩
          refine ifT rfl ?_
          exact q _ (Same.refl H)
        | true =>
          obtain ⟨pa, rfl, pa0, pa1⟩ := dInt_inv e2
          cases h2
          have q : ∀ H', Same H H' → Q (.bl (dHeight pa d3 && dCmds d4)) H' := by
            intro H' sm
            have q := q H' sm
            rw [show dBlock4 (.int ep) (.int pa) d3 d4 = (dHeight pa d3 && dCmds d4) by show (dInt 1 1000000000000 (.int ep) && dInt 0 (ep - 1) (.int pa) && dHeight pa d3 && dCmds d4) = _; rw [e1, e2]; rfl] at q
            exact q
          refine ⟨_, rfl, ?_⟩
          refine ifF rfl ?_
          walk_at "rds"
          refine ⟨pa, _, d3, rfl, h3, fun H2 s2 => ?_⟩
          refine ⟨_, rfl, ?_⟩
          cases e3 : dHeight pa d3 with
          | false =>
            rw [e3] at q
            refine ifF rfl ?_
            exact q _ s2
          | true =>
            rw [e3] at q
            refine ifT rfl ?_
            walk_at "rds"
            refine ⟨_, d4, rfl, h4.on s2, fun H3 s3 => ?_⟩
            exact q _ (s2.trans s3)
  · refine ⟨_, .ty _, _, _, false, rfl, .ty _, ty, kit_ty hk, ?_⟩
    walk_at "rds"
    rw [e] at q
    exact q H (Same.refl H)
theorem dHeight_inv {p : Int} {h : PyData} (z : dHeight p h = true) : ∃ i, h = .int i := by
  unfold dHeight at z
  split at z
  · obtain ⟨i, e, _⟩ := dInt_inv z; exact ⟨i, e⟩
  · obtain ⟨i, e, _⟩ := dInt_inv z; exact ⟨i, e⟩
/-- a block's or genesis' first and third part -/
theorem dBlock_inv {d : PyData} (h : dBlock d = true) : ∃ (e p h : Int) (cs : List PyData), d = .tuple [.int e, .int p, .int h, .tuple cs] := by
  unfold dBlock at h
  split at h
  · unfold dBlock4 at h
    split at h
    · rename_i e p
      rw [Bool.and_eq_true, Bool.and_eq_true, Bool.and_eq_true] at h
      obtain ⟨⟨⟨_, _⟩, h3⟩, h4⟩ := h
      obtain ⟨i, rfl⟩ := dHeight_inv h3
      unfold dCmds at h4
      split at h4
      · exact ⟨_, _, _, _, rfl⟩
      · cases h4
    · cases h
  · cases h
theorem Dt.quad {H : Hp} {A : Option Addr} {v : V} {d1 d2 d3 d4 : PyData} (h : Dt K H A v (.tuple [d1, d2, d3, d4])) : ∃ a x1 x2 x3 x4, v = .ref a ∧ TupAt K H a [x1, x2, x3, x4] ∧ Dt K H A x1 d1 ∧ Dt K H A x2 d2 ∧ Dt K H A x3 d3 ∧ Dt K H A x4 d4 := by
  cases h with
  | tup ha hd =>
    obtain ⟨x1, x2, x3, x4, e1, e2, e3, e4, rfl, e, h1, h2, h3, h4⟩ := hd.four hd.length
    cases e
    exact ⟨_, _, _, _, _, rfl, ha, h1, h2, h3, h4⟩
end

/-! ### the law's commands -/
def spCommand (K : PySem.W.Frag) : Sp := fun vs H Q _ => ∃ (D A : Addr) (c : Int), vs = [.ref D, .ref A, .int c] ∧ Dr H D A ∧ -100 ≤ c ∧ c ≤ -1 ∧
  ∀ (H' : Hp) (x : V) (d : PyData), Mod A H H' → Dr H' D A → Dt K H' A x d → dCmd d = true → dClient d = c → Q x H'
def spCommands (K : PySem.W.Frag) : Sp := fun vs H Q _ => ∃ (D A : Addr) (m : Int), vs = [.ref D, .ref A, .int m] ∧ Dr H D A ∧ 0 ≤ m ∧ m ≤ 50 ∧
  ∀ (H' : Hp) (x : V) (cs : List PyData), Mod A H H' → Dr H' D A → Dt K H' A x (.tuple cs) → dCmdsFrom none cs = true → cs.length ≤ 100 → Q x H'
def spTruth : Sp := fun vs H Q _ => ∃ (a b : Bool), vs = [.bl a, .bl b] ∧ Q (.bl (decide (V.bl a = V.bl b))) H
theorem Mod.put {A l : Addr} {o : HO} {H H' : Hp} (s : Mod A H H') (h : H l = none) : Mod A H (upd H' l o) := fun b u n e => by
  rw [upd_ne (ne_of_none e h)]
  exact s b u n e
section
variable {P : Program} {w : World} {K : PySem.W.Frag} {mg : Str → Option Value} {base : Heap}
theorem c__law_truth {C_Group : Addr} {C_BadGroup : Addr} {C_BadLetter : Addr} {C_FORMS : Addr} (T : Txt K mg w C_Group C_BadGroup C_BadLetter C_FORMS) : Cal P w K mg base 1 "_law_truth" spTruth [] := by
  refine cal T.d__law_truth sc__law_truth (fun vs H Q E h => ?_) (fun f cdv A' outer s H vs Q E hr h => ?_)
  · obtain ⟨a, b, rfl, _⟩ := h; rfl
  obtain ⟨a, b, rfl, q⟩ := h
  refine ⟨_, (pss_one (ps_ret (pe_and (pe_callB (kisi (K := K)) (by rfl) T.z_isinstance (by decide +kernel) (pa_cons (pv 0) (pa_cons (pe_bltn (v := .ty "bool") (by rfl) T.z_bool (by decide +kernel) rfl) pa_nil))) (pe_one (pe_cmpR op_eq (pv 0) (pv 1) (nomark _)))))), ?_⟩
  walk_at "rds"
  walk_at "isi"
  walk_at "rds"
  exact q
theorem c__law_command {C_Group : Addr} {C_BadGroup : Addr} {C_BadLetter : Addr} {C_FORMS : Addr} (T : Txt K mg w C_Group C_BadGroup C_BadLetter C_FORMS) : Cal P w K mg base 3 "_law_command" (spCommand K) [] := by
  have c__law_next := c__law_next (P := P) (w := w) (base := base) T
  have c__law_big := c__law_big (P := P) (w := w) (base := base) T
  have c__law_string := c__law_string (P := P) (w := w) (base := base) T
  refine cal T.d__law_command sc__law_command (fun vs H Q E h => ?_) (fun f cdv A' outer s H vs Q E hr h => ?_)
  · obtain ⟨D, A, c, rfl, _⟩ := h; rfl
  obtain ⟨D, A, c, rfl, dr, hc0, hc1, q⟩ := h
  refine ⟨_, (pss_cons (ps_set (i := 3) sc__law_command.nd rfl (Or.inl rfl) (pe_op op_add pe_int (pe_c c__law_next hr (by decide) (by rfl) (pa_cons (pv 0) (pa_cons (pv 1) (pa_cons pe_int pa_nil))))))
      (pss_cut (ps_if (pt_cmpR op_eq (pe_c c__law_next hr (by decide) (by rfl) (pa_cons (pv 0) (pa_cons (pv 1) (pa_cons pe_int pa_nil)))) pe_int (nomark _)) (pss_one (ps_set (i := 3) sc__law_command.nd rfl (Or.inl rfl) (pe_op op_add pe_int (pe_c c__law_big hr (by decide) (by rfl) (pa_cons (pv 0) (pa_cons (pv 1) (pa_cons (pe_op op_pow pe_int pe_int) pa_nil))))))) pss_nil)
      (pss_one (ps_ret (pe_tup (pa_cons (pv 2) (pa_cons (pv 3) (pa_cons (pe_c c__law_string hr (by decide) (by rfl) (pa_cons (pv 0) (pa_cons (pv 1) (pa_cons pe_int pa_nil)))) pa_nil)))))))), ?_⟩
  walk_at "rds"
  refine ⟨D, A, 5, rfl, dr, by decide, fun H1 n1 n10 n11 md1 dr1 => ?_⟩
  walk_at "rds"
  refine ⟨fun σ' H' => ∃ n : Int, σ' = [some (.ref D), some (.ref A), some (.int c), some (.int n)] ∧ 1 ≤ n ∧ n ≤ 1000000000000 ∧ Mod A H H' ∧ Dr H' D A, ?_, ?_⟩
  · walk_at "rds"
    refine ⟨D, A, 6, rfl, dr1, by decide, fun H2 s2 s20 s21 md2 dr2 => ?_⟩
    walk_at "rds"
    refine ite2 (fun _ => ?_) (fun _ => ?_)
    · walk_at "rds"
      refine ⟨D, A, 1000000000000, rfl, dr2, by decide, fun H3 s3 s30 s31 md3 dr3 => ?_⟩
      walk_at "rds"
      exact ⟨_, rfl, by omega, by omega, (md1.trans md2).trans md3, dr3⟩
    · exact ⟨_, rfl, by omega, by omega, md1.trans md2, dr2⟩
  rintro σ' H2 ⟨n, rfl, hn0, hn1, md2, dr2⟩
  walk_at "rds"
  refine ⟨D, A, 240, rfl, dr2, by decide, by decide, fun H3 z hz pz md3 dr3 => ?_⟩
  walk_at "rds"
  intro p hp
  have e : dCmd (.tuple [.int c, .int n, .str z]) = true := by
    show (decide (-100 ≤ c ∧ c ≤ -1) && decide (1 ≤ n ∧ n ≤ 1000000000000) && (isPr z && decide ((z.length : Int) ≤ 240))) = true
    rw [decide_eq_true ⟨hc0, hc1⟩, decide_eq_true ⟨hn0, hn1⟩, pz, decide_eq_true hz]; rfl
  exact q _ _ (.tuple [.int c, .int n, .str z]) ((md2.trans md3).new hp) (dr3.new hp) (.tup (.inl upd_same) (.cons (.int _) (.cons (.int _) (.cons (.str _ (by omega)) .nil)))) e rfl
theorem c__law_commands {C_Group : Addr} {C_BadGroup : Addr} {C_BadLetter : Addr} {C_FORMS : Addr} (T : Txt K mg w C_Group C_BadGroup C_BadLetter C_FORMS) : Cal P w K mg base 4 "_law_commands" (spCommands K) [] := by
  have c__law_next := c__law_next (P := P) (w := w) (base := base) T
  have c__law_command := c__law_command (P := P) (w := w) (base := base) T
  refine cal T.d__law_commands sc__law_commands (fun vs H Q E h => ?_) (fun f cdv A' outer s H vs Q E hr h => ?_)
  · obtain ⟨D, A, m, rfl, _⟩ := h; rfl
  obtain ⟨D, A, m, rfl, dr, hm0, hm1, q⟩ := h
  refine ⟨_, (pss_cons (ps_set (i := 3) sc__law_commands.nd rfl (Or.inl rfl) (pe_lst pa_nil))
      (pss_cons (ps_set (i := 4) sc__law_commands.nd rfl (Or.inl rfl) (pe_op op_add (pe_un un_neg pe_int) (pe_c c__law_next hr (by decide) (by rfl) (pa_cons (pv 0) (pa_cons (pv 1) (pa_cons pe_int pa_nil))))))
      (pss_cons (ps_for PassesOwn.never rfl (pi_range1 (by rfl) T.z_range (pa_cons (pe_c c__law_next hr (by decide) (by rfl) (pa_cons (pv 0) (pa_cons (pv 1) (pa_cons (pe_op op_add (pv 2) pe_int) pa_nil)))) pa_nil)) (pg_name (i := 5) sc__law_commands.nd rfl (Or.inl rfl)) (pss_cons (ps_if (pt_cmpR op_lt (pv 4) pe_int (nomark _)) (pss_one (ps_expr (pe_bm PySem.F.plainAttrs_list PySem.F.slot_list_append PySem.F.type_list_append mt_append (pv 3) (pa_cons (pe_c c__law_command hr (by decide) (by rfl) (pa_cons (pv 0) (pa_cons (pv 1) (pa_cons (pv 4) pa_nil)))) pa_nil)))) pss_nil)
      (pss_one (ps_set (i := 4) sc__law_commands.nd rfl (Or.inl rfl) (pe_op op_add (pe_op op_add (pv 4) pe_int) (pe_c c__law_next hr (by decide) (by rfl) (pa_cons (pv 0) (pa_cons (pv 1) (pa_cons pe_int pa_nil)))))))))
      (pss_one (ps_ret (pe_callTy call_tuple_of (by rfl) T.z_tuple (by decide +kernel) (pa_cons (pv 3) pa_nil))))))), ?_⟩
  refine ⟨by decide, fun l hl => ?_⟩
  have lA := dr.freshA hl
  have lD := dr.freshD hl
  walk_at "rds"
  refine ⟨D, A, 100, rfl, dr.new hl, by decide, fun H1 c1 c10 c11 md1 dr1 => ?_⟩
  walk_at "rds"
  refine ⟨D, A, _, rfl, dr1, by omega, fun H2 n n0 n1 md2 dr2 => ?_⟩
  obtain ⟨n, rfl⟩ := Int.eq_ofNat_of_zero_le n0
  walk_at "rds"
  refine for_it walk_range (Pv := fun i σ H' => ∃ (xs : List V) (ds : List PyData) (c : Int) (y : Option V), σ = [some (.ref D), some (.ref A), some (.int m), some (.ref l), some (.int c), y] ∧ H' l = some (.lst xs) ∧ DtAll K H' A xs ds ∧ dCmdsFrom none ds = true ∧ (∀ k, lastC none ds = some k → k < c) ∧ -100 ≤ c ∧ ds.length ≤ i ∧ Mod A H H' ∧ Dr H' D A)
    ⟨[], [], _, none, rfl, md2 _ _ lA (md1 _ _ lA upd_same), .nil, rfl, (fun _ z => nomatch z), by omega, by simp, ((Mod.refl.put hl).trans md1).trans md2, dr2⟩ (fun _ _ _ _ _ => trivial) (fun i x σ H3 H4 hi hp hy => ?_) (fun σ H3 hp => ?_)
  · obtain ⟨xs, ds, c, y, rfl, hl3, hx, hc, hk, hc0, hlen, md, dr⟩ := hp
    obtain ⟨rfl, rfl⟩ := hy
    have hi' : i < n := by omega
    walk_at "rds"
    refine ite2 (fun e => ?_) (fun e => ?_)
    · have e : c < 0 := of_decide_eq_true e
      walk_at "rds"
      refine ⟨.inl ⟨rfl, _, sq hl3⟩, ?_⟩
      walk_at "rds"
      refine ⟨D, A, c, rfl, dr, hc0, by omega, fun H5 x d md5 dr5 hd e1 e2 => ?_⟩
      have hl5 := md5 _ _ lA hl3
      refine ⟨l, xs, _, rfl, rfl, hl5, by rw [hx.length]; exact sz1000' (by omega), ?_⟩
      walk_at "rds"
      refine ⟨D, A, 20, rfl, dr5.put lD lA, by decide, fun H6 r r0 r1 md6 dr6 => ?_⟩
      walk_at "rds"
      have t5 := md5.tp dr
      have tp := tp_put (ys := xs ++ [x]) hl5
      have t6 := md6.tp (dr5.put (o := .lst (xs ++ [x])) lD lA)
      have all : dCmdsFrom none (ds ++ [d]) = true := by
        rw [dCmdsFrom_snoc, hc, e1]
        cases ek : lastC none ds with
        | none => rfl
        | some k => exact decide_eq_true (by rw [e2]; exact hk k ek)
      have hx1 := DtAll.keep (B := some A) t5 _ _ (dCmdsFrom_noL hc) hx
      have hx2 := DtAll.keep (B := some A) tp _ _ (dCmdsFrom_noL all) (hx1.snoc hd)
      refine ⟨xs ++ [x], ds ++ [d], _, _, rfl, md6 _ _ lA upd_same, DtAll.keep (B := some A) t6 _ _ (dCmdsFrom_noL all) hx2, all, fun k z => ?_, by omega, by rw [List.length_append, List.length_singleton]; omega, ((md.trans md5).put hl).trans md6, dr6⟩
      rw [lastC_snoc] at z
      cases z
      rw [e2]; omega
    · have e : ¬ c < 0 := fun z => e (decide_eq_true z)
      walk_at "rds"
      refine ⟨D, A, 20, rfl, dr, by decide, fun H6 r r0 r1 md6 dr6 => ?_⟩
      walk_at "rds"
      refine ⟨xs, ds, _, _, rfl, md6 _ _ lA hl3, DtAll.keep (B := some A) (md6.tp dr) _ _ (dCmdsFrom_noL hc) hx, hc, fun k z => ?_, by omega, by omega, md.trans md6, dr6⟩
      have := hk k z
      omega
  · obtain ⟨xs, ds, c, y, rfl, hl3, hx, hc, hk, hc0, hlen, md, dr⟩ := hp
    walk_at "rds"
    refine ⟨l, xs, rfl, .inl ⟨sq hl3, fun t ht => ?_⟩⟩
    exact q _ _ ds (md.new ht) (dr.new ht) (.tup (.inl upd_same) (hx.on (same_upd ht))) hc (by omega)
end

/-! ### the law's blocks -/
def spBlock (K : PySem.W.Frag) : Sp := fun vs H Q _ => ∃ (D A : Addr) (m : Int), vs = [.ref D, .ref A, .int m] ∧ Dr H D A ∧ 0 ≤ m ∧ m ≤ 50 ∧
  ∀ (H' : Hp) (x : V) (e p h : Int) (cs : List PyData), Mod A H H' → Dr H' D A → Dt K H' A x (.tuple [.int e, .int p, .int h, .tuple cs]) → dBlock (.tuple [.int e, .int p, .int h, .tuple cs]) = true → cs.length ≤ 100 → Q x H'
section
variable {P : Program} {w : World} {K : PySem.W.Frag} {mg : Str → Option Value} {base : Heap}
theorem c__law_block {C_Group : Addr} {C_BadGroup : Addr} {C_BadLetter : Addr} {C_FORMS : Addr} (T : Txt K mg w C_Group C_BadGroup C_BadLetter C_FORMS) : Cal P w K mg base 5 "_law_block" (spBlock K) [] := by
  have c__law_next := c__law_next (P := P) (w := w) (base := base) T
  have c__law_big := c__law_big (P := P) (w := w) (base := base) T
  have c__law_commands := c__law_commands (P := P) (w := w) (base := base) T
  refine cal T.d__law_block sc__law_block (fun vs H Q E h => ?_) (fun f cdv A' outer s H vs Q E hr h => ?_)
  · obtain ⟨D, A, m, rfl, _⟩ := h; rfl
  obtain ⟨D, A, m, rfl, dr, hm0, hm1, q⟩ := h
  refine ⟨_, (pss_cons (ps_set (i := 3) sc__law_block.nd rfl (Or.inl rfl) (pe_c c__law_next hr (by decide) (by rfl) (pa_cons (pv 0) (pa_cons (pv 1) (pa_cons pe_int pa_nil)))))
      (pss_cut (ps_if (pt_cmpR op_eq (pe_c c__law_next hr (by decide) (by rfl) (pa_cons (pv 0) (pa_cons (pv 1) (pa_cons pe_int pa_nil)))) pe_int (nomark _)) (pss_one (ps_set (i := 3) sc__law_block.nd rfl (Or.inl rfl) (pe_c c__law_big hr (by decide) (by rfl) (pa_cons (pv 0) (pa_cons (pv 1) (pa_cons (pe_op op_pow pe_int pe_int) pa_nil)))))) pss_nil)
      (pss_cons (ps_set (i := 4) sc__law_block.nd rfl (Or.inl rfl) (pe_op op_add (pe_op op_add (pv 3) pe_int) (pe_c c__law_next hr (by decide) (by rfl) (pa_cons (pv 0) (pa_cons (pv 1) (pa_cons pe_int pa_nil))))))
      (pss_cut (ps_if (pt_cmpR op_gt (pv 4) (pe_op op_pow pe_int pe_int) (nomark _)) (pss_cons (ps_set (i := 4) sc__law_block.nd rfl (Or.inl rfl) (pe_op op_pow pe_int pe_int))
      (pss_one (ps_set (i := 3) sc__law_block.nd rfl (Or.inl rfl) (pe_op op_sub (pe_op op_pow pe_int pe_int) pe_int)))) pss_nil)
      (pss_cons (ps_set (i := 5) sc__law_block.nd rfl (Or.inl rfl) pe_int)
      (pss_cut (ps_if (pt_cmpR op_gt (pv 3) pe_int (nomark _)) (pss_cons (ps_set (i := 5) sc__law_block.nd rfl (Or.inl rfl) (pe_op op_add pe_int (pe_c c__law_next hr (by decide) (by rfl) (pa_cons (pv 0) (pa_cons (pv 1) (pa_cons (pe_callB (call_min2 rfl) (by rfl) T.z_min (by decide +kernel) (pa_cons (pv 3) (pa_cons pe_int pa_nil))) pa_nil))))))
      (pss_one (ps_if (pt_cmpR op_eq (pe_c c__law_next hr (by decide) (by rfl) (pa_cons (pv 0) (pa_cons (pv 1) (pa_cons pe_int pa_nil)))) pe_int (nomark _)) (pss_one (ps_set (i := 5) sc__law_block.nd rfl (Or.inl rfl) (pe_op op_add (pv 3) pe_int))) pss_nil))) pss_nil)
      (pss_one (ps_ret (pe_tup (pa_cons (pv 4) (pa_cons (pv 3) (pa_cons (pv 5) (pa_cons (pe_c c__law_commands hr (by decide) (by rfl) (pa_cons (pv 0) (pa_cons (pv 1) (pa_cons (pv 2) pa_nil)))) pa_nil))))))))))))), ?_⟩
  walk_at "rds"
  refine ⟨D, A, 4, rfl, dr, by decide, fun H1 p1 p10 p11 md1 dr1 => ?_⟩
  walk_at "rds"
  refine ⟨fun σ' H' => ∃ p : Int, σ' = [some (.ref D), some (.ref A), some (.int m), some (.int p), none, none] ∧ 0 ≤ p ∧ p < 1000000000000 ∧ Mod A H H' ∧ Dr H' D A, ?_, ?_⟩
  · walk_at "rds"
    refine ⟨D, A, 6, rfl, dr1, by decide, fun H2 s2 s20 s21 md2 dr2 => ?_⟩
    walk_at "rds"
    refine ite2 (fun _ => ?_) (fun _ => ?_)
    · walk_at "rds"
      refine ⟨D, A, 1000000000000, rfl, dr2, by decide, fun H3 s3 s30 s31 md3 dr3 => ?_⟩
      exact ⟨_, rfl, by omega, by omega, (md1.trans md2).trans md3, dr3⟩
    · exact ⟨_, rfl, by omega, by omega, md1.trans md2, dr2⟩
  rintro σ' H2 ⟨p, rfl, hp0, hp1, md2, dr2⟩
  walk_at "rds"
  refine ⟨D, A, 9, rfl, dr2, by decide, fun H3 e3 e30 e31 md3 dr3 => ?_⟩
  walk_at "rds"
  refine ⟨fun σ' H' => ∃ p e : Int, σ' = [some (.ref D), some (.ref A), some (.int m), some (.int p), some (.int e), none] ∧ 0 ≤ p ∧ p < e ∧ e ≤ 1000000000000 ∧ Mod A H H' ∧ Dr H' D A, ?_, ?_⟩
  · walk_at "rds"
    refine ite2 (fun z => ?_) (fun z => ?_)
    · walk_at "rds"
      exact ⟨999999999999, 1000000000000, rfl, by omega, by omega, by omega, md2.trans md3, dr3⟩
    · have z : ¬ (p + 1 + e3 > (10 : Int) ^ (12 : Int).toNat) := fun y => z (decide_eq_true y)
      have e12 : (10 : Int) ^ (12 : Int).toNat = 1000000000000 := rfl
      exact ⟨p, _, rfl, hp0, by omega, by omega, md2.trans md3, dr3⟩
  rintro σ' H4 ⟨p, e, rfl, hp0, hp1, he, md4, dr4⟩
  walk_at "rds"
  refine ⟨fun σ' H' => ∃ h : Int, σ' = [some (.ref D), some (.ref A), some (.int m), some (.int p), some (.int e), some (.int h)] ∧ dHeight p (.int h) = true ∧ Mod A H H' ∧ Dr H' D A, ?_, ?_⟩
  · walk_at "rds"
    refine ite2 (fun z => ?_) (fun z => ?_)
    · have z : p > 0 := of_decide_eq_true z
      walk_at "rds"
      refine ⟨_, _, rfl, ?_⟩
      have hmin : 1 ≤ (if (999 : Int) < p then 999 else p) ∧ (if (999 : Int) < p then 999 else p) ≤ p := by split <;> omega
      generalize (if (999 : Int) < p then 999 else p) = mn at hmin
      refine ⟨D, A, mn, rfl, dr4, by omega, fun H5 h1 h10 h11 md5 dr5 => ?_⟩
      walk_at "rds"
      refine ⟨D, A, 5, rfl, dr5, by decide, fun H6 h2 h20 h21 md6 dr6 => ?_⟩
      walk_at "rds"
      have hp : ¬ p = 0 := by omega
      refine ite2 (fun _ => ?_) (fun _ => ?_)
      · walk_at "rds"
        exact ⟨_, rfl, by unfold dHeight; rw [if_neg hp]; exact decide_eq_true (by omega), (md4.trans md5).trans md6, dr6⟩
      · exact ⟨_, rfl, by unfold dHeight; rw [if_neg hp]; exact decide_eq_true (by omega), (md4.trans md5).trans md6, dr6⟩
    · have z : ¬ p > 0 := fun y => z (decide_eq_true y)
      exact ⟨1, rfl, by rw [show p = 0 by omega]; rfl, md4, dr4⟩
  rintro σ' H5 ⟨h, rfl, hh, md5, dr5⟩
  walk_at "rds"
  refine ⟨D, A, m, rfl, dr5, hm0, hm1, fun H6 x cs md6 dr6 hx hc hlen => ?_⟩
  walk_at "rds"
  intro t ht
  refine q _ _ e p h cs ((md5.trans md6).new ht) (dr6.new ht) (.tup (.inl upd_same) (.cons (.int _) (.cons (.int _) (.cons (.int _) (.cons (hx.on (same_upd ht)) .nil))))) ?_ hlen
  show (dInt 1 1000000000000 (.int e) && dInt 0 (e - 1) (.int p) && dHeight p (.int h) && dCmdsFrom none cs) = true
  rw [hh, hc, show dInt 1 1000000000000 (.int e) = true from decide_eq_true (by omega), show dInt 0 (e - 1) (.int p) = true from decide_eq_true (by omega)]
  rfl
end
theorem inV_int (a : Int) (ys : List Int) : inV (.int a) (ys.map V.int) = decide (a ∈ ys) := by
  unfold inV
  rw [List.any_map]
  induction ys with
  | nil => rfl
  | cons y r ih =>
    rw [List.any_cons, ih]
    by_cases h : y = a
    · subst h
      simp [eqV]
    · have h' : ¬ a = y := fun e => h e.symm
      simp [eqV, h, h']
theorem flat_ints (ys : List Int) : (ys.map V.int).all flatV = true := by
  rw [List.all_map, List.all_eq_true]
  intro x _
  rfl

theorem strOk_pr {z : Str} (h : isPr z = true) : PyData.strOk z = true := by
  unfold PyData.strOk
  rw [← Array.all_toList, List.all_eq_true]
  intro c hc
  have := List.all_eq_true.mp h c hc
  unfold prC at this
  rw [Bool.and_eq_true, Bool.and_eq_true] at this
  have := of_decide_eq_true this.1.2
  exact decide_eq_true (by omega)
theorem lay_cmd {d : PyData} (h : dCmd d = true) : d.canLay0 = true ∧ d.depth = 1 := by
  obtain ⟨c, n, t, rfl, _, _, _, _, p, _⟩ := dCmd_inv h
  constructor
  · simp [PyData.canLay0, PyData.canLayAll0, strOk_pr p]
  · simp [PyData.depth, PyData.depthAll]
theorem shaped_cmd {d : PyData} (h : dCmd d = true) : SeqAt.shaped d = true := by
  unfold SeqAt.shaped
  rw [(lay_cmd h).1, (lay_cmd h).2]; rfl
theorem lay_cmds : ∀ {ds : List PyData} {b : Option Int}, dCmdsFrom b ds = true → PyData.canLayAll0 ds = true ∧ PyData.depthAll ds ≤ 1
  | [], _, _ => ⟨by simp [PyData.canLayAll0], by simp [PyData.depthAll]⟩
  | d :: r, b, h => by
    rw [dCmdsFrom_cons, Bool.and_eq_true, Bool.and_eq_true] at h
    obtain ⟨i1, i2⟩ := lay_cmds h.2
    obtain ⟨j1, j2⟩ := lay_cmd h.1.1
    constructor
    · rw [PyData.canLayAll0, i1, j1]; rfl
    · rw [PyData.depthAll, j2]; omega
theorem shaped_block {e p h : Int} {cs : List PyData} (hc : dCmdsFrom none cs = true) : SeqAt.shaped (.tuple [.int e, .int p, .int h, .tuple cs]) = true ∧ (PyData.tuple [.int e, .int p, .int h, .tuple cs]).canLay0 = true := by
  obtain ⟨i1, i2⟩ := lay_cmds hc
  have l : (PyData.tuple [.int e, .int p, .int h, .tuple cs]).canLay0 = true := by simp [PyData.canLay0, PyData.canLayAll0, i1]
  refine ⟨?_, l⟩
  unfold SeqAt.shaped
  rw [l]
  simp [PyData.depth, PyData.depthAll]
  omega
theorem asc_all : ∀ {ds : List PyData} {k : Int}, dCmdsFrom (some k) ds = true → ∀ d ∈ ds, k < dClient d
  | [], _, _, _, m => nomatch m
  | d :: r, k, h, e, m => by
    rw [dCmdsFrom_cons, Bool.and_eq_true, Bool.and_eq_true] at h
    have hk : k < dClient d := of_decide_eq_true h.1.2
    rcases List.mem_cons.mp m with rfl | m
    · exact hk
    · have := asc_all h.2 e m
      omega
theorem client_int {d : PyData} (h : dCmd d = true) {K : PySem.W.Frag} {H : Hp} {A : Option Addr} {x : V} (hx : Dt K H A x d) : ∃ a x2 x3, x = .ref a ∧ TupAt K H a [.int (dClient d), x2, x3] := by
  obtain ⟨c, n, t, rfl, _⟩ := dCmd_inv h
  obtain ⟨a, x1, x2, x3, rfl, ha, h1, h2, h3⟩ := hx.three
  cases h1
  exact ⟨a, x2, x3, rfl, ha⟩

/-! ### the group -/
def gF (n : Int) : List (Str × V) := putF "blocking" (.int (n + 1)) (putF "quorum" (.int (2 * n + 1)) (putF "machines" (.int (3 * n + 1)) (putF "faults" (.int n) [])))
theorem gF_f (n : Int) : (gF n).lookup ("faults" : Str) = some (V.int n) := by rfl
theorem gF_m (n : Int) : (gF n).lookup ("machines" : Str) = some (V.int (3 * n + 1)) := by rfl
theorem gF_q (n : Int) : (gF n).lookup ("quorum" : Str) = some (V.int (2 * n + 1)) := by rfl
theorem gF_b (n : Int) : (gF n).lookup ("blocking" : Str) = some (V.int (n + 1)) := by rfl
/-- a Group stands at p -/
def GrAt (C : Addr) (H : Hp) (p : Addr) (n : Int) : Prop := ∃ dx, H p = some (.ins C dx (gF n))
/-- v is no int from 0 to m -/
def Bad (K : PySem.W.Frag) (H : Hp) (m : Int) (v : V) : Prop := NoInt K H v ∨ ∃ i, v = .int i ∧ ¬ (0 ≤ i ∧ i ≤ m)
def spGInit (K : PySem.W.Frag) (C B : Addr) : Sp := fun vs H Q E => ∃ (p dx : Addr) (v : V), vs = [.ref p, v] ∧ H p = some (.ins C dx []) ∧
  ((∃ n, v = .int n ∧ 0 ≤ n ∧ n ≤ 10 ∧ ∀ (H' : Hp), (∀ b o, H b = some o → b ≠ p → H' b = some o) → GrAt C H' p n → Q .non H') ∨ (Bad K H 10 v ∧ E (.ref B) none H))
section
variable {P : Program} {w : World} {K : PySem.W.Frag} {mg : Str → Option Value} {base : Heap}
theorem k_Group {C_Group : Addr} {C_BadGroup : Addr} {C_BadLetter : Addr} {C_FORMS : Addr} (T : Txt K mg w C_Group C_BadGroup C_BadLetter C_FORMS) : MakX P w K mg base 2 "Group" C_Group (spGInit K C_Group C_BadGroup) := by
  have c_is_integer := c_is_integer (P := P) (w := w) (base := base) T
  refine makX T.g_Group T.mk_Group sc_Group____init__ (fun vs H Q E h => ?_) (fun f cdv A outer s H vs Q E hr h => ?_)
  · obtain ⟨p, dx, v, rfl, _⟩ := h; rfl
  obtain ⟨p, dx, v, rfl, hp, h⟩ := h
  refine ⟨_, (pss_cons (ps_if (pt_not (pt_val (pe_c c_is_integer hr (by decide) (by rfl) (pa_cons (pv 1) (pa_cons pe_int (pa_cons (pe_gc (by rfl) T.c_MOST_FAULTS) pa_nil)))))) (pss_one (ps_raise rfl (takes_of rfl rfl rfl rfl) (pmk_ok T.x_BadGroup (by rfl)))) pss_nil)
      (pss_cons (ps_fld (pv 0) (pv 1) rfl)
      (pss_cons (ps_fld (pv 0) (pe_op op_add (pe_op op_mul pe_int (pv 1)) pe_int) rfl)
      (pss_cons (ps_fld (pv 0) (pe_op op_add (pe_op op_mul pe_int (pv 1)) pe_int) rfl)
      (pss_one (ps_fld (pv 0) (pe_op op_add (pv 1) pe_int) rfl)))))), ?_⟩
  walk_at "rds"
  rcases h with ⟨n, rfl, h0, h1, q⟩ | ⟨hb, q⟩
  · refine ⟨.int n, 0, 10, rfl, .inl ⟨n, rfl, ?_⟩⟩
    refine ⟨_, rfl, ?_⟩
    refine ifF (by simp [h0, h1]) ?_
    walk_at "rds"
    refine ⟨p, _, dx, _, rfl, hp, T.cl_Group, T.na_Group_faults, by decide, ?_⟩
    walk_at "rds"
    refine ⟨p, _, dx, _, rfl, upd_same, T.cl_Group, T.na_Group_machines, (by show 1 < 1000; decide), ?_⟩
    walk_at "rds"
    refine ⟨p, _, dx, _, rfl, upd_same, T.cl_Group, T.na_Group_quorum, (by show 2 < 1000; decide), ?_⟩
    walk_at "rds"
    refine ⟨p, _, dx, _, rfl, upd_same, T.cl_Group, T.na_Group_blocking, (by show 3 < 1000; decide), ?_⟩
    exact q _ (fun b o e hb => by rw [upd_ne hb, upd_ne hb, upd_ne hb, upd_ne hb]; exact e) ⟨dx, upd_same⟩
  · rcases hb with hb | ⟨i, rfl, hb⟩
    · refine ⟨v, 0, 10, rfl, .inr ⟨hb, ?_⟩⟩
      refine ⟨_, rfl, ?_⟩
      refine ifT rfl ?_
      exact q
    · refine ⟨.int i, 0, 10, rfl, .inl ⟨i, rfl, ?_⟩⟩
      refine ⟨_, rfl, ?_⟩
      refine ifT (by rw [decide_eq_false hb]; rfl) ?_
      exact q
end

def spIsMember (K : PySem.W.Frag) (C : Addr) : Sp := fun vs H Q _ => ∃ (p : Addr) (n : Int) (v : V), vs = [.ref p, v] ∧ GrAt C H p n ∧ ((∃ i, v = .int i ∧ Q (.bl (decide (0 ≤ i ∧ i ≤ 3 * n + 1 - 1))) H) ∨ (NoInt K H v ∧ Q (.bl false) H))
section
variable {P : Program} {w : World} {K : PySem.W.Frag} {mg : Str → Option Value} {base : Heap}
theorem m_Group__is_member {C_Group : Addr} {C_BadGroup : Addr} {C_BadLetter : Addr} {C_FORMS : Addr} (T : Txt K mg w C_Group C_BadGroup C_BadLetter C_FORMS) : Met P w K mg base 2 C_Group "is_member" (spIsMember K C_Group) [] := by
  have c_is_integer := c_is_integer (P := P) (w := w) (base := base) T
  refine met T.cl_Group T.me_Group__is_member sc_Group__is_member (fun vs H Q E h => ?_) (fun f cdv A outer s H vs Q E hr h => ?_)
  · obtain ⟨p, n, v, rfl, _⟩ := h; rfl
  obtain ⟨p, n, v, rfl, ⟨dx, g⟩, h⟩ := h
  refine ⟨_, (pss_one (ps_ret (pe_c c_is_integer hr (by decide) (by rfl) (pa_cons (pv 1) (pa_cons pe_int (pa_cons (pe_op op_sub (pe_fld (pv 0) rfl) pe_int) pa_nil)))))), ?_⟩
  walk_at "rds"
  refine ⟨p, _, dx, _, _, rfl, g, T.cl_Group, T.na_Group_machines, gF_m n, ?_⟩
  walk_at "rds"
  exact ⟨v, 0, _, rfl, h⟩
end

--@SPLIT
/-! ### calling a def that a slot holds -/
section
variable {X : Cx}
theorem pe_cvW {i j : Nat} {x : Str} {e : Expr} {es : List Expr} {t : TA} {p pos : Pos} (hr : Room j X.A) (hN : X.N[i]? = some x) (hv : Vis X.env.scope x) (ha : PA X (e :: es) t)
    (hd : (x == ("__debug__" : Str)) = false := by decide) (hcd : (x == ("__classdict__" : Str)) = false := by decide)
    (hse : starEach (e :: es) X.env = (false, eval e X.env) :: starEach es X.env := by rfl) (hpl : (backTo pos (starEach es X.env)).any (·.1) = false := by rfl) :
    PE X (.Call (.Name x p) (e :: es) [] pos) (fun σ H Q => ∃ (f : Addr) (sp : Sp) (k : Nat), k ≤ j ∧ σ[i]? = some (some (.ref f)) ∧ C8.CalAt X.prog X.w X.K X.mg X.base k f sp ∧ t σ H fun vs H1 => sp vs H1 Q L2.E0) := by
  refine ⟨fun pins s σ H Q I h => ?_⟩
  obtain ⟨f, sp, k, hk, hs, c, ht⟩ := h
  obtain ⟨fd, ps, F, kp, b⟩ := c.ex
  refine wpAny_Call_Name_kw (thn ((pe_var (pos := p) hN hv hd hcd).run pins s σ H (fun v G => v = .ref f ∧ G = H) I ⟨.ref f, hs, rfl, rfl⟩) fun u s1 ⟨v, G, I1, r1, q1⟩ => ?_)
  obtain ⟨rfl, rfl⟩ := q1
  cases r1
  refine PySem.W.callWith_K (h₀ := X.base) I.ok.mod.kin kp (thn (ha.run pos pins s1 σ _ _ I1 ht) fun us s2 ⟨vs, G2, I2, r, q⟩ => ⟨I2.kIn, ?_⟩) hse hpl
  exact run_fn F (hr.mono hk) b .nil pass0 I2 r (by rw [List.append_nil]; exact q)
end
/-! ### letters, as data -/
def dHtF : PyData → Int
  | .tuple [_, _, .int h, _] => h
  | _ => 0
def fVouch : List PyData → Bool
  | [c] => dCmd c
  | _ => false
def fBlock : List PyData → Bool
  | [b] => dBlock b
  | _ => false
def fClaim : List PyData → Bool
  | [n] => dInt 0 1000000000000 n
  | _ => false
def fGive : List PyData → Bool
  | [h, b] => dBlock b && dInt (dHtF b) (dHtF b) h
  | _ => false
def fText (m : Int) : List PyData → Bool
  | [n, t] => dInt 1 1000000000000 n && dShort m t
  | _ => false
/-- the eight kinds -/
inductive Tag | vouch | propose | vote | ready | claim | give | command | answer
def Tag.s : Tag → Str
  | .vouch => "vouch" | .propose => "propose" | .vote => "vote" | .ready => "ready" | .claim => "claim" | .give => "give" | .command => "command" | .answer => "answer"
def Tag.f : Tag → List PyData → Bool
  | .vouch => fVouch | .propose => fBlock | .vote => fBlock | .ready => fBlock | .claim => fClaim | .give => fGive | .command => fText 240 | .answer => fText 200
/-- what a letter is, by its kind -/
inductive LetIs : PyData → Bool → Prop
  | tag (g : Tag) (r : List PyData) : LetIs (.tuple (.str g.s :: r)) (g.f r)
  | none (r : List PyData) : LetIs (.tuple (.str "" :: r)) false
  | empty : LetIs (.tuple []) false
  | int (i : Int) (r : List PyData) : LetIs (.tuple (.int i :: r)) false
  | lst (r : List PyData) : LetIs (.list r) false
def spParts (K : PySem.W.Frag) (A : Option Addr) (f : List PyData → Bool) : Sp := fun vs H Q _ => ∃ (v : V) (ps : List PyData), vs = [v] ∧ Dt K H A v (.tuple ps) ∧ ∀ H', Same H H' → Q (.bl (f ps)) H'
theorem decVi (i j : Int) : decide (V.int i = V.int j) = decide (i = j) := decide_eq_decide.mpr ⟨V.int.inj, fun z => by rw [z]⟩
/-- the length of such a tuple is not k -/
theorem len_ne {i j : Int} (h : i ≠ j) : decide (V.int i = V.int j) = false := decide_eq_false fun z => h (V.int.inj z)
theorem DtAll.one1 {K : PySem.W.Frag} {H : Hp} {A : Option Addr} {xs : List V} {ds : List PyData} (h : DtAll K H A xs ds) (e : (ds.length : Int) = 1) : ∃ c x, ds = [c] ∧ xs = [x] ∧ Dt K H A x c := by
  cases h with
  | nil => simp at e
  | cons h1 r => cases r with
    | nil => exact ⟨_, _, rfl, rfl, h1⟩
    | cons _ _ => simp only [List.length_cons] at e; omega
theorem DtAll.two2 {K : PySem.W.Frag} {H : Hp} {A : Option Addr} {xs : List V} {ds : List PyData} (h : DtAll K H A xs ds) (e : (ds.length : Int) = 2) : ∃ c d x y, ds = [c, d] ∧ xs = [x, y] ∧ Dt K H A x c ∧ Dt K H A y d := by
  cases h with
  | nil => simp at e
  | cons h1 r => cases r with
    | nil => simp at e
    | cons h2 r => cases r with
      | nil => exact ⟨_, _, _, _, rfl, rfl, h1, h2⟩
      | cons _ _ => simp only [List.length_cons] at e; omega
section
variable {P : Program} {w : World} {K : PySem.W.Frag} {mg : Str → Option Value} {base : Heap}
theorem c_holds_vouch {C_Group : Addr} {C_BadGroup : Addr} {C_BadLetter : Addr} {C_FORMS : Addr} (T : Txt K mg w C_Group C_BadGroup C_BadLetter C_FORMS) (A : Option Addr) : Cal P w K mg base 4 "holds_vouch" (spParts K A fVouch) [] := by
  have c_is_command := c_is_command (P := P) (w := w) (base := base) T A
  refine cal T.d_holds_vouch sc_holds_vouch (fun vs H Q E h => ?_) (fun f cdv A' outer s H vs Q E hr h => ?_)
  · obtain ⟨v, ps, rfl, _⟩ := h; rfl
  obtain ⟨v, ps, rfl, hv, q⟩ := h
  refine ⟨_, (pss_one (ps_ret (pe_and (pe_cmpR op_eq (pe_callB (klen (K := K)) (by rfl) T.z_len (by decide +kernel) (pa_cons (pv 0) pa_nil)) pe_int (nomark _)) (pe_one (pe_c c_is_command hr (by decide) (by rfl) (pa_cons (pe_ix (kixt (K := K)) (pv 0) pe_int (fun _ _ => rfl)) pa_nil)))))), ?_⟩
  cases hv with
  | tup ha hx =>
    rename_i a xs
    have hl := hx.length
    walk_at "rds"
    refine ⟨a, _, rfl, .inr ha.sq, ?_⟩
    walk_at "rds"
    rw [hl]
    have no : (ps.length : Int) ≠ 1 → fVouch ps = false := fun e => by
      match ps with
      | [] => rfl
      | [_] => exact absurd rfl e
      | _ :: _ :: _ => rfl
    by_cases e2 : (ps.length : Int) = 1
    case neg =>
      have e3 := len_ne e2
      have q0 := q H (Same.refl _)
      rw [no e2] at q0
      rw [e3]
      exact q0
    rw [show decide (V.int (ps.length : Int) = V.int 1) = true from decide_eq_true (congrArg V.int e2)]
    obtain ⟨c, x, rfl, rfl, hc⟩ := hx.one1 e2
    refine ifT rfl ?_
    walk_at "rds"
    refine ⟨a, _, 0, _, rfl, rfl, ha.sq, atI_nat (j := 0) rfl, ?_⟩
    exact ⟨_, c, rfl, hc, q⟩
theorem c_holds_block {C_Group : Addr} {C_BadGroup : Addr} {C_BadLetter : Addr} {C_FORMS : Addr} (T : Txt K mg w C_Group C_BadGroup C_BadLetter C_FORMS) (A : Option Addr) : Cal P w K mg base 6 "holds_block" (spParts K A fBlock) [] := by
  have c_is_block := c_is_block (P := P) (w := w) (base := base) T A
  refine cal T.d_holds_block sc_holds_block (fun vs H Q E h => ?_) (fun f cdv A' outer s H vs Q E hr h => ?_)
  · obtain ⟨v, ps, rfl, _⟩ := h; rfl
  obtain ⟨v, ps, rfl, hv, q⟩ := h
  refine ⟨_, (pss_one (ps_ret (pe_and (pe_cmpR op_eq (pe_callB (klen (K := K)) (by rfl) T.z_len (by decide +kernel) (pa_cons (pv 0) pa_nil)) pe_int (nomark _)) (pe_one (pe_c c_is_block hr (by decide) (by rfl) (pa_cons (pe_ix (kixt (K := K)) (pv 0) pe_int (fun _ _ => rfl)) pa_nil)))))), ?_⟩
  cases hv with
  | tup ha hx =>
    rename_i a xs
    have hl := hx.length
    walk_at "rds"
    refine ⟨a, _, rfl, .inr ha.sq, ?_⟩
    walk_at "rds"
    rw [hl]
    have no : (ps.length : Int) ≠ 1 → fBlock ps = false := fun e => by
      match ps with
      | [] => rfl
      | [_] => exact absurd rfl e
      | _ :: _ :: _ => rfl
    by_cases e2 : (ps.length : Int) = 1
    case neg =>
      have e3 := len_ne e2
      have q0 := q H (Same.refl _)
      rw [no e2] at q0
      rw [e3]
      exact q0
    rw [show decide (V.int (ps.length : Int) = V.int 1) = true from decide_eq_true (congrArg V.int e2)]
    obtain ⟨c, x, rfl, rfl, hc⟩ := hx.one1 e2
    refine ifT rfl ?_
    walk_at "rds"
    refine ⟨a, _, 0, _, rfl, rfl, ha.sq, atI_nat (j := 0) rfl, ?_⟩
    exact ⟨_, c, rfl, hc, q⟩
theorem c_holds_claim {C_Group : Addr} {C_BadGroup : Addr} {C_BadLetter : Addr} {C_FORMS : Addr} (T : Txt K mg w C_Group C_BadGroup C_BadLetter C_FORMS) (A : Option Addr) : Cal P w K mg base 2 "holds_claim" (spParts K A fClaim) [] := by
  have c_is_integer := c_is_integerD (P := P) (w := w) (base := base) T A
  refine cal T.d_holds_claim sc_holds_claim (fun vs H Q E h => ?_) (fun f cdv A' outer s H vs Q E hr h => ?_)
  · obtain ⟨v, ps, rfl, _⟩ := h; rfl
  obtain ⟨v, ps, rfl, hv, q⟩ := h
  refine ⟨_, (pss_one (ps_ret (pe_and (pe_cmpR op_eq (pe_callB (klen (K := K)) (by rfl) T.z_len (by decide +kernel) (pa_cons (pv 0) pa_nil)) pe_int (nomark _)) (pe_one (pe_c c_is_integer hr (by decide) (by rfl) (pa_cons (pe_ix (kixt (K := K)) (pv 0) pe_int (fun _ _ => rfl)) (pa_cons pe_int (pa_cons (pe_gc (by rfl) T.c_MOST_NUMBER) pa_nil)))))))), ?_⟩
  cases hv with
  | tup ha hx =>
    rename_i a xs
    have hl := hx.length
    walk_at "rds"
    refine ⟨a, _, rfl, .inr ha.sq, ?_⟩
    walk_at "rds"
    rw [hl]
    have no : (ps.length : Int) ≠ 1 → fClaim ps = false := fun e => by
      match ps with
      | [] => rfl
      | [_] => exact absurd rfl e
      | _ :: _ :: _ => rfl
    by_cases e2 : (ps.length : Int) = 1
    case neg =>
      have e3 := len_ne e2
      have q0 := q H (Same.refl _)
      rw [no e2] at q0
      rw [e3]
      exact q0
    rw [show decide (V.int (ps.length : Int) = V.int 1) = true from decide_eq_true (congrArg V.int e2)]
    obtain ⟨c, x, rfl, rfl, hc⟩ := hx.one1 e2
    refine ifT rfl ?_
    walk_at "rds"
    refine ⟨a, _, 0, _, rfl, rfl, ha.sq, atI_nat (j := 0) rfl, ?_⟩
    walk_at "rds"
    exact ⟨_, c, _, _, rfl, hc, q H (Same.refl _)⟩
theorem c_holds_give {C_Group : Addr} {C_BadGroup : Addr} {C_BadLetter : Addr} {C_FORMS : Addr} (T : Txt K mg w C_Group C_BadGroup C_BadLetter C_FORMS) (A : Option Addr) : Cal P w K mg base 6 "holds_give" (spParts K A fGive) [] := by
  have c_is_block := c_is_block (P := P) (w := w) (base := base) T A
  have c_is_integer := c_is_integerD (P := P) (w := w) (base := base) T A
  refine cal T.d_holds_give sc_holds_give (fun vs H Q E h => ?_) (fun f cdv A' outer s H vs Q E hr h => ?_)
  · obtain ⟨v, ps, rfl, _⟩ := h; rfl
  obtain ⟨v, ps, rfl, hv, q⟩ := h
  refine ⟨_, (pss_cons (ps_if (PW.pt (pw_or (pt_cmpR op_ne (pe_callB (klen (K := K)) (by rfl) T.z_len (by decide +kernel) (pa_cons (pv 0) pa_nil)) pe_int (nomark _)) (pw_or1 (pt_not (pt_val (pe_c c_is_block hr (by decide) (by rfl) (pa_cons (pe_ix (kixt (K := K)) (pv 0) pe_int (fun _ _ => rfl)) pa_nil))))))) (pss_one (ps_ret pe_bl)) pss_nil)
      (pss_cons (ps_set (i := 1) sc_holds_give.nd rfl (Or.inl rfl) (pe_ix (kixt (K := K)) (pe_ix (kixt (K := K)) (pv 0) pe_int (fun _ _ => rfl)) pe_int (fun _ _ => rfl)))
      (pss_one (ps_ret (pe_c c_is_integer hr (by decide) (by rfl) (pa_cons (pe_ix (kixt (K := K)) (pv 0) pe_int (fun _ _ => rfl)) (pa_cons (pv 1) (pa_cons (pv 1) pa_nil)))))))), ?_⟩
  cases hv with
  | tup ha hx =>
    rename_i a xs
    have hl := hx.length
    walk_at "rds"
    refine ⟨a, _, rfl, .inr ha.sq, ?_⟩
    walk_at "rds"
    rw [hl]
    have no : (ps.length : Int) ≠ 2 → fGive ps = false := fun e => by
      match ps with
      | [] => rfl
      | [_] => rfl
      | [_, _] => exact absurd rfl e
      | _ :: _ :: _ :: _ => rfl
    by_cases e2 : (ps.length : Int) = 2
    case neg =>
      have e3 := len_ne e2
      have q0 := q H (Same.refl _)
      rw [no e2] at q0
      rw [e3]
      refine ifT rfl ?_
      refine ifT rfl ?_
      exact q0
    rw [show decide (V.int (ps.length : Int) = V.int 2) = true from decide_eq_true (congrArg V.int e2)]
    obtain ⟨h, b, x, y, rfl, rfl, hh, hb⟩ := hx.two2 e2
    refine ifF rfl ?_
    walk_at "rds"
    refine ⟨a, _, 1, _, rfl, rfl, ha.sq, atI_nat (j := 1) rfl, ?_⟩
    refine ⟨_, b, rfl, hb, fun H2 s2 => ?_⟩
    have ef : fGive [h, b] = (dBlock b && dInt (dHtF b) (dHtF b) h) := rfl
    rw [ef] at q
    refine ⟨_, rfl, ?_⟩
    cases e1 : dBlock b with
    | false =>
      rw [e1] at q
      refine ifT rfl ?_
      exact q _ s2
    | true =>
      rw [e1] at q
      refine ifF rfl ?_
      obtain ⟨be, bp, bh, cs, rfl⟩ := dBlock_inv e1
      obtain ⟨b0, y1, y2, y3, y4, rfl, hb0, _, _, h3, _⟩ := hb.quad
      cases h3
      walk_at "rds"
      refine ⟨a, _, 1, _, rfl, rfl, (ha.same s2).sq, atI_nat (j := 1) rfl, ?_⟩
      walk_at "rds"
      refine ⟨b0, _, 2, _, rfl, rfl, (hb0.same s2).sq, atI_nat (j := 2) rfl, ?_⟩
      walk_at "rds"
      refine ⟨a, _, 0, _, rfl, rfl, (ha.same s2).sq, atI_nat (j := 0) rfl, ?_⟩
      walk_at "rds"
      exact ⟨_, h, _, _, rfl, hh.on s2, q _ s2⟩
theorem c_holds_request {C_Group : Addr} {C_BadGroup : Addr} {C_BadLetter : Addr} {C_FORMS : Addr} (T : Txt K mg w C_Group C_BadGroup C_BadLetter C_FORMS) (A : Option Addr) : Cal P w K mg base 3 "holds_request" (spParts K A (fText 240)) [] := by
  have c_is_number := c_is_number (P := P) (w := w) (base := base) T A
  have c_is_short := c_is_short (P := P) (w := w) (base := base) T A
  refine cal T.d_holds_request sc_holds_request (fun vs H Q E h => ?_) (fun f cdv A' outer s H vs Q E hr h => ?_)
  · obtain ⟨v, ps, rfl, _⟩ := h; rfl
  obtain ⟨v, ps, rfl, hv, q⟩ := h
  refine ⟨_, (pss_one (ps_ret (pe_and (pe_cmpR op_eq (pe_callB (klen (K := K)) (by rfl) T.z_len (by decide +kernel) (pa_cons (pv 0) pa_nil)) pe_int (nomark _)) (pe_and (pe_c c_is_number hr (by decide) (by rfl) (pa_cons (pe_ix (kixt (K := K)) (pv 0) pe_int (fun _ _ => rfl)) pa_nil)) (pe_one (pe_c c_is_short hr (by decide) (by rfl) (pa_cons (pe_ix (kixt (K := K)) (pv 0) pe_int (fun _ _ => rfl)) (pa_cons (pe_gc (by rfl) T.c_MOST_TEXT) pa_nil)))))))), ?_⟩
  cases hv with
  | tup ha hx =>
    rename_i a xs
    have hl := hx.length
    walk_at "rds"
    refine ⟨a, _, rfl, .inr ha.sq, ?_⟩
    walk_at "rds"
    rw [hl]
    have no : (ps.length : Int) ≠ 2 → fText 240 ps = false := fun e => by
      match ps with
      | [] => rfl
      | [_] => rfl
      | [_, _] => exact absurd rfl e
      | _ :: _ :: _ :: _ => rfl
    by_cases e2 : (ps.length : Int) = 2
    case neg =>
      have e3 := len_ne e2
      have q0 := q H (Same.refl _)
      rw [no e2] at q0
      rw [e3]
      exact q0
    rw [show decide (V.int (ps.length : Int) = V.int 2) = true from decide_eq_true (congrArg V.int e2)]
    obtain ⟨n, t, x, y, rfl, rfl, hn, ht⟩ := hx.two2 e2
    refine ifT rfl ?_
    walk_at "rds"
    refine ⟨a, _, 0, _, rfl, rfl, ha.sq, atI_nat (j := 0) rfl, ?_⟩
    refine ⟨_, n, rfl, hn, fun H2 s2 => ?_⟩
    have ef : fText 240 [n, t] = (dInt 1 1000000000000 n && dShort 240 t) := rfl
    rw [ef] at q
    refine ⟨_, rfl, ?_⟩
    cases e1 : dInt 1 1000000000000 n with
    | false =>
      rw [e1] at q
      refine ifF rfl ?_
      exact q _ s2
    | true =>
      rw [e1] at q
      refine ifT rfl ?_
      walk_at "rds"
      refine ⟨a, _, 1, _, rfl, rfl, (ha.same s2).sq, atI_nat (j := 1) rfl, ?_⟩
      walk_at "rds"
      exact ⟨_, t, _, rfl, ht.on s2, fun H3 s3 => q _ (s2.trans s3)⟩
theorem c_holds_answer {C_Group : Addr} {C_BadGroup : Addr} {C_BadLetter : Addr} {C_FORMS : Addr} (T : Txt K mg w C_Group C_BadGroup C_BadLetter C_FORMS) (A : Option Addr) : Cal P w K mg base 3 "holds_answer" (spParts K A (fText 200)) [] := by
  have c_is_number := c_is_number (P := P) (w := w) (base := base) T A
  have c_is_short := c_is_short (P := P) (w := w) (base := base) T A
  refine cal T.d_holds_answer sc_holds_answer (fun vs H Q E h => ?_) (fun f cdv A' outer s H vs Q E hr h => ?_)
  · obtain ⟨v, ps, rfl, _⟩ := h; rfl
  obtain ⟨v, ps, rfl, hv, q⟩ := h
  refine ⟨_, (pss_one (ps_ret (pe_and (pe_cmpR op_eq (pe_callB (klen (K := K)) (by rfl) T.z_len (by decide +kernel) (pa_cons (pv 0) pa_nil)) pe_int (nomark _)) (pe_and (pe_c c_is_number hr (by decide) (by rfl) (pa_cons (pe_ix (kixt (K := K)) (pv 0) pe_int (fun _ _ => rfl)) pa_nil)) (pe_one (pe_c c_is_short hr (by decide) (by rfl) (pa_cons (pe_ix (kixt (K := K)) (pv 0) pe_int (fun _ _ => rfl)) (pa_cons (pe_gc (by rfl) T.c_MOST_ANSWER) pa_nil)))))))), ?_⟩
  cases hv with
  | tup ha hx =>
    rename_i a xs
    have hl := hx.length
    walk_at "rds"
    refine ⟨a, _, rfl, .inr ha.sq, ?_⟩
    walk_at "rds"
    rw [hl]
    have no : (ps.length : Int) ≠ 2 → fText 200 ps = false := fun e => by
      match ps with
      | [] => rfl
      | [_] => rfl
      | [_, _] => exact absurd rfl e
      | _ :: _ :: _ :: _ => rfl
    by_cases e2 : (ps.length : Int) = 2
    case neg =>
      have e3 := len_ne e2
      have q0 := q H (Same.refl _)
      rw [no e2] at q0
      rw [e3]
      exact q0
    rw [show decide (V.int (ps.length : Int) = V.int 2) = true from decide_eq_true (congrArg V.int e2)]
    obtain ⟨n, t, x, y, rfl, rfl, hn, ht⟩ := hx.two2 e2
    refine ifT rfl ?_
    walk_at "rds"
    refine ⟨a, _, 0, _, rfl, rfl, ha.sq, atI_nat (j := 0) rfl, ?_⟩
    refine ⟨_, n, rfl, hn, fun H2 s2 => ?_⟩
    have ef : fText 200 [n, t] = (dInt 1 1000000000000 n && dShort 200 t) := rfl
    rw [ef] at q
    refine ⟨_, rfl, ?_⟩
    cases e1 : dInt 1 1000000000000 n with
    | false =>
      rw [e1] at q
      refine ifF rfl ?_
      exact q _ s2
    | true =>
      rw [e1] at q
      refine ifT rfl ?_
      walk_at "rds"
      refine ⟨a, _, 1, _, rfl, rfl, (ha.same s2).sq, atI_nat (j := 1) rfl, ?_⟩
      walk_at "rds"
      exact ⟨_, t, _, rfl, ht.on s2, fun H3 s3 => q _ (s2.trans s3)⟩
theorem cal_at {k : Nat} {x : Str} {sp : Sp} {f : Addr} (c : Cal P w K mg base k x sp []) (h : mg x = some (.ref f)) : C8.CalAt P w K mg base k f sp := by
  obtain ⟨f', fd, ps, ds, F, hm, kp, b, d⟩ := c.ex
  rw [h] at hm
  cases hm
  cases d
  exact ⟨fd, ps, F, kp, b⟩
/-- the def of a kind -/
theorem tag_fn {C_Group : Addr} {C_BadGroup : Addr} {C_BadLetter : Addr} {C_FORMS : Addr} (T : Txt K mg w C_Group C_BadGroup C_BadLetter C_FORMS) (A : Option Addr) (g : Tag) : ∃ (f : Addr) (k : Nat), k ≤ 6 ∧ C8.CalAt P w K mg base k f (spParts K A g.f) ∧ KDct K w C_FORMS g.s (.ref f) := by
  cases g
  · obtain ⟨f, m, d⟩ := T.kf_FORMS_vouch
    exact ⟨f, 4, by decide, cal_at (c_holds_vouch T A) m, d⟩
  · obtain ⟨f, m, d⟩ := T.kf_FORMS_propose
    exact ⟨f, 6, by decide, cal_at (c_holds_block T A) m, d⟩
  · obtain ⟨f, m, d⟩ := T.kf_FORMS_vote
    exact ⟨f, 6, by decide, cal_at (c_holds_block T A) m, d⟩
  · obtain ⟨f, m, d⟩ := T.kf_FORMS_ready
    exact ⟨f, 6, by decide, cal_at (c_holds_block T A) m, d⟩
  · obtain ⟨f, m, d⟩ := T.kf_FORMS_claim
    exact ⟨f, 2, by decide, cal_at (c_holds_claim T A) m, d⟩
  · obtain ⟨f, m, d⟩ := T.kf_FORMS_give
    exact ⟨f, 6, by decide, cal_at (c_holds_give T A) m, d⟩
  · obtain ⟨f, m, d⟩ := T.kf_FORMS_command
    exact ⟨f, 3, by decide, cal_at (c_holds_request T A) m, d⟩
  · obtain ⟨f, m, d⟩ := T.kf_FORMS_answer
    exact ⟨f, 3, by decide, cal_at (c_holds_answer T A) m, d⟩
def spLet (K : PySem.W.Frag) (A : Option Addr) : Sp := fun vs H Q _ => ∃ (v : V) (d : PyData) (b : Bool), vs = [v] ∧ Dt K H A v d ∧ LetIs d b ∧ ∀ H', Same H H' → Q (.bl b) H'
theorem c_is_letter {C_Group : Addr} {C_BadGroup : Addr} {C_BadLetter : Addr} {C_FORMS : Addr} (T : Txt K mg w C_Group C_BadGroup C_BadLetter C_FORMS) (A : Option Addr) : Cal P w K mg base 7 "is_letter" (spLet K A) [] := by
  have tf := tag_fn (P := P) (w := w) (base := base) T A
  refine cal T.d_is_letter sc_is_letter (fun vs H Q E h => ?_) (fun f cdv A' outer s H vs Q E hr h => ?_)
  · obtain ⟨v, d, b, rfl, _⟩ := h; rfl
  obtain ⟨v, d, b, rfl, hv, li, q⟩ := h
  refine ⟨_, (pss_cons (ps_if (PW.pt (pw_or (pt_not (pt_val (pe_callB (kisi (K := K)) (by rfl) T.z_isinstance (by decide +kernel) (pa_cons (pv 0) (pa_cons (pe_bltn (v := .ty "tuple") (by rfl) T.z_tuple (by decide +kernel) rfl) pa_nil))))) (pw_or1 (pt_cmpR op_eq (pe_callB (klen (K := K)) (by rfl) T.z_len (by decide +kernel) (pa_cons (pv 0) pa_nil)) pe_int (nomark _))))) (pss_one (ps_ret pe_bl)) pss_nil)
      (pss_cons (ps_if (PW.pt (pw_or (pt_not (pt_val (pe_callB (kisi (K := K)) (by rfl) T.z_isinstance (by decide +kernel) (pa_cons (pe_ix (kixt (K := K)) (pv 0) pe_int (fun _ _ => rfl)) (pa_cons (pe_bltn (v := .ty "str") (by rfl) T.z_str (by decide +kernel) rfl) pa_nil))))) (pw_or1 (pt_cmpR (kdnin T.kd_FORMS) (pe_ix (kixt (K := K)) (pv 0) pe_int (fun _ _ => rfl)) (pe_gc (v := .ref C_FORMS) (by rfl) ⟨_, T.g_FORMS, rfl⟩) (by rfl))))) (pss_one (ps_ret pe_bl)) pss_nil)
      (pss_cons (ps_set (i := 1) sc_is_letter.nd rfl (Or.inl rfl) (pe_ix ix_kdict (pe_gc (v := .ref C_FORMS) (by rfl) ⟨_, T.g_FORMS, rfl⟩) (pe_ix (kixt (K := K)) (pv 0) pe_int (fun _ _ => rfl)) (fun _ _ => rfl)))
      (pss_one (ps_ret (pe_cvW (i := 1) hr (by rfl) (by first | exact Or.inl rfl | exact Or.inr (Or.inl rfl) | exact Or.inr (Or.inr rfl)) (pa_cons (pe_slice sl_tupA (pv 0) (po_some pe_int) po_none) pa_nil))))))), ?_⟩
  have q0 := q H (Same.refl _)
  cases li with
  | lst r =>
    walk_at "rds"
    refine ⟨_, .ty _, _, _, false, rfl, .ty _, hv.ty, kit_ty (show kitB "list" "tuple" = some false by decide +kernel), ?_⟩
    walk_at "rds"
    exact q0
  | empty =>
    cases hv with
    | tup ha hx =>
      cases hx
      walk_at "rds"
      refine ⟨_, .ty _, _, _, true, rfl, .ty _, ha.ty, kit_ty (by decide +kernel), ?_⟩
      walk_at "rds"
      refine ⟨_, _, rfl, .inr ha.sq, ?_⟩
      walk_at "rds"
      exact q0
  | int i r =>
    cases hv with
    | tup ha hx =>
      rename_i a xs
      have hl := hx.length
      cases hx with
      | cons h1 hx =>
        cases h1
        rename_i ys
        walk_at "rds"
        refine ⟨_, .ty _, _, _, true, rfl, .ty _, ha.ty, kit_ty (by decide +kernel), ?_⟩
        walk_at "rds"
        refine ⟨_, _, rfl, .inr ha.sq, ?_⟩
        walk_at "rds"
        refine ⟨a, _, 0, _, rfl, rfl, ha.sq, atI_nat (j := 0) rfl, ?_⟩
        walk_at "rds"
        refine ⟨_, .ty _, _, _, false, rfl, .ty _, .base (.int _), kit_ty (by decide +kernel), ?_⟩
        walk_at "rds"
        exact q0
  | none r =>
    cases hv with
    | tup ha hx =>
      rename_i a xs
      cases hx with
      | cons h1 hx =>
        cases h1
        rename_i ys _
        walk_at "rds"
        refine ⟨_, .ty _, _, _, true, rfl, .ty _, ha.ty, kit_ty (by decide +kernel), ?_⟩
        walk_at "rds"
        refine ⟨_, _, rfl, .inr ha.sq, ?_⟩
        walk_at "rds"
        refine ⟨a, _, 0, _, rfl, rfl, ha.sq, atI_nat (j := 0) rfl, ?_⟩
        walk_at "rds"
        refine ⟨_, .ty _, _, _, true, rfl, .ty _, .base (.str _), kit_ty (by decide +kernel), ?_⟩
        walk_at "rds"
        refine ⟨a, _, 0, _, rfl, rfl, ha.sq, atI_nat (j := 0) rfl, ?_⟩
        walk_at "rds"
        refine ⟨_, none, rfl, rfl, T.km_FORMS_0, ?_⟩
        walk_at "rds"
        exact q0
  | tag g r =>
    obtain ⟨fg, kg, hkg, cg, kd⟩ := tf g
    cases hv with
    | tup ha hx =>
      rename_i a xs
      cases hx with
      | cons h1 hx =>
        cases h1
        rename_i ys lz
        walk_at "rds"
        refine ⟨_, .ty _, _, _, true, rfl, .ty _, ha.ty, kit_ty (by decide +kernel), ?_⟩
        walk_at "rds"
        refine ⟨_, _, rfl, .inr ha.sq, ?_⟩
        walk_at "rds"
        refine ⟨a, _, 0, _, rfl, rfl, ha.sq, atI_nat (j := 0) rfl, ?_⟩
        walk_at "rds"
        refine ⟨_, .ty _, _, _, true, rfl, .ty _, .base (.str _), kit_ty (by decide +kernel), ?_⟩
        walk_at "rds"
        refine ⟨a, _, 0, _, rfl, rfl, ha.sq, atI_nat (j := 0) rfl, ?_⟩
        walk_at "rds"
        obtain ⟨_, _, _, l1, kl1, v1, r1⟩ := id kd
        refine ⟨_, some _, rfl, rfl, v1, ?_⟩
        walk_at "rds"
        refine ⟨a, _, 0, _, rfl, rfl, ha.sq, atI_nat (j := 0) rfl, ?_⟩
        refine ⟨_, _, _, rfl, rfl, kd, ?_⟩
        refine ⟨fg, _, kg, by omega, rfl, cg, ?_⟩
        walk_at "rds"
        delta tNoPart
        refine sl_dt (A := A) ha (.cons (.str _ lz) hx) (fun H' v s' dv => ?_)
        rw [show cutD (PyData.str g.s :: r) (some 1) none = r from (cutD_drop _ 1).trans rfl] at dv
        exact ⟨v, r, rfl, dv, fun H2 s2 => q _ (s'.trans s2)⟩
end

/-! ### route, check_letter -/
instance : DecidableEq Tag := fun a b => by
  cases a <;> cases b <;> first | exact isTrue rfl | exact isFalse (fun h => nomatch h)
theorem Tag.s_inj : ∀ g h : Tag, g.s = h.s → g = h := by
  intro g h
  cases g <;> cases h <;> first | exact fun _ => rfl | exact fun z => absurd z (by decide +kernel)
theorem tag_eq (g h : Tag) : decide (V.str g.s = V.str h.s) = decide (g = h) := decide_eq_decide.mpr ⟨fun z => Tag.s_inj g h (V.str.inj z), fun z => by rw [z]⟩
def wayT : Tag → Str
  | .command => "to_machine"
  | .answer => "to_client"
  | _ => "machine"
theorem LetIs.yes {d : PyData} (h : LetIs d true) : ∃ (g : Tag) (r : List PyData), d = .tuple (.str g.s :: r) ∧ g.f r = true := by
  have key : ∀ {d : PyData} {b : Bool}, LetIs d b → b = true → ∃ (g : Tag) (r : List PyData), d = .tuple (.str g.s :: r) ∧ g.f r = true := fun h e => by
    cases h with
    | tag g r => exact ⟨g, r, rfl, e⟩
    | none r => cases e
    | empty => cases e
    | int i r => cases e
    | lst r => cases e
  exact key h rfl
def fitsT (g : Tag) (n : Int) (s r : PyData) : Bool := match g with
  | .command => dInt (-100) (-1) s && dInt 0 (3 * n + 1 - 1) r
  | .answer => dInt 0 (3 * n + 1 - 1) s && dInt (-100) (-1) r
  | _ => dInt 0 (3 * n + 1 - 1) s && dInt 0 (3 * n + 1 - 1) r
def spRoute (K : PySem.W.Frag) (A : Option Addr) (B : Addr) : Sp := fun vs H Q E => ∃ (v : V) (d : PyData) (b : Bool), vs = [v] ∧ Dt K H A v d ∧ LetIs d b ∧ (∀ g r, d = .tuple (.str g.s :: r) → b = true → ∀ H', Same H H' → Q (.str (wayT g)) H') ∧ (b = false → ∀ H', Same H H' → E (.ref B) none H')
def spCheck (K : PySem.W.Frag) (A : Option Addr) (C B : Addr) : Sp := fun vs H Q E => ∃ (p : Addr) (n : Int) (s r v : V) (ds dr d : PyData) (b ok : Bool), vs = [.ref p, s, r, v] ∧ GrAt C H p n ∧ Dt K H A s ds ∧ Dt K H A r dr ∧ Dt K H A v d ∧ LetIs d b ∧
  (b = false → ok = false) ∧ (∀ g r, d = .tuple (.str g.s :: r) → b = true → ok = fitsT g n ds dr) ∧ (ok = true → ∀ H', Same H H' → Q v H') ∧ (ok = false → ∀ H', Same H H' → E (.ref B) none H')
def spMem (K : PySem.W.Frag) (A : Option Addr) (C : Addr) : Sp := fun vs H Q _ => ∃ (p : Addr) (n : Int) (v : V) (d : PyData), vs = [.ref p, v] ∧ GrAt C H p n ∧ Dt K H A v d ∧ Q (.bl (dInt 0 (3 * n + 1 - 1) d)) H
theorem GrAt.on {C : Addr} {H H' : Hp} {p : Addr} {n : Int} (h : GrAt C H p n) (s : Same H H') : GrAt C H' p n := h.imp fun _ e => s _ _ e
section
variable {P : Program} {w : World} {K : PySem.W.Frag} {mg : Str → Option Value} {base : Heap}
theorem m_Group__is_memberD {C_Group : Addr} {C_BadGroup : Addr} {C_BadLetter : Addr} {C_FORMS : Addr} (T : Txt K mg w C_Group C_BadGroup C_BadLetter C_FORMS) (A : Option Addr) : Met P w K mg base 2 C_Group "is_member" (spMem K A C_Group) [] := by
  obtain ⟨f, fd, ps, ds, c, M, F, r⟩ := (m_Group__is_member (P := P) (w := w) (base := base) T).ex
  refine ⟨f, fd, ps, ds, c, M, F.imp fun vs H Q E h => ?_, r⟩
  obtain ⟨p, n, v, d, rfl, hg, hd, q⟩ := h
  refine ⟨p, n, v, rfl, hg, ?_⟩
  cases hd with
  | int i => exact .inl ⟨i, rfl, q⟩
  | non => exact .inr ⟨⟨_, .base .non, .inl (by decide +kernel)⟩, q⟩
  | bl b => exact .inr ⟨⟨_, .base (.bl b), .inr ⟨by decide +kernel, by decide +kernel⟩⟩, q⟩
  | str z _ => exact .inr ⟨⟨_, .base (.str z), .inl (by decide +kernel)⟩, q⟩
  | lst _ ha _ => exact .inr ⟨⟨_, .base (.lst ha), .inl (by decide +kernel)⟩, q⟩
  | tup ha _ => exact .inr ⟨⟨_, ha.ty, .inl (by decide +kernel)⟩, q⟩
theorem c_route {C_Group : Addr} {C_BadGroup : Addr} {C_BadLetter : Addr} {C_FORMS : Addr} (T : Txt K mg w C_Group C_BadGroup C_BadLetter C_FORMS) (A : Option Addr) : CalX P w K mg base 8 "route" (spRoute K A C_BadLetter) := by
  have c_is_letter := c_is_letter (P := P) (w := w) (base := base) T A
  refine calX T.d_route sc_route (fun vs H Q E h => ?_) (fun f cdv A' outer s H vs Q E hr h => ?_)
  · obtain ⟨v, d, b, rfl, _⟩ := h; rfl
  obtain ⟨v, d, b, rfl, hv, li, q, qe⟩ := h
  refine ⟨_, (pss_cons (ps_if (pt_not (pt_val (pe_c c_is_letter hr (by decide) (by rfl) (pa_cons (pv 0) pa_nil)))) (pss_one (ps_raise rfl (takes_of rfl rfl rfl rfl) (pmk_ok T.x_BadLetter (by rfl)))) pss_nil)
      (pss_cons (ps_if (pt_cmpR op_eq (pe_ix (kixt (K := K)) (pv 0) pe_int (fun _ _ => rfl)) pe_str (nomark _)) (pss_one (ps_ret pe_str)) pss_nil)
      (pss_cons (ps_if (pt_cmpR op_eq (pe_ix (kixt (K := K)) (pv 0) pe_int (fun _ _ => rfl)) pe_str (nomark _)) (pss_one (ps_ret pe_str)) pss_nil)
      (pss_one (ps_ret pe_str))))), ?_⟩
  walk_at "rds"
  refine ⟨v, d, b, rfl, hv, li, fun H2 s2 => ?_⟩
  cases b with
  | false =>
    walk_at "rds"
    exact qe rfl _ s2
  | true =>
    obtain ⟨g, r, rfl, hgr⟩ := li.yes
    have q := q g r rfl rfl
    cases hv.on s2 with
    | tup ha hx =>
      rename_i a xs
      cases hx with
      | cons h1 hx =>
        cases h1
        walk_at "rds"
        refine ⟨a, _, 0, _, rfl, rfl, ha.sq, atI_nat (j := 0) rfl, ?_⟩
        walk_at "rds"
        refine (show (if decide (V.str g.s = V.str (Tag.s .command)) = true then _ else _ : Prop) from ?_)
        rw [tag_eq]
        by_cases e1 : g = .command
        · subst e1
          refine ifT (decide_eq_true rfl) ?_
          walk_at "rds"
          exact q _ s2
        refine ifF (decide_eq_false e1) ?_
        walk_at "rds"
        refine ⟨a, _, 0, _, rfl, rfl, ha.sq, atI_nat (j := 0) rfl, ?_⟩
        walk_at "rds"
        refine (show (if decide (V.str g.s = V.str (Tag.s .answer)) = true then _ else _ : Prop) from ?_)
        rw [tag_eq]
        by_cases e2 : g = .answer
        · subst e2
          refine ifT (decide_eq_true rfl) ?_
          walk_at "rds"
          exact q _ s2
        refine ifF (decide_eq_false e2) ?_
        walk_at "rds"
        have ew : wayT g = "machine" := by cases g <;> first | rfl | exact absurd rfl e1 | exact absurd rfl e2
        rw [ew] at q
        exact q _ s2
theorem c_check_letter {C_Group : Addr} {C_BadGroup : Addr} {C_BadLetter : Addr} {C_FORMS : Addr} (T : Txt K mg w C_Group C_BadGroup C_BadLetter C_FORMS) (A : Option Addr) : CalX P w K mg base 9 "check_letter" (spCheck K A C_Group C_BadLetter) := by
  have c_route := c_route (P := P) (w := w) (base := base) T A
  have c_is_client := c_is_client (P := P) (w := w) (base := base) T A
  have m_Group__is_member := m_Group__is_memberD (P := P) (w := w) (base := base) T A
  refine calX T.d_check_letter sc_check_letter (fun vs H Q E h => ?_) (fun f cdv A' outer s H vs Q E hr h => ?_)
  · obtain ⟨p, n, s, r, v, ds, dr, d, b, ok, rfl, _⟩ := h; rfl
  obtain ⟨p, n, sv, rv, v, ds, dr, d, b, ok, rfl, hg, hs, hrv, hv, li, hb, hok, q, qe⟩ := h
  refine ⟨_, (pss_cons (ps_set (i := 4) sc_check_letter.nd rfl (Or.inl rfl) (pe_cX c_route hr (by decide) (by rfl) (fun σ => passAt (takes_of rfl rfl rfl rfl) σ) (pa_cons (pv 3) pa_nil)))
      (pss_cut (ps_if (pt_cmpR op_eq (pv 4) pe_str (nomark _)) (pss_one (ps_set (i := 5) sc_check_letter.nd rfl (Or.inl rfl) (pe_and (pe_c c_is_client hr (by decide) (by rfl) (pa_cons (pv 1) pa_nil)) (pe_one (pe_mt m_Group__is_member hr (by decide) (pv 0) (pa_cons (pv 2) pa_nil)))))) (pss_one (ps_if (pt_cmpR op_eq (pv 4) pe_str (nomark _)) (pss_one (ps_set (i := 5) sc_check_letter.nd rfl (Or.inl rfl) (pe_and (pe_mt m_Group__is_member hr (by decide) (pv 0) (pa_cons (pv 1) pa_nil)) (pe_one (pe_c c_is_client hr (by decide) (by rfl) (pa_cons (pv 2) pa_nil)))))) (pss_one (ps_set (i := 5) sc_check_letter.nd rfl (Or.inl rfl) (pe_and (pe_mt m_Group__is_member hr (by decide) (pv 0) (pa_cons (pv 1) pa_nil)) (pe_one (pe_mt m_Group__is_member hr (by decide) (pv 0) (pa_cons (pv 2) pa_nil)))))))))
      (pss_cons (ps_if (pt_not (pt_val (pv 5))) (pss_one (ps_raise rfl (takes_of rfl rfl rfl rfl) (pmk_ok T.x_BadLetter (by rfl)))) pss_nil)
      (pss_one (ps_ret (pv 3)))))), ?_⟩
  walk_at "rds"
  refine ⟨v, d, b, rfl, hv, li, fun g r ed eb H1 s1 => ?_, fun eb H1 s1 => qe (hb eb) _ s1⟩
  have hok := hok g r ed eb
  have hg1 := hg.on s1
  obtain ⟨dg, gg⟩ := id hg1
  have hs1 := hs.on s1
  have hr1 := hrv.on s1
  subst hok
  refine ⟨fun σ' H' => σ' = [some (.ref p), some sv, some rv, some v, some (.str (wayT g)), some (.bl (fitsT g n ds dr))] ∧ Same H H', ?_, ?_⟩
  · by_cases e1 : g = .command
    · subst e1
      walk_at "rds"
      refine ⟨sv, ds, rfl, hs1, fun H2 s2 => ?_⟩
      have hg2 := hg1.on s2
      obtain ⟨dg2, gg2⟩ := id hg2
      refine ⟨_, rfl, ?_⟩
      cases z : dInt (-100) (-1) ds with
      | false =>
        refine ifF rfl ?_
        exact ⟨by show _ = [_, _, _, _, _, some (V.bl (dInt (-100) (-1) ds && _))]; rw [z]; rfl, s1.trans s2⟩
      | true =>
        refine ifT rfl ?_
        walk_at "rds"
        refine ⟨p, dg2, _, rfl, gg2, rfl, ?_⟩
        walk_at "rds"
        refine ⟨p, n, rv, dr, rfl, hg2, hr1.on s2, ?_⟩
        exact ⟨by show _ = [_, _, _, _, _, some (V.bl (dInt (-100) (-1) ds && _))]; rw [z]; rfl, s1.trans s2⟩
    by_cases e2 : g = .answer
    · subst e2
      walk_at "rds"
      refine ⟨p, dg, _, rfl, gg, rfl, ?_⟩
      walk_at "rds"
      refine ⟨p, n, sv, ds, rfl, hg1, hs1, ?_⟩
      refine ⟨_, rfl, ?_⟩
      cases z : dInt 0 (3 * n + 1 - 1) ds with
      | false =>
        refine ifF rfl ?_
        exact ⟨by show _ = [_, _, _, _, _, some (V.bl (dInt 0 (3 * n + 1 - 1) ds && _))]; rw [z]; rfl, s1⟩
      | true =>
        refine ifT rfl ?_
        walk_at "rds"
        refine ⟨rv, dr, rfl, hr1, fun H2 s2 => ?_⟩
        exact ⟨by show _ = [_, _, _, _, _, some (V.bl (dInt 0 (3 * n + 1 - 1) ds && _))]; rw [z]; rfl, s1.trans s2⟩
    have ew : wayT g = "machine" := by cases g <;> first | rfl | exact absurd rfl e1 | exact absurd rfl e2
    have ef : fitsT g n ds dr = (dInt 0 (3 * n + 1 - 1) ds && dInt 0 (3 * n + 1 - 1) dr) := by cases g <;> first | rfl | exact absurd rfl e1 | exact absurd rfl e2
    rw [ew, ef]
    walk_at "rds"
    refine ⟨p, dg, _, rfl, gg, rfl, ?_⟩
    walk_at "rds"
    refine ⟨p, n, sv, ds, rfl, hg1, hs1, ?_⟩
    refine ⟨_, rfl, ?_⟩
    cases z : dInt 0 (3 * n + 1 - 1) ds with
    | false =>
      refine ifF rfl ?_
      exact ⟨rfl, s1⟩
    | true =>
      refine ifT rfl ?_
      walk_at "rds"
      refine ⟨p, dg, _, rfl, gg, rfl, ?_⟩
      walk_at "rds"
      refine ⟨p, n, rv, dr, rfl, hg1, hr1, ?_⟩
      exact ⟨rfl, s1⟩
  rintro σ' H2 ⟨rfl, s2⟩
  cases ez : fitsT g n ds dr with
  | false =>
    walk_at "rds"
    exact qe ez _ s2
  | true =>
    walk_at "rds"
    exact q ez _ s2
end

--@SPLIT
/-! ### the law's defs -/
inductive LetD : Tag → List PyData → Prop
  | blk {g : Tag} {b : PyData} : g = .propose ∨ g = .vote ∨ g = .ready → dBlock b = true → LetD g [b]
  | vouch {c : PyData} : dCmd c = true → LetD .vouch [c]
  | claim {n : Int} : 0 ≤ n → n ≤ 1000000000000 → LetD .claim [.int n]
  | give {e p h : Int} {cs : List PyData} : dBlock (.tuple [.int e, .int p, .int h, .tuple cs]) = true → LetD .give [.int h, .tuple [.int e, .int p, .int h, .tuple cs]]
  | text {g : Tag} {n m : Int} {z : Str} : (g = .command ∧ m = 240) ∨ (g = .answer ∧ m = 200) → 1 ≤ n → n ≤ 1000000000000 → isPr z = true → (z.length : Int) ≤ m → LetD g [.int n, .str z]
theorem LetD.yes {g : Tag} {r : List PyData} (h : LetD g r) : g.f r = true := by
  cases h with
  | blk hg hb => rcases hg with rfl | rfl | rfl <;> exact hb
  | vouch hc => exact hc
  | claim h0 h1 => exact decide_eq_true ⟨h0, h1⟩
  | give hb => exact Bool.and_eq_true_iff.mpr ⟨hb, decide_eq_true ⟨Int.le_refl _, Int.le_refl _⟩⟩
  | text hg n0 n1 pz lz =>
    rcases hg with ⟨rfl, rfl⟩ | ⟨rfl, rfl⟩ <;>
    exact Bool.and_eq_true_iff.mpr ⟨decide_eq_true ⟨n0, n1⟩, Bool.and_eq_true_iff.mpr ⟨pz, decide_eq_true lz⟩⟩
theorem LetD.is {g : Tag} {r : List PyData} (h : LetD g r) : LetIs (.tuple (.str g.s :: r)) true := by
  have := LetIs.tag g r
  rw [h.yes] at this
  exact this
def spMach (K : PySem.W.Frag) (A : Option Addr) : Sp := fun vs H Q _ => ∃ (v : V) (m : Int) (d : PyData), vs = [v, .int m] ∧ Dt K H A v d ∧ Q (.bl (dInt 0 (m - 1) d)) H
def spCli (K : PySem.W.Frag) (A : Option Addr) : Sp := fun vs H Q _ => ∃ (v : V) (d : PyData), vs = [v] ∧ Dt K H A v d ∧ Q (.bl (dInt (-100) (-1) d)) H
def spFits (K : PySem.W.Frag) (A : Option Addr) : Sp := fun vs H Q _ => ∃ (g : Tag) (s r : V) (n : Int) (ds dr : PyData), vs = [.str (wayT g), s, r, .int (3 * n + 1)] ∧ Dt K H A s ds ∧ Dt K H A r dr ∧ Q (.bl (fitsT g n ds dr)) H
theorem Dt.intCase {K : PySem.W.Frag} {H : Hp} {A : Option Addr} {v : V} {d : PyData} (h : Dt K H A v d) : (∃ i, v = .int i ∧ d = .int i) ∨ (NoInt K H v ∧ ∀ lo hi, dInt lo hi d = false) := by
  cases h with
  | int i => exact .inl ⟨i, rfl, rfl⟩
  | non => exact .inr ⟨⟨_, .base .non, .inl (by decide +kernel)⟩, fun _ _ => rfl⟩
  | bl b => exact .inr ⟨⟨_, .base (.bl b), .inr ⟨by decide +kernel, by decide +kernel⟩⟩, fun _ _ => rfl⟩
  | str z _ => exact .inr ⟨⟨_, .base (.str z), .inl (by decide +kernel)⟩, fun _ _ => rfl⟩
  | lst _ ha _ => exact .inr ⟨⟨_, .base (.lst ha), .inl (by decide +kernel)⟩, fun _ _ => rfl⟩
  | tup ha _ => exact .inr ⟨⟨_, ha.ty, .inl (by decide +kernel)⟩, fun _ _ => rfl⟩
section
variable {P : Program} {w : World} {K : PySem.W.Frag} {mg : Str → Option Value} {base : Heap}
theorem c__law_machine {C_Group : Addr} {C_BadGroup : Addr} {C_BadLetter : Addr} {C_FORMS : Addr} (T : Txt K mg w C_Group C_BadGroup C_BadLetter C_FORMS) (A : Option Addr) : Cal P w K mg base 1 "_law_machine" (spMach K A) [] := by
  refine cal T.d__law_machine sc__law_machine (fun vs H Q E h => ?_) (fun f cdv A' outer s H vs Q E hr h => ?_)
  · obtain ⟨v, m, d, rfl, _⟩ := h; rfl
  obtain ⟨v, m, d, rfl, hd, q⟩ := h
  refine ⟨_, (pss_one (ps_ret (pe_and (pe_callB (kisi (K := K)) (by rfl) T.z_isinstance (by decide +kernel) (pa_cons (pv 0) (pa_cons (pe_bltn (v := .ty "int") (by rfl) T.z_int (by decide +kernel) rfl) pa_nil))) (pe_and (pe_not (pe_callB (kisi (K := K)) (by rfl) T.z_isinstance (by decide +kernel) (pa_cons (pv 0) (pa_cons (pe_bltn (v := .ty "bool") (by rfl) T.z_bool (by decide +kernel) rfl) pa_nil)))) (pe_one (pe_chain op_le op_lt pe_int (pv 0) (pv 1))))))), ?_⟩
  rcases hd.intCase with ⟨i, rfl, rfl⟩ | ⟨⟨T, ty, hk⟩, e⟩
  · walk_at "rds"
    walk_at "isi"
    walk_at "rds"
    walk_at "isi"
    walk_at "rds"
    have eq : dInt 0 (m - 1) (.int i) = (decide (0 ≤ i) && decide (i < m)) := by
      show decide (0 ≤ i ∧ i ≤ m - 1) = _
      rw [Bool.decide_and, decide_eq_decide.mpr (show i ≤ m - 1 ↔ i < m by omega)]
    rw [eq] at q
    refine ite2 (fun e => ?_) (fun e => ?_)
    · rw [e, Bool.true_and] at q
      walk_at "rds"
      exact q
    · rw [show decide (0 ≤ i) = false by simpa using e] at q
      exact q
  · rw [e] at q
    walk_at "rds"
    rcases hk with hk | ⟨hk, hb⟩
    · refine ⟨_, .ty _, _, _, false, rfl, .ty _, ty, kit_ty hk, ?_⟩
      walk_at "rds"
      exact q
    · refine ⟨_, .ty _, _, _, true, rfl, .ty _, ty, kit_ty hk, ?_⟩
      walk_at "rds"
      refine ⟨_, .ty _, _, _, true, rfl, .ty _, ty, kit_ty hb, ?_⟩
      walk_at "rds"
      exact q
theorem c__law_client {C_Group : Addr} {C_BadGroup : Addr} {C_BadLetter : Addr} {C_FORMS : Addr} (T : Txt K mg w C_Group C_BadGroup C_BadLetter C_FORMS) (A : Option Addr) : Cal P w K mg base 1 "_law_client" (spCli K A) [] := by
  refine cal T.d__law_client sc__law_client (fun vs H Q E h => ?_) (fun f cdv A' outer s H vs Q E hr h => ?_)
  · obtain ⟨v, d, rfl, _⟩ := h; rfl
  obtain ⟨v, d, rfl, hd, q⟩ := h
  refine ⟨_, (pss_one (ps_ret (pe_and (pe_callB (kisi (K := K)) (by rfl) T.z_isinstance (by decide +kernel) (pa_cons (pv 0) (pa_cons (pe_bltn (v := .ty "int") (by rfl) T.z_int (by decide +kernel) rfl) pa_nil))) (pe_and (pe_not (pe_callB (kisi (K := K)) (by rfl) T.z_isinstance (by decide +kernel) (pa_cons (pv 0) (pa_cons (pe_bltn (v := .ty "bool") (by rfl) T.z_bool (by decide +kernel) rfl) pa_nil)))) (pe_one (pe_chain op_le op_le (pe_un un_neg pe_int) (pv 0) (pe_un un_neg pe_int))))))), ?_⟩
  rcases hd.intCase with ⟨i, rfl, rfl⟩ | ⟨⟨T, ty, hk⟩, e⟩
  · walk_at "rds"
    walk_at "isi"
    walk_at "rds"
    walk_at "isi"
    walk_at "rds"
    have eq : dInt (-100) (-1) (.int i) = (decide (-100 ≤ i) && decide (i ≤ -1)) := by
      show decide (-100 ≤ i ∧ i ≤ -1) = _
      rw [Bool.decide_and]
    rw [eq] at q
    refine ite2 (fun e => ?_) (fun e => ?_)
    · rw [e, Bool.true_and] at q
      walk_at "rds"
      exact q
    · rw [show decide (-100 ≤ i) = false by simpa using e] at q
      exact q
  · rw [e] at q
    walk_at "rds"
    rcases hk with hk | ⟨hk, hb⟩
    · refine ⟨_, .ty _, _, _, false, rfl, .ty _, ty, kit_ty hk, ?_⟩
      walk_at "rds"
      exact q
    · refine ⟨_, .ty _, _, _, true, rfl, .ty _, ty, kit_ty hk, ?_⟩
      walk_at "rds"
      refine ⟨_, .ty _, _, _, true, rfl, .ty _, ty, kit_ty hb, ?_⟩
      walk_at "rds"
      exact q
theorem c__law_fits {C_Group : Addr} {C_BadGroup : Addr} {C_BadLetter : Addr} {C_FORMS : Addr} (T : Txt K mg w C_Group C_BadGroup C_BadLetter C_FORMS) (A : Option Addr) : Cal P w K mg base 2 "_law_fits" (spFits K A) [] := by
  have c__law_machine := c__law_machine (P := P) (w := w) (base := base) T A
  have c__law_client := c__law_client (P := P) (w := w) (base := base) T A
  refine cal T.d__law_fits sc__law_fits (fun vs H Q E h => ?_) (fun f cdv A' outer s H vs Q E hr h => ?_)
  · obtain ⟨g, s, r, n, ds, dr, rfl, _⟩ := h; rfl
  obtain ⟨g, sv, rv, n, ds, dr, rfl, hs, hrv, q⟩ := h
  refine ⟨_, (pss_cons (ps_if (pt_cmpR op_eq (pv 0) pe_str (nomark _)) (pss_one (ps_ret (pe_and (pe_c c__law_client hr (by decide) (by rfl) (pa_cons (pv 1) pa_nil)) (pe_one (pe_c c__law_machine hr (by decide) (by rfl) (pa_cons (pv 2) (pa_cons (pv 3) pa_nil))))))) pss_nil)
      (pss_cons (ps_if (pt_cmpR op_eq (pv 0) pe_str (nomark _)) (pss_one (ps_ret (pe_and (pe_c c__law_machine hr (by decide) (by rfl) (pa_cons (pv 1) (pa_cons (pv 3) pa_nil))) (pe_one (pe_c c__law_client hr (by decide) (by rfl) (pa_cons (pv 2) pa_nil)))))) pss_nil)
      (pss_one (ps_ret (pe_and (pe_c c__law_machine hr (by decide) (by rfl) (pa_cons (pv 1) (pa_cons (pv 3) pa_nil))) (pe_one (pe_c c__law_machine hr (by decide) (by rfl) (pa_cons (pv 2) (pa_cons (pv 3) pa_nil))))))))), ?_⟩
  by_cases e1 : g = .command
  · subst e1
    walk_at "rds"
    refine ⟨sv, ds, rfl, hs, ?_⟩
    refine ⟨_, rfl, ?_⟩
    have q : Q (.bl (dInt (-100) (-1) ds && dInt 0 (3 * n + 1 - 1) dr)) H := q
    cases z : dInt (-100) (-1) ds with
    | false => rw [z] at q; refine ifF rfl ?_; exact q
    | true =>
      rw [z] at q
      refine ifT rfl ?_
      walk_at "rds"
      exact ⟨rv, _, dr, rfl, hrv, q⟩
  by_cases e2 : g = .answer
  · subst e2
    walk_at "rds"
    refine ⟨sv, _, ds, rfl, hs, ?_⟩
    refine ⟨_, rfl, ?_⟩
    have q : Q (.bl (dInt 0 (3 * n + 1 - 1) ds && dInt (-100) (-1) dr)) H := q
    cases z : dInt 0 (3 * n + 1 - 1) ds with
    | false => rw [z] at q; refine ifF rfl ?_; exact q
    | true =>
      rw [z] at q
      refine ifT rfl ?_
      walk_at "rds"
      exact ⟨rv, dr, rfl, hrv, q⟩
  have ew : wayT g = "machine" := by cases g <;> first | rfl | exact absurd rfl e1 | exact absurd rfl e2
  have ef : fitsT g n ds dr = (dInt 0 (3 * n + 1 - 1) ds && dInt 0 (3 * n + 1 - 1) dr) := by cases g <;> first | rfl | exact absurd rfl e1 | exact absurd rfl e2
  rw [ef] at q
  rw [ew]
  walk_at "rds"
  refine ⟨sv, _, ds, rfl, hs, ?_⟩
  refine ⟨_, rfl, ?_⟩
  cases z : dInt 0 (3 * n + 1 - 1) ds with
  | false => rw [z] at q; refine ifF rfl ?_; exact q
  | true =>
    rw [z] at q
    refine ifT rfl ?_
    walk_at "rds"
    exact ⟨rv, _, dr, rfl, hrv, q⟩
def spLRoute (K : PySem.W.Frag) (A : Option Addr) : Sp := fun vs H Q _ => ∃ (v : V) (d : PyData) (b : Bool), vs = [v] ∧ Dt K H A v d ∧ LetIs d b ∧ (∀ g r, d = .tuple (.str g.s :: r) → b = true → ∀ H', Same H H' → Q (.str (wayT g)) H') ∧ (b = false → ∀ H', Same H H' → Q .non H')
def spLCheck (K : PySem.W.Frag) (A : Option Addr) (C : Addr) : Sp := fun vs H Q _ => ∃ (p : Addr) (n : Int) (s r v : V) (ds dr d : PyData) (b ok : Bool), vs = [.ref p, s, r, v] ∧ GrAt C H p n ∧ Dt K H A s ds ∧ Dt K H A r dr ∧ Dt K H A v d ∧ LetIs d b ∧
  (b = false → ok = false) ∧ (∀ g r, d = .tuple (.str g.s :: r) → b = true → ok = fitsT g n ds dr) ∧ (ok = true → ∀ H', Same H H' → Q v H') ∧ (ok = false → ∀ H', Same H H' → Q .non H')
def spEnd (K : PySem.W.Frag) : Sp := fun vs H Q _ => ∃ (D A : Addr), vs = [.ref D, .ref A] ∧ Dr H D A ∧ ∀ H' x d, Mod A H H' → Dr H' D A → Dt K H' (some A) x d → Q x H'
theorem c__law_route {C_Group : Addr} {C_BadGroup : Addr} {C_BadLetter : Addr} {C_FORMS : Addr} (T : Txt K mg w C_Group C_BadGroup C_BadLetter C_FORMS) (A : Option Addr) : Cal P w K mg base 9 "_law_route" (spLRoute K A) [] := by
  have c_route := c_route (P := P) (w := w) (base := base) T A
  refine cal T.d__law_route sc__law_route (fun vs H Q E h => ?_) (fun f cdv A' outer s H vs Q E hr h => ?_)
  · obtain ⟨v, d, b, rfl, _⟩ := h; rfl
  obtain ⟨v, d, b, rfl, hv, li, q, qe⟩ := h
  refine ⟨_, (pss_one (ps_try_only (Wout := fun _ _ _ _ => False) rfl rfl ⟨by rfl, by decide, .inl T.x_BadLetter.g⟩ takes0 (fun W pn xe tk po => (pss_one (ps_ret (pe_cX c_route hr (by decide) (by rfl) (fun σ => passAt tk σ) (pa_cons (pv 0) pa_nil))))) (fun a oe cls d pn _ _ => (pss_one (ps_ret pe_non))))), ?_⟩
  walk_at "rds"
  refine ⟨v, d, b, rfl, hv, li, fun g r e1 e2 H1 s1 => q g r e1 e2 _ s1, fun eb H1 s1 => ?_⟩
  refine ⟨true, T.x_BadLetter.exm T.u_BadLetter_BadLetter, fun _ a ha => ?_, fun z => nomatch z⟩
  walk_at "rds"
  exact qe eb _ s1
theorem c__law_checked {C_Group : Addr} {C_BadGroup : Addr} {C_BadLetter : Addr} {C_FORMS : Addr} (T : Txt K mg w C_Group C_BadGroup C_BadLetter C_FORMS) (A : Option Addr) : Cal P w K mg base 10 "_law_checked" (spLCheck K A C_Group) [] := by
  have c_check_letter := c_check_letter (P := P) (w := w) (base := base) T A
  refine cal T.d__law_checked sc__law_checked (fun vs H Q E h => ?_) (fun f cdv A' outer s H vs Q E hr h => ?_)
  · obtain ⟨p, n, s, r, v, ds, dr, d, b, ok, rfl, _⟩ := h; rfl
  obtain ⟨p, n, sv, rv, v, ds, dr, d, b, ok, rfl, hg, hs, hrv, hv, li, hb, hok, q, qe⟩ := h
  refine ⟨_, (pss_one (ps_try_only (Wout := fun _ _ _ _ => False) rfl rfl ⟨by rfl, by decide, .inl T.x_BadLetter.g⟩ takes0 (fun W pn xe tk po => (pss_one (ps_ret (pe_cX c_check_letter hr (by decide) (by rfl) (fun σ => passAt tk σ) (pa_cons (pv 0) (pa_cons (pv 1) (pa_cons (pv 2) (pa_cons (pv 3) pa_nil)))))))) (fun a oe cls d pn _ _ => (pss_one (ps_ret pe_non))))), ?_⟩
  walk_at "rds"
  refine ⟨p, n, sv, rv, v, ds, dr, d, b, ok, rfl, hg, hs, hrv, hv, li, hb, hok, fun e H1 s1 => q e _ s1, fun eb H1 s1 => ?_⟩
  refine ⟨true, T.x_BadLetter.exm T.u_BadLetter_BadLetter, fun _ a ha => ?_, fun z => nomatch z⟩
  walk_at "rds"
  exact qe eb _ s1
theorem c__law_end {C_Group : Addr} {C_BadGroup : Addr} {C_BadLetter : Addr} {C_FORMS : Addr} (T : Txt K mg w C_Group C_BadGroup C_BadLetter C_FORMS) : Cal P w K mg base 2 "_law_end" (spEnd K) [] := by
  have c__law_next := c__law_next (P := P) (w := w) (base := base) T
  refine cal T.d__law_end sc__law_end (fun vs H Q E h => ?_) (fun f cdv A' outer s H vs Q E hr h => ?_)
  · obtain ⟨D, A, rfl, _⟩ := h; rfl
  obtain ⟨D, A, rfl, dr, q⟩ := h
  refine ⟨_, (pss_cons (ps_set (i := 2) sc__law_end.nd rfl (Or.inl rfl) (pe_c c__law_next hr (by decide) (by rfl) (pa_cons (pv 0) (pa_cons (pv 1) (pa_cons pe_int pa_nil)))))
      (pss_cons (ps_if (pt_cmpR op_lt (pv 2) pe_int (nomark _)) (pss_one (ps_ret (pe_op op_sub (pe_un un_neg pe_int) (pe_c c__law_next hr (by decide) (by rfl) (pa_cons (pv 0) (pa_cons (pv 1) (pa_cons pe_int pa_nil))))))) pss_nil)
      (pss_cons (ps_if (pt_cmpR op_eq (pv 2) pe_int (nomark _)) (pss_one (ps_ret (pe_ix (kixl (K := K)) (pe_lst (pa_cons pe_bl (pa_cons pe_bl (pa_cons pe_str (pa_cons pe_non pa_nil))))) (pe_c c__law_next hr (by decide) (by rfl) (pa_cons (pv 0) (pa_cons (pv 1) (pa_cons pe_int pa_nil)))) (fun _ _ => rfl)))) pss_nil)
      (pss_one (ps_ret (pe_c c__law_next hr (by decide) (by rfl) (pa_cons (pv 0) (pa_cons (pv 1) (pa_cons pe_int pa_nil))))))))), ?_⟩
  walk_at "rds"
  refine ⟨D, A, 6, rfl, dr, by decide, fun H1 c c0 c1 md1 dr1 => ?_⟩
  walk_at "rds"
  refine ite2 (fun _ => ?_) (fun _ => ?_)
  · walk_at "rds"
    refine ⟨D, A, 101, rfl, dr1, by decide, fun H2 r r0 r1 md2 dr2 => ?_⟩
    walk_at "rds"
    exact q _ _ _ (md1.trans md2) dr2 (.int _)
  walk_at "rds"
  refine ite2 (fun _ => ?_) (fun _ => ?_)
  · walk_at "rds"
    intro l hl
    have md2 := md1.new (o := .lst [.bl true, .bl false, .str (Str.ofString "0"), .non]) hl
    have dr2 := dr1.new (o := .lst [.bl true, .bl false, .str (Str.ofString "0"), .non]) hl
    have el : upd H1 l (.lst [.bl true, .bl false, .str (Str.ofString "0"), .non]) l = some (.lst [.bl true, .bl false, .str (Str.ofString "0"), .non]) := upd_same
    have lA := dr1.freshA hl
    generalize upd H1 l (.lst [.bl true, .bl false, .str (Str.ofString "0"), .non]) = H2 at md2 dr2 el
    walk_at "rds"
    refine ⟨D, A, 4, rfl, dr2, by decide, fun H3 r r0 r1 md3 dr3 => ?_⟩
    have el3 := md3 _ _ lA el
    obtain ⟨v, mv, gv⟩ := atI_lt (xs := [V.bl true, V.bl false, V.str (Str.ofString "0"), V.non]) r0 r1
    refine ⟨l, _, _, v, rfl, rfl, sq el3, gv, ?_⟩
    have hv : ∃ d, Dt K H3 (some A) v d := by
      simp only [List.mem_cons, List.not_mem_nil, or_false] at mv
      rcases mv with rfl | rfl | rfl | rfl
      · exact ⟨_, .bl _⟩
      · exact ⟨_, .bl _⟩
      · exact ⟨_, .str _ (by decide +kernel)⟩
      · exact ⟨_, .non⟩
    obtain ⟨d, hv⟩ := hv
    exact q _ _ d (md2.trans md3) dr3 hv
  walk_at "rds"
  refine ⟨D, A, 41, rfl, dr1, by decide, fun H2 r r0 r1 md2 dr2 => ?_⟩
  exact q _ _ _ (md1.trans md2) dr2 (.int _)
end

--@SPLIT
/-! ### _law_letter -/
def spLLet (K : PySem.W.Frag) : Sp := fun vs H Q _ => ∃ (D A : Addr), vs = [.ref D, .ref A] ∧ Dr H D A ∧ ∀ H' x g r, Mod A H H' → Dr H' D A → Dt K H' (some A) x (.tuple (.str (Tag.s g) :: r)) → LetD g r → Q x H'
section
variable {P : Program} {w : World} {K : PySem.W.Frag} {mg : Str → Option Value} {base : Heap}
theorem c__law_letter {C_Group : Addr} {C_BadGroup : Addr} {C_BadLetter : Addr} {C_FORMS : Addr} (T : Txt K mg w C_Group C_BadGroup C_BadLetter C_FORMS) : Cal P w K mg base 6 "_law_letter" (spLLet K) [] := by
  have c__law_next := c__law_next (P := P) (w := w) (base := base) T
  have c__law_big := c__law_big (P := P) (w := w) (base := base) T
  have c__law_string := c__law_string (P := P) (w := w) (base := base) T
  have c__law_command := c__law_command (P := P) (w := w) (base := base) T
  have c__law_block := c__law_block (P := P) (w := w) (base := base) T
  refine cal T.d__law_letter sc__law_letter (fun vs H Q E h => ?_) (fun f cdv A' outer s H vs Q E hr h => ?_)
  · obtain ⟨D, A, rfl, _⟩ := h; rfl
  obtain ⟨D, A, rfl, dr, q⟩ := h
  have e11 : (10 : Int) ^ (11 : Int).toNat = 100000000000 := by decide
  refine ⟨_, (pss_cons (ps_set (i := 2) sc__law_letter.nd rfl (Or.inl rfl) (pe_c c__law_next hr (by decide) (by rfl) (pa_cons (pv 0) (pa_cons (pv 1) (pa_cons pe_int pa_nil)))))
      (pss_cons (ps_set (i := 3) sc__law_letter.nd rfl (Or.inl rfl) (pe_c c__law_block hr (by decide) (by rfl) (pa_cons (pv 0) (pa_cons (pv 1) (pa_cons pe_int pa_nil)))))
      (pss_cons (ps_if (pt_cmpR op_lt (pv 2) pe_int (nomark _)) (pss_one (ps_ret (pe_tup (pa_cons (pe_ix (kixl (K := K)) (pe_lst (pa_cons pe_str (pa_cons pe_str (pa_cons pe_str pa_nil)))) (pv 2) (fun _ _ => rfl)) (pa_cons (pv 3) pa_nil))))) pss_nil)
      (pss_cons (ps_if (pt_cmpR op_eq (pv 2) pe_int (nomark _)) (pss_one (ps_ret (pe_tup (pa_cons pe_str (pa_cons (pe_c c__law_command hr (by decide) (by rfl) (pa_cons (pv 0) (pa_cons (pv 1) (pa_cons (pe_op op_sub (pe_un un_neg pe_int) (pe_c c__law_next hr (by decide) (by rfl) (pa_cons (pv 0) (pa_cons (pv 1) (pa_cons pe_int pa_nil))))) pa_nil)))) pa_nil))))) pss_nil)
      (pss_cons (ps_if (pt_cmpR op_eq (pv 2) pe_int (nomark _)) (pss_one (ps_ret (pe_tup (pa_cons pe_str (pa_cons (pe_op op_mul (pe_c c__law_next hr (by decide) (by rfl) (pa_cons (pv 0) (pa_cons (pv 1) (pa_cons pe_int pa_nil)))) (pe_c c__law_big hr (by decide) (by rfl) (pa_cons (pv 0) (pa_cons (pv 1) (pa_cons (pe_op op_pow pe_int pe_int) pa_nil))))) pa_nil))))) pss_nil)
      (pss_cons (ps_if (pt_cmpR op_eq (pv 2) pe_int (nomark _)) (pss_one (ps_ret (pe_tup (pa_cons pe_str (pa_cons (pe_ix (kixt (K := K)) (pv 3) pe_int (fun _ _ => rfl)) (pa_cons (pv 3) pa_nil)))))) pss_nil)
      (pss_cons (ps_set (i := 4) sc__law_letter.nd rfl (Or.inl rfl) (pe_op op_add pe_int (pe_op op_mul (pe_c c__law_next hr (by decide) (by rfl) (pa_cons (pv 0) (pa_cons (pv 1) (pa_cons pe_int pa_nil)))) (pe_c c__law_big hr (by decide) (by rfl) (pa_cons (pv 0) (pa_cons (pv 1) (pa_cons (pe_op op_pow pe_int pe_int) pa_nil)))))))
      (pss_cons (ps_if (pt_cmpR op_eq (pv 2) pe_int (nomark _)) (pss_one (ps_ret (pe_tup (pa_cons pe_str (pa_cons (pv 4) (pa_cons (pe_c c__law_string hr (by decide) (by rfl) (pa_cons (pv 0) (pa_cons (pv 1) (pa_cons pe_int pa_nil)))) pa_nil)))))) pss_nil)
      (pss_one (ps_ret (pe_tup (pa_cons pe_str (pa_cons (pv 4) (pa_cons (pe_c c__law_string hr (by decide) (by rfl) (pa_cons (pv 0) (pa_cons (pv 1) (pa_cons pe_int pa_nil)))) pa_nil)))))))))))))), ?_⟩
  walk_at "rds"
  refine ⟨D, A, 8, rfl, dr, by decide, fun H1 k k0 k1 md1 dr1 => ?_⟩
  walk_at "rds"
  refine ⟨D, A, 2, rfl, dr1, by decide, by decide, fun H2 xb e p h cs md2 dr2 hb okb lcs => ?_⟩
  have md12 := md1.trans md2
  walk_at "rds"
  refine ite2 (fun z => ?_) (fun z => ?_)
  · have z : k < 3 := of_decide_eq_true z
    walk_at "rds"
    intro l hl
    have s3 := same_upd (o := .lst [.str (Str.ofString "propose"), .str (Str.ofString "vote"), .str (Str.ofString "ready")]) hl
    have el : upd H2 l (.lst [.str (Str.ofString "propose"), .str (Str.ofString "vote"), .str (Str.ofString "ready")]) l = some (.lst [.str (Str.ofString "propose"), .str (Str.ofString "vote"), .str (Str.ofString "ready")]) := upd_same
    generalize upd H2 l (.lst [.str (Str.ofString "propose"), .str (Str.ofString "vote"), .str (Str.ofString "ready")]) = H3 at s3 el
    obtain ⟨v, mv, gv⟩ := atI_lt (xs := [V.str (Str.ofString "propose"), V.str (Str.ofString "vote"), V.str (Str.ofString "ready")]) k0 z
    walk_at "rds"
    refine ⟨l, _, _, v, rfl, rfl, sq el, gv, ?_⟩
    have hv : ∃ g : Tag, v = .str g.s ∧ (g = .propose ∨ g = .vote ∨ g = .ready) := by
      simp only [List.mem_cons, List.not_mem_nil, or_false] at mv
      rcases mv with rfl | rfl | rfl
      · exact ⟨.propose, rfl, .inl rfl⟩
      · exact ⟨.vote, rfl, .inr (.inl rfl)⟩
      · exact ⟨.ready, rfl, .inr (.inr rfl)⟩
    obtain ⟨g, rfl, hg⟩ := hv
    walk_at "rds"
    intro t ht
    have s4 := s3.trans (same_upd (o := .tup [.str g.s, xb]) ht)
    exact q _ _ g _ (md12.trans (Same.mod s4)) (dr2.same s4) (.tup (.inl upd_same) (.cons (.str _ (by cases g <;> decide +kernel)) (.cons (hb.on s4) .nil))) (.blk hg okb)
  have z : ¬ k < 3 := fun y => z (decide_eq_true y)
  walk_at "rds"
  refine ite2 (fun z3 => ?_) (fun z3 => ?_)
  · walk_at "rds"
    refine ⟨D, A, 100, rfl, dr2, by decide, fun H3 r r0 r1 md3 dr3 => ?_⟩
    walk_at "rds"
    refine ⟨D, A, _, rfl, dr3, by omega, by omega, fun H4 x d md4 dr4 hd okd _ => ?_⟩
    walk_at "rds"
    intro t ht
    have s5 := same_upd (o := .tup [.str (Str.ofString "vouch"), x]) ht
    exact q _ _ .vouch _ (((md12.trans md3).trans md4).trans (Same.mod s5)) (dr4.same s5) (.tup (.inl upd_same) (.cons (.str _ (by decide +kernel)) (.cons (hd.on s5) .nil))) (.vouch okd)
  walk_at "rds"
  refine ite2 (fun z4 => ?_) (fun z4 => ?_)
  · walk_at "rds"
    refine ⟨D, A, 3, rfl, dr2, by decide, fun H3 r r0 r1 md3 dr3 => ?_⟩
    walk_at "rds"
    refine ⟨D, A, _, rfl, dr3, by decide, fun H4 b b0 b1 md4 dr4 => ?_⟩
    rw [e11] at b1
    have m0 : 0 ≤ r * b := Int.mul_nonneg r0 b0
    have m1 : r * b ≤ 2 * b := Int.mul_le_mul_of_nonneg_right (by omega) b0
    walk_at "rds"
    intro t ht
    have s5 := same_upd (o := .tup [.str (Str.ofString "claim"), .int (r * b)]) ht
    exact q _ _ .claim _ (((md12.trans md3).trans md4).trans (Same.mod s5)) (dr4.same s5) (.tup (.inl upd_same) (.cons (.str _ (by decide +kernel)) (.cons (.int _) .nil))) (.claim m0 (by omega))
  walk_at "rds"
  refine ite2 (fun z5 => ?_) (fun z5 => ?_)
  · obtain ⟨ba, y1, y2, y3, y4, rfl, hba, h1, h2, h3, h4⟩ := id hb.quad
    cases h3
    walk_at "rds"
    refine ⟨ba, _, 2, _, rfl, rfl, hba.sq, atI_nat (j := 2) rfl, ?_⟩
    walk_at "rds"
    intro t ht
    have s5 := same_upd (o := .tup [.str (Str.ofString "give"), .int h, .ref ba]) ht
    exact q _ _ .give _ (md12.trans (Same.mod s5)) (dr2.same s5) (.tup (.inl upd_same) (.cons (.str _ (by decide +kernel)) (.cons (.int _) (.cons (hb.on s5) .nil)))) (.give okb)
  walk_at "rds"
  refine ⟨D, A, 3, rfl, dr2, by decide, fun H3 r r0 r1 md3 dr3 => ?_⟩
  walk_at "rds"
  refine ⟨D, A, _, rfl, dr3, by decide, fun H4 b b0 b1 md4 dr4 => ?_⟩
  rw [e11] at b1
  have m0 : 0 ≤ r * b := Int.mul_nonneg r0 b0
  have m1 : r * b ≤ 2 * b := Int.mul_le_mul_of_nonneg_right (by omega) b0
  walk_at "rds"
  have mk : ∀ (g : Tag) (m : Int), ((g = .command ∧ m = 240) ∨ (g = .answer ∧ m = 200)) → ∀ (H5 : Hp) (z : Str), z.length ≤ m → isPr z = true → Mod A H4 H5 → Dr H5 D A → ∀ t, H5 t = none → Q (.ref t) (upd H5 t (.tup [.str g.s, .int (1 + r * b), .str z])) := fun g m hg H5 z lz pz md5 dr5 t ht => by
    have s5 := same_upd (o := .tup [.str g.s, .int (1 + r * b), .str z]) ht
    have lg : g.s.length ≤ 1000000 := by cases g <;> decide +kernel
    exact q _ _ g _ ((((md12.trans md3).trans md4).trans md5).trans (Same.mod s5)) (dr5.same s5) (.tup (.inl upd_same) (.cons (.str _ lg) (.cons (.int _) (.cons (.str _ (by omega)) .nil)))) (.text hg (by omega) (by omega) pz lz)
  refine ite2 (fun z6 => ?_) (fun z6 => ?_)
  · walk_at "rds"
    refine ⟨D, A, 240, rfl, dr4, by decide, by decide, fun H5 z lz pz md5 dr5 => ?_⟩
    walk_at "rds"
    intro t ht
    exact mk .command 240 (.inl ⟨rfl, rfl⟩) H5 z lz pz md5 dr5 t ht
  · walk_at "rds"
    refine ⟨D, A, 200, rfl, dr4, by decide, by decide, fun H5 z lz pz md5 dr5 => ?_⟩
    walk_at "rds"
    intro t ht
    exact mk .answer 200 (.inr ⟨rfl, rfl⟩) H5 z lz pz md5 dr5 t ht
end

--@SPLIT
/-! ### _law_spoilt -/
theorem LetD.more {g : Tag} {r : List PyData} (h : LetD g r) (x : PyData) : g.f (r ++ [x]) = false := by
  cases h with
  | blk hg hb => rcases hg with rfl | rfl | rfl <;> rfl
  | vouch hc => rfl
  | claim h0 h1 => rfl
  | give hb => rfl
  | text hg n0 n1 pz lz => rcases hg with ⟨rfl, rfl⟩ | ⟨rfl, rfl⟩ <;> rfl
theorem LetD.less {g : Tag} {r : List PyData} (h : LetD g r) : g.f r.dropLast = false := by
  cases h with
  | blk hg hb => rcases hg with rfl | rfl | rfl <;> rfl
  | vouch hc => rfl
  | claim h0 h1 => rfl
  | give hb => rfl
  | text hg n0 n1 pz lz => rcases hg with ⟨rfl, rfl⟩ | ⟨rfl, rfl⟩ <;> rfl
theorem Tag.gen (g : Tag) : g.f [.tuple [.int 0, .int 0, .int 0, .tuple []]] = false := by cases g <;> rfl
theorem LetD.ne {g : Tag} {r : List PyData} (h : LetD g r) : ∃ x s, r = x :: s ∧ s.length ≤ 1 := by
  cases h with
  | blk _ _ => exact ⟨_, _, rfl, Nat.zero_le _⟩
  | vouch _ => exact ⟨_, _, rfl, Nat.zero_le _⟩
  | claim _ _ => exact ⟨_, _, rfl, Nat.zero_le _⟩
  | give _ => exact ⟨_, _, rfl, Nat.le_refl _⟩
  | text _ _ _ _ _ => exact ⟨_, _, rfl, Nat.le_refl _⟩
theorem dBlock_h {e p h : Int} {cs : List PyData} (hb : dBlock (.tuple [.int e, .int p, .int h, .tuple cs]) = true) : 1 ≤ h := by
  have hb : (dInt 1 1000000000000 (.int e) && dInt 0 (e - 1) (.int p) && dHeight p (.int h) && dCmds (.tuple cs)) = true := hb
  rw [Bool.and_eq_true, Bool.and_eq_true] at hb
  have h2 := hb.1.2
  unfold dHeight at h2
  split at h2
  · exact (of_decide_eq_true h2).1
  · have := (of_decide_eq_true h2).1; omega
theorem LetD.zero {g : Tag} {x y : PyData} (h : LetD g [x, y]) : g.f [.int 0, y] = false := by
  generalize hr : [x, y] = r at h
  cases h with
  | blk hg hb => cases hr
  | vouch hc => cases hr
  | claim h0 h1 => cases hr
  | give hb =>
    cases hr
    have := dBlock_h hb
    show (dBlock _ && dInt _ _ (.int 0)) = false
    rw [show dInt (dHtF (.tuple [.int _, .int _, .int _, .tuple _])) (dHtF (.tuple [.int _, .int _, .int _, .tuple _])) (.int 0) = false from decide_eq_false (fun z => by have z1 : dHtF (.tuple [.int _, .int _, .int _, .tuple _]) ≤ 0 := z.1; exact absurd (Int.le_trans this z1) (by decide)), Bool.and_false]
  | text hg n0 n1 pz lz =>
    cases hr
    rcases hg with ⟨rfl, rfl⟩ | ⟨rfl, rfl⟩ <;> rfl
theorem cut_last {x : PyData} (r0 : PyData) (r1 : List PyData) (h : r1.length ≤ 1) : cutD (x :: r0 :: r1) none (some (-1)) = x :: (r0 :: r1).dropLast := by
  match r1, h with
  | [], _ => rfl
  | [y], _ => rfl
  | _ :: _ :: _, h => simp only [List.length_cons] at h; omega
theorem DtAll.le1 {K : PySem.W.Frag} {H : Hp} {A : Option Addr} {xs : List V} {ds : List PyData} (h : DtAll K H A xs ds) (e : ds.length ≤ 1) : (ds = [] ∧ xs = []) ∨ ∃ d x, ds = [d] ∧ xs = [x] ∧ Dt K H A x d := by
  cases h with
  | nil => exact .inl ⟨rfl, rfl⟩
  | cons h1 r => cases r with
    | nil => exact .inr ⟨_, _, rfl, rfl, h1⟩
    | cons _ _ => simp only [List.length_cons] at e; omega
theorem inV_tag (g : Tag) : inV (V.str g.s) [V.str (Str.ofString "command"), V.str (Str.ofString "answer")] = (decide (g = .command) || decide (g = .answer)) := by cases g <;> decide +kernel
theorem LetD.txt {g : Tag} {r : List PyData} (h : LetD g r) (hg : g = .command ∨ g = .answer) : ∃ n z, r = [.int n, .str z] ∧ z.length ≤ 240 := by
  cases h with
  | blk hg' _ => rcases hg' with rfl | rfl | rfl <;> rcases hg with h | h <;> cases h
  | vouch _ => rcases hg with h | h <;> cases h
  | claim _ _ => rcases hg with h | h <;> cases h
  | give _ => rcases hg with h | h <;> cases h
  | text hg' _ _ _ lz => exact ⟨_, _, rfl, by rcases hg' with ⟨_, rfl⟩ | ⟨_, rfl⟩ <;> omega⟩
theorem long_no {g : Tag} {n : Int} {z : Str} (hg : g = .command ∨ g = .answer) (h : 241 ≤ z.length) : g.f [.int n, .str z] = false := by
  have key : ∀ m : Int, m ≤ 240 → (dInt 1 1000000000000 (.int n) && (isPr z && decide ((z.length : Int) ≤ m))) = false := fun m hm => by
    rw [decide_eq_false (by omega), Bool.and_false, Bool.and_false]
  rcases hg with rfl | rfl
  · exact key 240 (by decide)
  · exact key 200 (by decide)
def spSpoil (K : PySem.W.Frag) : Sp := fun vs H Q _ => ∃ (v : V) (D A : Addr) (g : Tag) (r : List PyData), vs = [v, .ref D, .ref A] ∧ Dr H D A ∧ Dt K H (some A) v (.tuple (.str (Tag.s g) :: r)) ∧ LetD g r ∧
  ∀ H' x d, Mod A H H' → Dr H' D A → Dt K H' (some A) x d → LetIs d false → Q x H'
section
variable {P : Program} {w : World} {K : PySem.W.Frag} {mg : Str → Option Value} {base : Heap}
theorem c__law_spoilt {C_Group : Addr} {C_BadGroup : Addr} {C_BadLetter : Addr} {C_FORMS : Addr} (T : Txt K mg w C_Group C_BadGroup C_BadLetter C_FORMS) : Cal P w K mg base 2 "_law_spoilt" (spSpoil K) [] := by
  have c__law_next := c__law_next (P := P) (w := w) (base := base) T
  refine cal T.d__law_spoilt sc__law_spoilt (fun vs H Q E h => ?_) (fun f cdv A' outer s H vs Q E hr h => ?_)
  · obtain ⟨v, D, A, g, r, rfl, _⟩ := h; rfl
  obtain ⟨v, D, A, g, r, rfl, dr, hv, ld, q⟩ := h
  refine ⟨_, (pss_cons (ps_set (i := 3) sc__law_spoilt.nd rfl (Or.inl rfl) (pe_c c__law_next hr (by decide) (by rfl) (pa_cons (pv 1) (pa_cons (pv 2) (pa_cons pe_int pa_nil)))))
      (pss_cons (ps_if (pt_cmpR op_eq (pv 3) pe_int (nomark _)) (pss_one (ps_ret (pe_tup (pa_cons pe_str (pa_cons (pe_ix (kixt (K := K)) (pv 0) pe_int (fun _ _ => rfl)) pa_nil))))) pss_nil)
      (pss_cons (ps_if (pt_cmpR op_eq (pv 3) pe_int (nomark _)) (pss_one (ps_ret (pe_op op_catA (pv 0) (pe_tup (pa_cons (pe_ix (kixt (K := K)) (pv 0) pe_int (fun _ _ => rfl)) pa_nil))))) pss_nil)
      (pss_cons (ps_if (pt_cmpR op_eq (pv 3) pe_int (nomark _)) (pss_one (ps_ret (pe_slice sl_tupA (pv 0) po_none (po_some (pe_un un_neg pe_int))))) pss_nil)
      (pss_cons (ps_if (pt_cmpR op_eq (pv 3) pe_int (nomark _)) (pss_one (ps_ret (pe_lst (pa_cons (pe_ix (kixt (K := K)) (pv 0) pe_int (fun _ _ => rfl)) (pa_cons (pe_ix (kixt (K := K)) (pv 0) pe_int (fun _ _ => rfl)) pa_nil))))) pss_nil)
      (pss_cut (ps_if (PW.pt (pw_and (pt_cmpR op_eq (pv 3) pe_int (nomark _)) (pw_and1 (pt_cmpR op_eq (pe_ix (kixt (K := K)) (pv 0) pe_int (fun _ _ => rfl)) pe_str (nomark _))))) (pss_one (ps_ret (pe_tup (pa_cons pe_str (pa_cons (pe_op op_add (pe_ix (kixt (K := K)) (pv 0) pe_int (fun _ _ => rfl)) pe_int) (pa_cons (pe_ix (kixt (K := K)) (pv 0) pe_int (fun _ _ => rfl)) pa_nil)))))) pss_nil)
      (pss_cons (ps_if (pt_cmpR op_eq (pv 3) pe_int (nomark _)) (pss_one (ps_ret (pe_tup (pa_cons (pe_ix (kixt (K := K)) (pv 0) pe_int (fun _ _ => rfl)) (pa_cons (pe_tup (pa_cons pe_int (pa_cons pe_int (pa_cons pe_int (pa_cons (pe_tup pa_nil) pa_nil))))) pa_nil))))) pss_nil)
      (pss_cut (ps_if (PW.pt (pw_and (pt_cmpR op_eq (pv 3) pe_int (nomark _)) (pw_and1 (pt_cmpR op_eq (pe_callB (klen (K := K)) (by rfl) T.z_len (by decide +kernel) (pa_cons (pv 0) pa_nil)) pe_int (nomark _))))) (pss_one (ps_ret (pe_tup (pa_cons (pe_ix (kixt (K := K)) (pv 0) pe_int (fun _ _ => rfl)) (pa_cons pe_int (pa_cons (pe_ix (kixt (K := K)) (pv 0) pe_int (fun _ _ => rfl)) pa_nil)))))) pss_nil)
      (pss_cut (ps_if (PW.pt (pw_and (pt_cmpR op_eq (pv 3) pe_int (nomark _)) (pw_and1 (pt_cmpR (kin (K := K)) (pe_ix (kixt (K := K)) (pv 0) pe_int (fun _ _ => rfl)) (pe_lst (pa_cons pe_str (pa_cons pe_str pa_nil))) (by rfl))))) (pss_one (ps_ret (pe_tup (pa_cons (pe_ix (kixt (K := K)) (pv 0) pe_int (fun _ _ => rfl)) (pa_cons (pe_ix (kixt (K := K)) (pv 0) pe_int (fun _ _ => rfl)) (pa_cons (pe_op op_add_str (pe_ix (kixt (K := K)) (pv 0) pe_int (fun _ _ => rfl)) (pe_op op_mul_str pe_str pe_int)) pa_nil)))))) pss_nil)
      (pss_one (ps_ret (pe_op op_catA (pe_tup (pa_cons pe_int pa_nil)) (pe_slice sl_tupA (pv 0) (po_some pe_int) po_none))))))))))))), ?_⟩
  walk_at "rds"
  refine ⟨D, A, 9, rfl, dr, by decide, fun H1 c c0 c1 md1 dr1 => ?_⟩
  have hv1 := hv.by md1 dr
  have q : ∀ H' x d, Same H1 H' → Dt K H' (some A) x d → LetIs d false → Q x H' := fun H' x d s hx li => q H' x d (md1.trans (Same.mod s)) (dr1.same s) hx li
  clear dr hv md1
  obtain ⟨a, xs, ds, rfl, e0, ha, hx⟩ : ∃ a xs ds, v = .ref a ∧ PyData.tuple (.str g.s :: r) = .tuple ds ∧ TupAt K H1 a xs ∧ DtAll K H1 (some A) xs ds := by
    cases hv1 with
    | tup ha hx => exact ⟨_, _, _, rfl, rfl, ha, hx⟩
  cases e0
  obtain ⟨r0, r1, rfl, lr1⟩ := ld.ne
  obtain ⟨y0, y1, rfl, hy0, hy1⟩ : ∃ y0 y1, xs = .str g.s :: y0 :: y1 ∧ Dt K H1 (some A) y0 r0 ∧ DtAll K H1 (some A) y1 r1 := by
    cases hx with
    | cons h1 hx => cases h1; cases hx with
      | cons h2 hx => exact ⟨_, _, rfl, h2, hx⟩
  have lg : g.s.length ≤ 1000000 := by cases g <;> decide +kernel
  walk_at "rds"
  refine ite2 (fun z => ?_) (fun z => ?_)
  · walk_at "rds"
    refine ⟨a, _, 1, _, rfl, rfl, ha.sq, atI_nat (j := 1) rfl, ?_⟩
    walk_at "rds"
    intro t ht
    have s1 := same_upd (o := .tup [.str (Str.ofString ""), y0]) ht
    exact q _ _ _ s1 (.tup (.inl upd_same) (.cons (.str _ (by decide +kernel)) (.cons (hy0.on s1) .nil))) (.none _)
  walk_at "rds"
  refine ite2 (fun z => ?_) (fun z => ?_)
  · walk_at "rds"
    refine ⟨a, _, 1, _, rfl, rfl, ha.sq, atI_nat (j := 1) rfl, ?_⟩
    walk_at "rds"
    intro t ht
    have s1 := same_upd (o := .tup [y0]) ht
    refine cat_dt (hv1.on s1) (.tup (.inl upd_same) (.cons (hy0.on s1) .nil)) (by simp only [List.length_cons, List.length_nil]; omega) (fun H' v' s' dv => ?_)
    have li := LetIs.tag g (r0 :: r1 ++ [r0])
    rw [ld.more r0] at li
    exact q _ _ _ (s1.trans s') dv li
  walk_at "rds"
  refine ite2 (fun z => ?_) (fun z => ?_)
  · walk_at "rds"
    delta tNoPart
    refine sl_dt (A := some A) ha hx (fun H' v' s' dv => ?_)
    rw [cut_last r0 r1 lr1] at dv
    have li := LetIs.tag g (r0 :: r1).dropLast
    rw [ld.less] at li
    exact q _ _ _ s' dv li
  walk_at "rds"
  refine ite2 (fun z => ?_) (fun z => ?_)
  · walk_at "rds"
    refine ⟨a, _, 0, _, rfl, rfl, ha.sq, atI_nat (j := 0) rfl, ?_⟩
    walk_at "rds"
    refine ⟨a, _, 1, _, rfl, rfl, ha.sq, atI_nat (j := 1) rfl, ?_⟩
    walk_at "rds"
    intro t ht
    have s1 := same_upd (o := .lst [.str g.s, y0]) ht
    exact q _ _ _ s1 (.lst (fun z => by rw [z] at ht; obtain ⟨_, _, _, _, e, _⟩ := id dr1; rw [e] at ht; cases ht) upd_same (.cons (.str _ lg) (.cons (hy0.on s1) .nil))) (.lst _)
  refine ⟨fun σ' H' => σ' = [some (.ref a), some (.ref D), some (.ref A), some (.int c)] ∧ H' = H1, ?_, ?_⟩
  · walk_at "rds"
    refine ite2 (fun z => ?_) (fun z => ?_)
    · walk_at "rds"
      refine ⟨a, _, 0, _, rfl, rfl, ha.sq, atI_nat (j := 0) rfl, ?_⟩
      walk_at "rds"
      refine (show (if decide (V.str g.s = V.str (Tag.s .give)) = true then _ else _ : Prop) from ?_)
      rw [tag_eq]
      by_cases e1 : g = .give
      · subst e1
        refine ifT (decide_eq_true rfl) ?_
        obtain ⟨e, p, h, cs, rfl, rfl, hb⟩ : ∃ e p h cs, r0 = .int h ∧ r1 = [.tuple [.int e, .int p, .int h, .tuple cs]] ∧ dBlock (.tuple [.int e, .int p, .int h, .tuple cs]) = true := by
          generalize hr : r0 :: r1 = r at ld
          generalize hg : Tag.give = gg at ld
          cases ld with
          | blk hg' _ => subst hg; rcases hg' with h | h | h <;> cases h
          | vouch _ => cases hg
          | claim _ _ => cases hg
          | give hb => cases hr; exact ⟨_, _, _, _, rfl, rfl, hb⟩
          | text hg' _ _ _ _ => subst hg; rcases hg' with ⟨h, _⟩ | ⟨h, _⟩ <;> cases h
        cases hy0
        obtain ⟨y, rfl, hy⟩ : ∃ y, y1 = [y] ∧ Dt K H1 (some A) y (.tuple [.int e, .int p, .int h, .tuple cs]) := by
          cases hy1 with
          | cons h1 r => cases r; exact ⟨_, rfl, h1⟩
        walk_at "rds"
        refine ⟨a, _, 1, _, rfl, rfl, ha.sq, atI_nat (j := 1) rfl, ?_⟩
        walk_at "rds"
        refine ⟨a, _, 2, _, rfl, rfl, ha.sq, atI_nat (j := 2) rfl, ?_⟩
        walk_at "rds"
        intro t ht
        have s1 := same_upd (o := .tup [.str (Str.ofString "give"), .int (h + 1), y]) ht
        have li := LetIs.tag .give [.int (h + 1), .tuple [.int e, .int p, .int h, .tuple cs]]
        rw [show Tag.give.f [.int (h + 1), .tuple [.int e, .int p, .int h, .tuple cs]] = false from by
          show (dBlock _ && decide (h ≤ h + 1 ∧ h + 1 ≤ h)) = false
          rw [decide_eq_false (by omega), Bool.and_false]] at li
        exact q _ _ _ s1 (.tup (.inl upd_same) (.cons (.str _ (by decide +kernel)) (.cons (.int _) (.cons (hy.on s1) .nil)))) li
      · refine ifF (decide_eq_false e1) ?_
        exact ⟨rfl, rfl⟩
    · exact ⟨rfl, rfl⟩
  rintro σ' Hc ⟨rfl, eH⟩
  obtain rfl := eH.symm
  walk_at "rds"
  refine ite2 (fun z => ?_) (fun z => ?_)
  · walk_at "rds"
    refine ⟨a, _, 0, _, rfl, rfl, ha.sq, atI_nat (j := 0) rfl, ?_⟩
    walk_at "rds"
    intro t1 ht1
    walk_at "rds"
    intro t2 ht2
    walk_at "rds"
    intro t ht
    have u1 := same_upd (o := .tup []) ht1
    have u2 := same_upd (o := .tup [.int 0, .int 0, .int 0, .ref t1]) ht2
    have u3 := same_upd (o := .tup [.str g.s, .ref t2]) ht
    have d1 : Dt K (upd H1 t1 (.tup [])) (some A) (.ref t1) (.tuple []) := .tup (.inl upd_same) .nil
    have d2 : Dt K (upd (upd H1 t1 (.tup [])) t2 (.tup [.int 0, .int 0, .int 0, .ref t1])) (some A) (.ref t2) (.tuple [.int 0, .int 0, .int 0, .tuple []]) := .tup (.inl upd_same) (.cons (.int _) (.cons (.int _) (.cons (.int _) (.cons (d1.on u2) .nil))))
    have li := LetIs.tag g [.tuple [.int 0, .int 0, .int 0, .tuple []]]
    rw [g.gen] at li
    exact q _ _ _ (u1.trans (u2.trans u3)) (.tup (.inl upd_same) (.cons (.str _ lg) (.cons (d2.on u3) .nil))) li
  refine ⟨fun σ' H' => σ' = [some (.ref a), some (.ref D), some (.ref A), some (.int c)] ∧ H' = H1, ?_, ?_⟩
  · walk_at "rds"
    refine ite2 (fun z => ?_) (fun z => ?_)
    · walk_at "rds"
      refine ⟨a, _, rfl, .inr ha.sq, ?_⟩
      walk_at "rds"
      rcases hy1.le1 lr1 with ⟨rfl, rfl⟩ | ⟨d2, y2, rfl, rfl, hy2⟩
      · refine ifF (len_ne (show ((2 : Nat) : Int) ≠ 3 by decide)) ?_
        exact ⟨rfl, rfl⟩
      · refine ifT (decide_eq_true rfl) ?_
        walk_at "rds"
        refine ⟨a, _, 0, _, rfl, rfl, ha.sq, atI_nat (j := 0) rfl, ?_⟩
        walk_at "rds"
        refine ⟨a, _, 2, _, rfl, rfl, ha.sq, atI_nat (j := 2) rfl, ?_⟩
        walk_at "rds"
        intro t ht
        have s1 := same_upd (o := .tup [.str g.s, .int 0, y2]) ht
        have li := LetIs.tag g [.int 0, d2]
        rw [ld.zero] at li
        exact q _ _ _ s1 (.tup (.inl upd_same) (.cons (.str _ lg) (.cons (.int _) (.cons (hy2.on s1) .nil)))) li
    · exact ⟨rfl, rfl⟩
  rintro σ' Hc ⟨rfl, eH⟩
  obtain rfl := eH.symm
  refine ⟨fun σ' H' => σ' = [some (.ref a), some (.ref D), some (.ref A), some (.int c)] ∧ Same H1 H', ?_, ?_⟩
  · walk_at "rds"
    refine ite2 (fun z => ?_) (fun z => ?_)
    · walk_at "rds"
      refine ⟨a, _, 0, _, rfl, rfl, ha.sq, atI_nat (j := 0) rfl, ?_⟩
      walk_at "rds"
      intro l hl
      have sl := same_upd (o := .lst [.str (Str.ofString "command"), .str (Str.ofString "answer")]) hl
      have el : upd H1 l (.lst [.str (Str.ofString "command"), .str (Str.ofString "answer")]) l = some (.lst [.str (Str.ofString "command"), .str (Str.ofString "answer")]) := upd_same
      generalize upd H1 l (.lst [.str (Str.ofString "command"), .str (Str.ofString "answer")]) = H2 at sl el
      refine ⟨l, _, rfl, .inl (sq el), rfl, rfl, ?_⟩
      rw [if_neg (by decide), inV_tag]
      by_cases hg : g = .command ∨ g = .answer
      · obtain ⟨n, zt, er, lz⟩ := ld.txt hg
        cases er
        cases hy0
        obtain ⟨y2, rfl, hy2⟩ : ∃ y, y1 = [y] ∧ Dt K H1 (some A) y (.str zt) := by
          cases hy1 with
          | cons h1 r => cases r; exact ⟨_, rfl, h1⟩
        cases hy2
        refine ⟨_, rfl, ?_⟩
        refine ifT (by rcases hg with rfl | rfl <;> rfl) ?_
        walk_at "rds"
        have ha2 := ha.same sl
        refine ⟨a, _, 0, _, rfl, rfl, ha2.sq, atI_nat (j := 0) rfl, ?_⟩
        walk_at "rds"
        refine ⟨a, _, 1, _, rfl, rfl, ha2.sq, atI_nat (j := 1) rfl, ?_⟩
        walk_at "rds"
        refine ⟨a, _, 2, _, rfl, rfl, ha2.sq, atI_nat (j := 2) rfl, ?_⟩
        walk_at "rds"
        have lm : (PySem.Txt.mul (Str.ofString "a") 241).length = 241 := by decide +kernel
        have ll : (zt ++ PySem.Txt.mul (Str.ofString "a") 241).length = zt.length + 241 := by rw [Str.length_append, lm]
        generalize zt ++ PySem.Txt.mul (Str.ofString "a") 241 = zz at ll
        intro t ht
        have s1 := same_upd (o := .tup [.str g.s, .int n, .str zz]) ht
        have li := LetIs.tag g [.int n, .str zz]
        rw [long_no hg (by omega)] at li
        exact q _ _ _ (sl.trans s1) (.tup (.inl upd_same) (.cons (.str _ lg) (.cons (.int _) (.cons (.str _ (by omega)) .nil)))) li
      · refine ⟨_, rfl, ?_⟩
        refine ifF (by rw [decide_eq_false (fun z => hg (.inl z)), decide_eq_false (fun z => hg (.inr z))]; rfl) ?_
        exact ⟨rfl, sl⟩
    · exact ⟨rfl, Same.refl _⟩
  rintro σ' H2 ⟨rfl, s2⟩
  walk_at "rds"
  intro t ht
  have s1 := same_upd (o := .tup [.int 7]) ht
  have e7 : upd H2 t (.tup [.int 7]) t = some (.tup [.int 7]) := upd_same
  generalize upd H2 t (.tup [.int 7]) = H3 at s1 e7
  have s3 := s2.trans s1
  walk_at "rds"
  delta tNoPart
  refine sl_dt (A := some A) (ha.same s3) (hx.on s3) (fun H' v' s' dv => ?_)
  rw [show cutD (PyData.str g.s :: r0 :: r1) (some 1) none = r0 :: r1 from (cutD_drop _ 1).trans rfl] at dv
  refine cat_dt (ds := [.int 7]) (.tup (.inl (s' _ _ e7)) (.cons (.int _) .nil)) dv (by simp only [List.length_cons, List.length_nil]; omega) (fun H4 v4 s4 d4 => ?_)
  exact q _ _ _ (s3.trans (s'.trans s4)) d4 (.int 7 _)
end

/-! ### the same with the list that may change told by the call -/
def spEx (sp : Option Addr → Sp) : Sp := fun vs H Q E => ∃ A, sp A vs H Q E
section
variable {P : Program} {w : World} {K : PySem.W.Frag} {mg : Str → Option Value} {base : Heap}
theorem c_is_letterE {C_Group : Addr} {C_BadGroup : Addr} {C_BadLetter : Addr} {C_FORMS : Addr} (T : Txt K mg w C_Group C_BadGroup C_BadLetter C_FORMS) : Cal P w K mg base 7 "is_letter" (spEx fun A => spLet K A) [] := by
  refine cal T.d_is_letter sc_is_letter (fun vs H Q E h => ?_) (fun f cdv A' outer s H vs Q E hr h => ?_)
  · obtain ⟨A, v, d, b, rfl, _⟩ := h; rfl
  obtain ⟨A, h⟩ := h
  have tf := tag_fn (P := P) (w := w) (base := base) T A
  obtain ⟨v, d, b, rfl, hv, li, q⟩ := h
  refine ⟨_, (pss_cons (ps_if (PW.pt (pw_or (pt_not (pt_val (pe_callB (kisi (K := K)) (by rfl) T.z_isinstance (by decide +kernel) (pa_cons (pv 0) (pa_cons (pe_bltn (v := .ty "tuple") (by rfl) T.z_tuple (by decide +kernel) rfl) pa_nil))))) (pw_or1 (pt_cmpR op_eq (pe_callB (klen (K := K)) (by rfl) T.z_len (by decide +kernel) (pa_cons (pv 0) pa_nil)) pe_int (nomark _))))) (pss_one (ps_ret pe_bl)) pss_nil)
      (pss_cons (ps_if (PW.pt (pw_or (pt_not (pt_val (pe_callB (kisi (K := K)) (by rfl) T.z_isinstance (by decide +kernel) (pa_cons (pe_ix (kixt (K := K)) (pv 0) pe_int (fun _ _ => rfl)) (pa_cons (pe_bltn (v := .ty "str") (by rfl) T.z_str (by decide +kernel) rfl) pa_nil))))) (pw_or1 (pt_cmpR (kdnin T.kd_FORMS) (pe_ix (kixt (K := K)) (pv 0) pe_int (fun _ _ => rfl)) (pe_gc (v := .ref C_FORMS) (by rfl) ⟨_, T.g_FORMS, rfl⟩) (by rfl))))) (pss_one (ps_ret pe_bl)) pss_nil)
      (pss_cons (ps_set (i := 1) sc_is_letter.nd rfl (Or.inl rfl) (pe_ix ix_kdict (pe_gc (v := .ref C_FORMS) (by rfl) ⟨_, T.g_FORMS, rfl⟩) (pe_ix (kixt (K := K)) (pv 0) pe_int (fun _ _ => rfl)) (fun _ _ => rfl)))
      (pss_one (ps_ret (pe_cvW (i := 1) hr (by rfl) (by first | exact Or.inl rfl | exact Or.inr (Or.inl rfl) | exact Or.inr (Or.inr rfl)) (pa_cons (pe_slice sl_tupA (pv 0) (po_some pe_int) po_none) pa_nil))))))), ?_⟩
  have q0 := q H (Same.refl _)
  cases li with
  | lst r =>
    walk_at "rds"
    refine ⟨_, .ty _, _, _, false, rfl, .ty _, hv.ty, kit_ty (show kitB "list" "tuple" = some false by decide +kernel), ?_⟩
    walk_at "rds"
    exact q0
  | empty =>
    cases hv with
    | tup ha hx =>
      cases hx
      walk_at "rds"
      refine ⟨_, .ty _, _, _, true, rfl, .ty _, ha.ty, kit_ty (by decide +kernel), ?_⟩
      walk_at "rds"
      refine ⟨_, _, rfl, .inr ha.sq, ?_⟩
      walk_at "rds"
      exact q0
  | int i r =>
    cases hv with
    | tup ha hx =>
      rename_i a xs
      have hl := hx.length
      cases hx with
      | cons h1 hx =>
        cases h1
        rename_i ys
        walk_at "rds"
        refine ⟨_, .ty _, _, _, true, rfl, .ty _, ha.ty, kit_ty (by decide +kernel), ?_⟩
        walk_at "rds"
        refine ⟨_, _, rfl, .inr ha.sq, ?_⟩
        walk_at "rds"
        refine ⟨a, _, 0, _, rfl, rfl, ha.sq, atI_nat (j := 0) rfl, ?_⟩
        walk_at "rds"
        refine ⟨_, .ty _, _, _, false, rfl, .ty _, .base (.int _), kit_ty (by decide +kernel), ?_⟩
        walk_at "rds"
        exact q0
  | none r =>
    cases hv with
    | tup ha hx =>
      rename_i a xs
      cases hx with
      | cons h1 hx =>
        cases h1
        rename_i ys _
        walk_at "rds"
        refine ⟨_, .ty _, _, _, true, rfl, .ty _, ha.ty, kit_ty (by decide +kernel), ?_⟩
        walk_at "rds"
        refine ⟨_, _, rfl, .inr ha.sq, ?_⟩
        walk_at "rds"
        refine ⟨a, _, 0, _, rfl, rfl, ha.sq, atI_nat (j := 0) rfl, ?_⟩
        walk_at "rds"
        refine ⟨_, .ty _, _, _, true, rfl, .ty _, .base (.str _), kit_ty (by decide +kernel), ?_⟩
        walk_at "rds"
        refine ⟨a, _, 0, _, rfl, rfl, ha.sq, atI_nat (j := 0) rfl, ?_⟩
        walk_at "rds"
        refine ⟨_, none, rfl, rfl, T.km_FORMS_0, ?_⟩
        walk_at "rds"
        exact q0
  | tag g r =>
    obtain ⟨fg, kg, hkg, cg, kd⟩ := tf g
    cases hv with
    | tup ha hx =>
      rename_i a xs
      cases hx with
      | cons h1 hx =>
        cases h1
        rename_i ys lz
        walk_at "rds"
        refine ⟨_, .ty _, _, _, true, rfl, .ty _, ha.ty, kit_ty (by decide +kernel), ?_⟩
        walk_at "rds"
        refine ⟨_, _, rfl, .inr ha.sq, ?_⟩
        walk_at "rds"
        refine ⟨a, _, 0, _, rfl, rfl, ha.sq, atI_nat (j := 0) rfl, ?_⟩
        walk_at "rds"
        refine ⟨_, .ty _, _, _, true, rfl, .ty _, .base (.str _), kit_ty (by decide +kernel), ?_⟩
        walk_at "rds"
        refine ⟨a, _, 0, _, rfl, rfl, ha.sq, atI_nat (j := 0) rfl, ?_⟩
        walk_at "rds"
        obtain ⟨_, _, _, l1, kl1, v1, r1⟩ := id kd
        refine ⟨_, some _, rfl, rfl, v1, ?_⟩
        walk_at "rds"
        refine ⟨a, _, 0, _, rfl, rfl, ha.sq, atI_nat (j := 0) rfl, ?_⟩
        refine ⟨_, _, _, rfl, rfl, kd, ?_⟩
        refine ⟨fg, _, kg, by omega, rfl, cg, ?_⟩
        walk_at "rds"
        delta tNoPart
        refine sl_dt (A := A) ha (.cons (.str _ lz) hx) (fun H' v s' dv => ?_)
        rw [show cutD (PyData.str g.s :: r) (some 1) none = r from (cutD_drop _ 1).trans rfl] at dv
        exact ⟨v, r, rfl, dv, fun H2 s2 => q _ (s'.trans s2)⟩
theorem c__law_routeE {C_Group : Addr} {C_BadGroup : Addr} {C_BadLetter : Addr} {C_FORMS : Addr} (T : Txt K mg w C_Group C_BadGroup C_BadLetter C_FORMS) : Cal P w K mg base 9 "_law_route" (spEx fun A => spLRoute K A) [] := by
  refine cal T.d__law_route sc__law_route (fun vs H Q E h => ?_) (fun f cdv A' outer s H vs Q E hr h => ?_)
  · obtain ⟨A, v, d, b, rfl, _⟩ := h; rfl
  obtain ⟨A, h⟩ := h
  have c_route := c_route (P := P) (w := w) (base := base) T A
  obtain ⟨v, d, b, rfl, hv, li, q, qe⟩ := h
  refine ⟨_, (pss_one (ps_try_only (Wout := fun _ _ _ _ => False) rfl rfl ⟨by rfl, by decide, .inl T.x_BadLetter.g⟩ takes0 (fun W pn xe tk po => (pss_one (ps_ret (pe_cX c_route hr (by decide) (by rfl) (fun σ => passAt tk σ) (pa_cons (pv 0) pa_nil))))) (fun a oe cls d pn _ _ => (pss_one (ps_ret pe_non))))), ?_⟩
  walk_at "rds"
  refine ⟨v, d, b, rfl, hv, li, fun g r e1 e2 H1 s1 => q g r e1 e2 _ s1, fun eb H1 s1 => ?_⟩
  refine ⟨true, T.x_BadLetter.exm T.u_BadLetter_BadLetter, fun _ a ha => ?_, fun z => nomatch z⟩
  walk_at "rds"
  exact qe eb _ s1
theorem c__law_checkedE {C_Group : Addr} {C_BadGroup : Addr} {C_BadLetter : Addr} {C_FORMS : Addr} (T : Txt K mg w C_Group C_BadGroup C_BadLetter C_FORMS) : Cal P w K mg base 10 "_law_checked" (spEx fun A => spLCheck K A C_Group) [] := by
  refine cal T.d__law_checked sc__law_checked (fun vs H Q E h => ?_) (fun f cdv A' outer s H vs Q E hr h => ?_)
  · obtain ⟨A, p, n, s, r, v, ds, dr, d, b, ok, rfl, _⟩ := h; rfl
  obtain ⟨A, h⟩ := h
  have c_check_letter := c_check_letter (P := P) (w := w) (base := base) T A
  obtain ⟨p, n, sv, rv, v, ds, dr, d, b, ok, rfl, hg, hs, hrv, hv, li, hb, hok, q, qe⟩ := h
  refine ⟨_, (pss_one (ps_try_only (Wout := fun _ _ _ _ => False) rfl rfl ⟨by rfl, by decide, .inl T.x_BadLetter.g⟩ takes0 (fun W pn xe tk po => (pss_one (ps_ret (pe_cX c_check_letter hr (by decide) (by rfl) (fun σ => passAt tk σ) (pa_cons (pv 0) (pa_cons (pv 1) (pa_cons (pv 2) (pa_cons (pv 3) pa_nil)))))))) (fun a oe cls d pn _ _ => (pss_one (ps_ret pe_non))))), ?_⟩
  walk_at "rds"
  refine ⟨p, n, sv, rv, v, ds, dr, d, b, ok, rfl, hg, hs, hrv, hv, li, hb, hok, fun e H1 s1 => q e _ s1, fun eb H1 s1 => ?_⟩
  refine ⟨true, T.x_BadLetter.exm T.u_BadLetter_BadLetter, fun _ a ha => ?_, fun z => nomatch z⟩
  walk_at "rds"
  exact qe eb _ s1
theorem c__law_fitsE {C_Group : Addr} {C_BadGroup : Addr} {C_BadLetter : Addr} {C_FORMS : Addr} (T : Txt K mg w C_Group C_BadGroup C_BadLetter C_FORMS) : Cal P w K mg base 2 "_law_fits" (spEx fun A => spFits K A) [] := by
  refine cal T.d__law_fits sc__law_fits (fun vs H Q E h => ?_) (fun f cdv A' outer s H vs Q E hr h => ?_)
  · obtain ⟨A, g, s, r, n, ds, dr, rfl, _⟩ := h; rfl
  obtain ⟨A, h⟩ := h
  have c__law_machine := c__law_machine (P := P) (w := w) (base := base) T A
  have c__law_client := c__law_client (P := P) (w := w) (base := base) T A
  obtain ⟨g, sv, rv, n, ds, dr, rfl, hs, hrv, q⟩ := h
  refine ⟨_, (pss_cons (ps_if (pt_cmpR op_eq (pv 0) pe_str (nomark _)) (pss_one (ps_ret (pe_and (pe_c c__law_client hr (by decide) (by rfl) (pa_cons (pv 1) pa_nil)) (pe_one (pe_c c__law_machine hr (by decide) (by rfl) (pa_cons (pv 2) (pa_cons (pv 3) pa_nil))))))) pss_nil)
      (pss_cons (ps_if (pt_cmpR op_eq (pv 0) pe_str (nomark _)) (pss_one (ps_ret (pe_and (pe_c c__law_machine hr (by decide) (by rfl) (pa_cons (pv 1) (pa_cons (pv 3) pa_nil))) (pe_one (pe_c c__law_client hr (by decide) (by rfl) (pa_cons (pv 2) pa_nil)))))) pss_nil)
      (pss_one (ps_ret (pe_and (pe_c c__law_machine hr (by decide) (by rfl) (pa_cons (pv 1) (pa_cons (pv 3) pa_nil))) (pe_one (pe_c c__law_machine hr (by decide) (by rfl) (pa_cons (pv 2) (pa_cons (pv 3) pa_nil))))))))), ?_⟩
  by_cases e1 : g = .command
  · subst e1
    walk_at "rds"
    refine ⟨sv, ds, rfl, hs, ?_⟩
    refine ⟨_, rfl, ?_⟩
    have q : Q (.bl (dInt (-100) (-1) ds && dInt 0 (3 * n + 1 - 1) dr)) H := q
    cases z : dInt (-100) (-1) ds with
    | false => rw [z] at q; refine ifF rfl ?_; exact q
    | true =>
      rw [z] at q
      refine ifT rfl ?_
      walk_at "rds"
      exact ⟨rv, _, dr, rfl, hrv, q⟩
  by_cases e2 : g = .answer
  · subst e2
    walk_at "rds"
    refine ⟨sv, _, ds, rfl, hs, ?_⟩
    refine ⟨_, rfl, ?_⟩
    have q : Q (.bl (dInt 0 (3 * n + 1 - 1) ds && dInt (-100) (-1) dr)) H := q
    cases z : dInt 0 (3 * n + 1 - 1) ds with
    | false => rw [z] at q; refine ifF rfl ?_; exact q
    | true =>
      rw [z] at q
      refine ifT rfl ?_
      walk_at "rds"
      exact ⟨rv, dr, rfl, hrv, q⟩
  have ew : wayT g = "machine" := by cases g <;> first | rfl | exact absurd rfl e1 | exact absurd rfl e2
  have ef : fitsT g n ds dr = (dInt 0 (3 * n + 1 - 1) ds && dInt 0 (3 * n + 1 - 1) dr) := by cases g <;> first | rfl | exact absurd rfl e1 | exact absurd rfl e2
  rw [ef] at q
  rw [ew]
  walk_at "rds"
  refine ⟨sv, _, ds, rfl, hs, ?_⟩
  refine ⟨_, rfl, ?_⟩
  cases z : dInt 0 (3 * n + 1 - 1) ds with
  | false => rw [z] at q; refine ifF rfl ?_; exact q
  | true =>
    rw [z] at q
    refine ifT rfl ?_
    walk_at "rds"
    exact ⟨rv, _, dr, rfl, hrv, q⟩
end

--@SPLIT
/-! ### the law -/
theorem cmd_ly {d : PyData} (h : dCmd d = true) : Ly 1 d := ⟨(lay_cmd h).1, Nat.le_of_eq (lay_cmd h).2⟩
theorem block_ly {d : PyData} (hb : dBlock d = true) : Ly 3 d := by
  obtain ⟨e, p, h, cs, rfl⟩ := dBlock_inv hb
  have hb : (dInt 1 1000000000000 (.int e) && dInt 0 (e - 1) (.int p) && dHeight p (.int h) && dCmdsFrom none cs) = true := hb
  rw [Bool.and_eq_true] at hb
  obtain ⟨i1, i2⟩ := lay_cmds hb.2
  refine ly_tup (k := 2) (ly_cons (ly_int _) (ly_cons (ly_int _) (ly_cons (ly_int _) (ly_cons ⟨?_, ?_⟩ ly_nil))))
  · rw [PyData.canLay0]; exact i1
  · rw [PyData.depth]; omega
theorem tag_str (g : Tag) : PyData.strOk g.s = true := by cases g <;> decide +kernel
theorem LetD.ly {g : Tag} {r : List PyData} (h : LetD g r) : Ly 20 (.tuple (.str g.s :: r)) := by
  have key : ∀ d ∈ r, Ly 3 d := by
    cases h with
    | blk hg hb => exact ly_cons (block_ly hb) ly_nil
    | vouch hc => exact ly_cons ((cmd_ly hc).mono (by decide)) ly_nil
    | claim _ _ => exact ly_cons (ly_int _) ly_nil
    | give hb => exact ly_cons (ly_int _) (ly_cons (block_ly hb) ly_nil)
    | text _ _ _ pz _ => exact ly_cons (ly_int _) (ly_cons (ly_str (strOk_pr pz)) ly_nil)
  exact (ly_tup (ly_cons (ly_str (tag_str g)) key)).mono (by decide)
theorem GrAt.mod {C : Addr} {H H' : Hp} {p A D : Addr} {n : Int} (h : GrAt C H p n) (s : Mod A H H') (dr : Dr H D A) : GrAt C H' p n := h.imp fun _ e => by
  obtain ⟨_, _, _, _, ea, _⟩ := id dr
  exact s _ _ (ne_of e ea (by intro z; cases z)) e
section
variable {P : Program} {w : World} {K : PySem.W.Frag} {mg : Str → Option Value} {base : Heap}
theorem ok_law {C_Group : Addr} {C_BadGroup : Addr} {C_BadLetter : Addr} {C_FORMS : Addr} {f : Addr} {fd : FuncData} (F : L2.Fun K "law" "law" s_law f fd) (T : Txt K mg w C_Group C_BadGroup C_BadLetter C_FORMS) : FnOk P w K mg base L2.CX0 12 f fd ["script"] (spLaw K) := by
  have c__law_draws := c__law_draws (P := P) (w := w) (base := base) T
  have c__law_next := c__law_next (P := P) (w := w) (base := base) T
  have c__law_letter := c__law_letter (P := P) (w := w) (K := K) (base := base) T
  have c__law_spoilt := c__law_spoilt (P := P) (w := w) (K := K) (base := base) T
  have c__law_end := c__law_end (P := P) (w := w) (K := K) (base := base) T
  have c__law_truth := c__law_truth (P := P) (w := w) (base := base) T
  have k_Group := k_Group (P := P) (w := w) (base := base) T
  have c_is_letter := c_is_letterE (P := P) (w := w) (K := K) (base := base) T
  have c__law_route := c__law_routeE (P := P) (w := w) (K := K) (base := base) T
  have c__law_checked := c__law_checkedE (P := P) (w := w) (K := K) (base := base) T
  have c__law_fits := c__law_fitsE (P := P) (w := w) (K := K) (base := base) T
  refine F.ok sc_law (fun vs H Q E h => ?_) (fun cdv A' outer s H vs Q E hr h => ?_)
  · obtain ⟨a, ns, rfl, _⟩ := h; rfl
  obtain ⟨a, ns, rfl, hS, hlen, q⟩ := h
  refine ⟨_, (pss_cons (ps_set (i := 1) sc_law.nd rfl (Or.inl rfl) (pe_c c__law_draws hr (by decide) (by rfl) (pa_cons (pv 0) pa_nil)))
      (pss_cons (ps_set (i := 2) sc_law.nd rfl (Or.inl rfl) (pe_lst (pa_cons pe_int pa_nil)))
      (pss_cons (ps_set (i := 3) sc_law.nd rfl (Or.inl rfl) (pe_c c__law_next hr (by decide) (by rfl) (pa_cons (pv 1) (pa_cons (pv 2) (pa_cons pe_int pa_nil)))))
      (pss_cons (ps_set (i := 4) sc_law.nd rfl (Or.inl rfl) (pe_mkX k_Group hr (by decide) (by rfl) no_pass (pa_cons (pv 3) pa_nil)))
      (pss_cons (ps_for PassesOwn.never rfl (pi_range1 (by rfl) T.z_range (pa_cons pe_int pa_nil)) (pg_name (i := 5) sc_law.nd rfl (Or.inl rfl)) (pss_cons (ps_set (i := 6) sc_law.nd rfl (Or.inl rfl) (pe_c c__law_letter hr (by decide) (by rfl) (pa_cons (pv 1) (pa_cons (pv 2) pa_nil))))
      (pss_cons (ps_set (i := 7) sc_law.nd rfl (Or.inl rfl) pe_str)
      (pss_cut (ps_if (pt_cmpR op_eq (pe_ix (kixt (K := K)) (pv 6) pe_int (fun _ _ => rfl)) pe_str (nomark _)) (pss_one (ps_set (i := 7) sc_law.nd rfl (Or.inl rfl) pe_str)) pss_nil)
      (pss_cut (ps_if (pt_cmpR op_eq (pe_ix (kixt (K := K)) (pv 6) pe_int (fun _ _ => rfl)) pe_str (nomark _)) (pss_one (ps_set (i := 7) sc_law.nd rfl (Or.inl rfl) pe_str)) pss_nil)
      (pss_cons (ps_if (PW.pt (pw_or (pt_not (pt_val (pe_c c__law_truth hr (by decide) (by rfl) (pa_cons (pe_c c_is_letter hr (by decide) (by rfl) (pa_cons (pv 6) pa_nil)) (pa_cons pe_bl pa_nil))))) (pw_or1 (pt_cmpR op_ne (pe_c c__law_route hr (by decide) (by rfl) (pa_cons (pv 6) pa_nil)) (pv 7) (nomark _))))) (pss_one (ps_ret pe_bl)) pss_nil)
      (pss_cons (ps_set (i := 8) sc_law.nd rfl (Or.inl rfl) (pe_c c__law_spoilt hr (by decide) (by rfl) (pa_cons (pv 6) (pa_cons (pv 1) (pa_cons (pv 2) pa_nil)))))
      (pss_cons (ps_if (PW.pt (pw_or (pt_not (pt_val (pe_c c__law_truth hr (by decide) (by rfl) (pa_cons (pe_c c_is_letter hr (by decide) (by rfl) (pa_cons (pv 8) pa_nil)) (pa_cons pe_bl pa_nil))))) (pw_or1 (pt_cmpR op_notN (pe_c c__law_route hr (by decide) (by rfl) (pa_cons (pv 8) pa_nil)) pe_non (nomark _))))) (pss_one (ps_ret pe_bl)) pss_nil)
      (pss_one (ps_for PassesOwn.never rfl (pi_range1 (by rfl) T.z_range (pa_cons pe_int pa_nil)) (pg_name (i := 9) sc_law.nd rfl (Or.inl rfl)) (pss_cons (ps_set (i := 10) sc_law.nd rfl (Or.inl rfl) (pe_c c__law_end hr (by decide) (by rfl) (pa_cons (pv 1) (pa_cons (pv 2) pa_nil))))
      (pss_cons (ps_set (i := 11) sc_law.nd rfl (Or.inl rfl) (pe_c c__law_end hr (by decide) (by rfl) (pa_cons (pv 1) (pa_cons (pv 2) pa_nil))))
      (pss_cut (ps_set (i := 12) sc_law.nd rfl (Or.inl rfl) (pe_c c__law_checked hr (by decide) (by rfl) (pa_cons (pv 4) (pa_cons (pv 10) (pa_cons (pv 11) (pa_cons (pv 6) pa_nil))))))
      (pss_cut (ps_if (pt_val (pe_c c__law_fits hr (by decide) (by rfl) (pa_cons (pv 7) (pa_cons (pv 10) (pa_cons (pv 11) (pa_cons (pe_op op_add (pe_op op_mul pe_int (pv 3)) pe_int) pa_nil)))))) (pss_one (ps_if (pt_cmpR (op_neD hr.units) (pv 12) (pv 6) (nomark _)) (pss_one (ps_ret pe_bl)) pss_nil)) (pss_one (ps_if (pt_cmpR op_notN (pv 12) pe_non (nomark _)) (pss_one (ps_ret pe_bl)) pss_nil)))
      (pss_one (ps_if (pt_cmpR op_notN (pe_c c__law_checked hr (by decide) (by rfl) (pa_cons (pv 4) (pa_cons (pv 10) (pa_cons (pv 11) (pa_cons (pv 8) pa_nil))))) pe_non (nomark _)) (pss_one (ps_ret pe_bl)) pss_nil))))))))))))))))
      (pss_one (ps_ret pe_bl))))))), ?_⟩
  walk_at "rds"
  refine ⟨a, ns, rfl, hS, hlen, fun H1 D ds s1 hD0 hD hrg hle => ?_⟩
  walk_at "rds"
  intro A hA
  have dr : Dr (upd H1 A (.lst [.int 0])) D A := ⟨ne_of_none hD hA, ds, 0, by rw [upd_ne (ne_of_none hD hA)]; exact hD, upd_same, hrg, hle⟩
  generalize upd H1 A (.lst [.int 0]) = H2 at dr
  clear hD hA hD0 s1 hS
  walk_at "rds"
  refine ⟨D, A, 11, rfl, dr, by decide, fun H3 n n0 n1 md3 dr3 => ?_⟩
  clear md3 dr
  walk_at "rds"
  intro p dx hp hdx npd
  have s4a := same_upd (o := .own p) hdx
  have hp1 : upd H3 dx (.own p) p = none := by rw [upd_ne npd.symm]; exact hp
  have s4 := s4a.trans (same_upd (o := .ins C_Group dx []) hp1)
  have e4 : upd (upd H3 dx (.own p)) p (.ins C_Group dx []) p = some (.ins C_Group dx []) := upd_same
  generalize upd (upd H3 dx (.own p)) p (.ins C_Group dx []) = H4 at s4 e4
  refine ⟨p, dx, .int n, rfl, e4, .inl ⟨n, rfl, n0, by omega, fun H5 k5 hg => ?_⟩⟩
  have s5 : Same H3 H5 := fun b o e => k5 b o (s4 b o e) (fun z => by rw [z, hp] at e; cases e)
  have dr5 := dr3.same s5
  refine ⟨rfl, ?_⟩
  clear s5 k5 e4 s4 s4a hp1 dr3 hdx hp
  walk_at "rds"
  refine for_it walk_range (Pv := fun i σ H' => ∃ y5 y6 y7 y8 y9 y10 y11 y12, σ = [some (.ref a), some (.ref D), some (.ref A), some (.int n), some (.ref p), y5, y6, y7, y8, y9, y10, y11, y12] ∧ Dr H' D A ∧ GrAt C_Group H' p n) ⟨none, none, none, none, none, none, none, none, rfl, dr5, hg⟩ (fun _ _ _ _ _ => trivial) (fun i x σ H6 H7 hi hp hy => ?_) (fun σ H6 hp => ?_)
  · obtain ⟨y5, y6, y7, y8, y9, y10, y11, y12, rfl, dr, hg⟩ := hp
    obtain ⟨rfl, rfl⟩ := hy
    clear dr5
    walk_at "rds"
    refine ⟨D, A, rfl, dr, fun H8 v g r md8 dr8 hv ld => ?_⟩
    have hg8 := hg.mod md8 dr
    clear md8 dr hg
    obtain ⟨la, xs, ed, rfl, e0, hla, hx⟩ : ∃ la xs ed, v = .ref la ∧ PyData.tuple (.str g.s :: r) = .tuple ed ∧ TupAt K H8 la xs ∧ DtAll K H8 (some A) xs ed := by
      cases hv with
      | tup ha hx => exact ⟨_, _, _, rfl, rfl, ha, hx⟩
    cases e0
    obtain ⟨ys, rfl⟩ : ∃ ys, xs = .str g.s :: ys := by
      cases hx with
      | cons h1 hx => cases h1; exact ⟨_, rfl⟩
    walk_at "rds"
    refine ⟨fun σ' H' => σ' = [some (.ref a), some (.ref D), some (.ref A), some (.int n), some (.ref p), some (.int (0 + (i : Int))), some (.ref la), some (.str (if g = .command then "to_machine" else "machine")), y8, y9, y10, y11, y12] ∧ H' = H8, ?_, ?_⟩
    · walk_at "rds"
      refine ⟨la, _, 0, _, rfl, rfl, hla.sq, atI_nat (j := 0) rfl, ?_⟩
      walk_at "rds"
      refine (show (if decide (V.str g.s = V.str (Tag.s .command)) = true then _ else _ : Prop) from ?_)
      rw [tag_eq]
      by_cases e1 : g = .command
      · refine ifT (decide_eq_true e1) ?_
        walk_at "rds"
        exact ⟨by rw [if_pos e1]; rfl, rfl⟩
      · refine ifF (decide_eq_false e1) ?_
        exact ⟨by rw [if_neg e1]; rfl, rfl⟩
    rintro σ' Hc ⟨rfl, eH⟩
    obtain rfl := eH.symm
    walk_at "rds"
    refine ⟨fun σ' H' => σ' = [some (.ref a), some (.ref D), some (.ref A), some (.int n), some (.ref p), some (.int (0 + (i : Int))), some (.ref la), some (.str (wayT g)), y8, y9, y10, y11, y12] ∧ H' = H8, ?_, ?_⟩
    · walk_at "rds"
      refine ⟨la, _, 0, _, rfl, rfl, hla.sq, atI_nat (j := 0) rfl, ?_⟩
      walk_at "rds"
      refine (show (if decide (V.str g.s = V.str (Tag.s .answer)) = true then _ else _ : Prop) from ?_)
      rw [tag_eq]
      by_cases e1 : g = .answer
      · refine ifT (decide_eq_true e1) ?_
        walk_at "rds"
        exact ⟨by rw [e1]; rfl, rfl⟩
      · refine ifF (decide_eq_false e1) ?_
        exact ⟨by cases g <;> first | rfl | exact absurd rfl e1, rfl⟩
    rintro σ' Hc ⟨rfl, eH⟩
    obtain rfl := eH.symm
    walk_at "rds"
    refine ⟨some A, .ref la, _, true, rfl, hv, ld.is, fun H9 s9 => ?_⟩
    walk_at "rds"
    refine ⟨true, true, rfl, ?_⟩
    rw [decide_eq_true rfl]
    walk_at "rds"
    refine ⟨some A, .ref la, _, true, rfl, hv.on s9, ld.is, fun g' r' e1 _ H10 s10 => ?_, fun z => nomatch z⟩
    have eg : g' = g := by
      injection e1 with e1
      injection e1 with e1 _
      injection e1 with e1
      exact Tag.s_inj _ _ e1.symm
    subst eg
    walk_at "rds"
    rw [decide_eq_true rfl]
    refine ifF rfl ?_
    have s810 := s9.trans s10
    have hv10 := hv.on s810
    have dr10 := dr8.same s810
    have hg10 := hg8.on s810
    clear s810 s9 s10 dr8 hg8 hla hx hv
    walk_at "rds"
    refine ⟨.ref la, D, A, g', r, rfl, dr10, hv10, ld, fun H11 wv wd md11 dr11 hw lw => ?_⟩
    have hv11 := hv10.by md11 dr10
    have hg11 := hg10.mod md11 dr10
    clear md11 dr10 hg10 hv10
    walk_at "rds"
    refine ⟨some A, wv, wd, false, rfl, hw, lw, fun H12 s12 => ?_⟩
    walk_at "rds"
    refine ⟨false, false, rfl, ?_⟩
    rw [decide_eq_true rfl]
    walk_at "rds"
    refine ⟨some A, wv, wd, false, rfl, hw.on s12, lw, (fun _ _ _ z => nomatch z), fun _ H13 s13 => ?_⟩
    have s1113 := s12.trans s13
    have hv13 := hv11.on s1113
    have hw13 := hw.on s1113
    have dr13 := dr11.same s1113
    have hg13 := hg11.on s1113
    clear s1113 s12 s13 dr11 hg11 hv11 hw
    walk_at "rds"
    refine for_it walk_range (Pv := fun j σ H' => ∃ y9 y10 y11 y12, σ = [some (.ref a), some (.ref D), some (.ref A), some (.int n), some (.ref p), some (.int (0 + (i : Int))), some (.ref la), some (.str (wayT g')), some wv, y9, y10, y11, y12] ∧ Dr H' D A ∧ GrAt C_Group H' p n ∧ Dt K H' (some A) (.ref la) (.tuple (.str g'.s :: r)) ∧ Dt K H' (some A) wv wd) ⟨y9, y10, y11, y12, rfl, dr13, hg13, hv13, hw13⟩ (fun _ _ _ _ _ => trivial) (fun j x σ H14 H15 hj hp hy => ?_) (fun σ H14 hp => ?_)
    · obtain ⟨y9, y10, y11, y12, rfl, dr, hg, hv, hw⟩ := hp
      obtain ⟨rfl, rfl⟩ := hy
      clear dr13 hg13 hv13 hw13
      walk_at "rds"
      refine ⟨D, A, rfl, dr, fun H16 sv sd md dr16 hs => ?_⟩
      have hg16 := hg.mod md dr
      have hv16 := hv.by md dr
      have hw16 := hw.by md dr
      clear md dr hg hv hw
      walk_at "rds"
      refine ⟨D, A, rfl, dr16, fun H17 rv rd md dr17 hr17 => ?_⟩
      have hg17 := hg16.mod md dr16
      have hv17 := hv16.by md dr16
      have hw17 := hw16.by md dr16
      have hs17 := hs.by md dr16
      clear md dr16 hg16 hv16 hw16 hs
      walk_at "rds"
      refine ⟨fun σ' H' => ∃ av, σ' = [some (.ref a), some (.ref D), some (.ref A), some (.int n), some (.ref p), some (.int (0 + (i : Int))), some (.ref la), some (.str (wayT g')), some wv, some (.int (0 + (j : Int))), some sv, some rv, some av] ∧ Same H17 H' ∧ ((fitsT g' n sd rd = true ∧ av = .ref la) ∨ (fitsT g' n sd rd = false ∧ av = .non)), ?_, ?_⟩
      · walk_at "rds"
        refine ⟨some A, p, n, sv, rv, .ref la, sd, rd, _, true, fitsT g' n sd rd, rfl, hg17, hs17, hr17, hv17, ld.is, (fun z => nomatch z), fun g2 r2 e1 _ => ?_, fun ez H18 s18 => ?_, fun ez H18 s18 => ?_⟩
        · injection e1 with e1
          injection e1 with e1 _
          injection e1 with e1
          rw [Tag.s_inj _ _ e1]
        · walk_at "rds"
          exact ⟨_, rfl, s18, .inl ⟨ez, rfl⟩⟩
        · walk_at "rds"
          exact ⟨_, rfl, s18, .inr ⟨ez, rfl⟩⟩
      rintro σ' H18 ⟨av, rfl, s18, hav⟩
      walk_at "rds"
      refine ⟨fun σ' H' => σ' = [some (.ref a), some (.ref D), some (.ref A), some (.int n), some (.ref p), some (.int (0 + (i : Int))), some (.ref la), some (.str (wayT g')), some wv, some (.int (0 + (j : Int))), some sv, some rv, some av] ∧ H' = H18, ?_, ?_⟩
      · walk_at "rds"
        refine ⟨some A, g', sv, rv, n, sd, rd, rfl, hs17.on s18, hr17.on s18, ?_⟩
        rcases hav with ⟨ez, rfl⟩ | ⟨ez, rfl⟩
        · rw [ez]
          walk_at "rds"
          have sh := shpL ld.ly
          have dv := Dt.dp _ _ (hv17.on s18)
          refine ⟨_, _, dv, dv, sh.1, sh.1, ?_⟩
          rw [sh.2]
          refine ⟨_, rfl, ?_⟩
          refine ifF rfl ?_
          exact ⟨rfl, rfl⟩
        · rw [ez]
          walk_at "rds"
          exact ⟨rfl, rfl⟩
      rintro σ' Hc ⟨rfl, eH⟩
      obtain rfl := eH.symm
      walk_at "rds"
      refine ⟨some A, p, n, sv, rv, wv, sd, rd, wd, false, false, rfl, hg17.on s18, hs17.on s18, hr17.on s18, hw17.on s18, lw, (fun _ => rfl), (fun _ _ _ z => nomatch z), (fun z => nomatch z), fun _ H19 s19 => ?_⟩
      have s1719 := s18.trans s19
      walk_at "rds"
      exact ⟨_, _, _, _, rfl, dr17.same s1719, hg17.on s1719, hv17.on s1719, hw17.on s1719⟩
    · obtain ⟨y9, y10, y11, y12, rfl, dr, hg, hv, hw⟩ := hp
      exact ⟨_, _, _, _, _, _, _, _, rfl, dr, hg⟩
  · obtain ⟨y5, y6, y7, y8, y9, y10, y11, y12, rfl, dr, hg⟩ := hp
    walk_at "rds"
    exact q _
end

theorem fin {C_Group : Addr} {C_BadGroup : Addr} {C_BadLetter : Addr} {C_FORMS : Addr} {P : Program} {w : World} {K : PySem.W.Frag} {mg : Str → Option Value} {fa : Addr} (hfa : mg "law" = some (.ref fa)) (T : Txt K mg w C_Group C_BadGroup C_BadLetter C_FORMS) :
    ∃ fd : FuncData, (∀ (s : Shared) (u : Value), BindsTo s fd ⟨[u], []⟩ [("script", u)]) ∧ ∀ base : Heap, K.In base → base.Ns mainGlobals mg → FnOk P w K mg base L2.CX0 12 fa fd ["script"] (spLaw K) := by
  obtain ⟨f, fd, F, hm, b⟩ := T.d_law.ex
  cases hfa.symm.trans hm
  refine ⟨fd, fun s u => ?_, fun base _ _ => ok_law F T⟩
  obtain ⟨oc, od, kV, doc, pm, an, cdv, ct, osl, rfl, l, _⟩ := F.ex
  exact .of_eq rfl

theorem all_mk {K : PySem.W.Frag} {h : Heap} {mg : Str → Option Value} {w : World} (X : K.In h) (G : h.Ns mainGlobals mg)
    {f_is_integer : Addr} {od_is_integer an_is_integer : Option Addr} {sl_is_integer : Array (Option Value)} {oc_is_integer kV_is_integer dc_is_integer pm_is_integer cd_is_integer ct_is_integer : Value}
    {f_is_printable : Addr} {od_is_printable an_is_printable : Option Addr} {sl_is_printable : Array (Option Value)} {oc_is_printable kV_is_printable dc_is_printable pm_is_printable cd_is_printable ct_is_printable : Value}
    {f_is_short : Addr} {od_is_short an_is_short : Option Addr} {sl_is_short : Array (Option Value)} {oc_is_short kV_is_short dc_is_short pm_is_short cd_is_short ct_is_short : Value}
    {f_is_client : Addr} {od_is_client an_is_client : Option Addr} {sl_is_client : Array (Option Value)} {oc_is_client kV_is_client dc_is_client pm_is_client cd_is_client ct_is_client : Value}
    {f_is_number : Addr} {od_is_number an_is_number : Option Addr} {sl_is_number : Array (Option Value)} {oc_is_number kV_is_number dc_is_number pm_is_number cd_is_number ct_is_number : Value}
    {f_is_command : Addr} {od_is_command an_is_command : Option Addr} {sl_is_command : Array (Option Value)} {oc_is_command kV_is_command dc_is_command pm_is_command cd_is_command ct_is_command : Value}
    {f_is_command_list : Addr} {od_is_command_list an_is_command_list : Option Addr} {sl_is_command_list : Array (Option Value)} {oc_is_command_list kV_is_command_list dc_is_command_list pm_is_command_list cd_is_command_list ct_is_command_list : Value}
    {f_is_block : Addr} {od_is_block an_is_block : Option Addr} {sl_is_block : Array (Option Value)} {oc_is_block kV_is_block dc_is_block pm_is_block cd_is_block ct_is_block : Value}
    {f_is_height_above : Addr} {od_is_height_above an_is_height_above : Option Addr} {sl_is_height_above : Array (Option Value)} {oc_is_height_above kV_is_height_above dc_is_height_above pm_is_height_above cd_is_height_above ct_is_height_above : Value}
    {f_holds_vouch : Addr} {od_holds_vouch an_holds_vouch : Option Addr} {sl_holds_vouch : Array (Option Value)} {oc_holds_vouch kV_holds_vouch dc_holds_vouch pm_holds_vouch cd_holds_vouch ct_holds_vouch : Value}
    {f_holds_block : Addr} {od_holds_block an_holds_block : Option Addr} {sl_holds_block : Array (Option Value)} {oc_holds_block kV_holds_block dc_holds_block pm_holds_block cd_holds_block ct_holds_block : Value}
    {f_holds_claim : Addr} {od_holds_claim an_holds_claim : Option Addr} {sl_holds_claim : Array (Option Value)} {oc_holds_claim kV_holds_claim dc_holds_claim pm_holds_claim cd_holds_claim ct_holds_claim : Value}
    {f_holds_give : Addr} {od_holds_give an_holds_give : Option Addr} {sl_holds_give : Array (Option Value)} {oc_holds_give kV_holds_give dc_holds_give pm_holds_give cd_holds_give ct_holds_give : Value}
    {f_holds_request : Addr} {od_holds_request an_holds_request : Option Addr} {sl_holds_request : Array (Option Value)} {oc_holds_request kV_holds_request dc_holds_request pm_holds_request cd_holds_request ct_holds_request : Value}
    {f_holds_answer : Addr} {od_holds_answer an_holds_answer : Option Addr} {sl_holds_answer : Array (Option Value)} {oc_holds_answer kV_holds_answer dc_holds_answer pm_holds_answer cd_holds_answer ct_holds_answer : Value}
    {f_is_letter : Addr} {od_is_letter an_is_letter : Option Addr} {sl_is_letter : Array (Option Value)} {oc_is_letter kV_is_letter dc_is_letter pm_is_letter cd_is_letter ct_is_letter : Value}
    {f_route : Addr} {od_route an_route : Option Addr} {sl_route : Array (Option Value)} {oc_route kV_route dc_route pm_route cd_route ct_route : Value}
    {f_check_letter : Addr} {od_check_letter an_check_letter : Option Addr} {sl_check_letter : Array (Option Value)} {oc_check_letter kV_check_letter dc_check_letter pm_check_letter cd_check_letter ct_check_letter : Value}
    {f__law_draws : Addr} {od__law_draws an__law_draws : Option Addr} {sl__law_draws : Array (Option Value)} {oc__law_draws kV__law_draws dc__law_draws pm__law_draws cd__law_draws ct__law_draws : Value}
    {f__law_next : Addr} {od__law_next an__law_next : Option Addr} {sl__law_next : Array (Option Value)} {oc__law_next kV__law_next dc__law_next pm__law_next cd__law_next ct__law_next : Value}
    {f__law_big : Addr} {od__law_big an__law_big : Option Addr} {sl__law_big : Array (Option Value)} {oc__law_big kV__law_big dc__law_big pm__law_big cd__law_big ct__law_big : Value}
    {f__law_char : Addr} {od__law_char an__law_char : Option Addr} {sl__law_char : Array (Option Value)} {oc__law_char kV__law_char dc__law_char pm__law_char cd__law_char ct__law_char : Value}
    {f__law_string : Addr} {od__law_string an__law_string : Option Addr} {sl__law_string : Array (Option Value)} {oc__law_string kV__law_string dc__law_string pm__law_string cd__law_string ct__law_string : Value}
    {f__law_command : Addr} {od__law_command an__law_command : Option Addr} {sl__law_command : Array (Option Value)} {oc__law_command kV__law_command dc__law_command pm__law_command cd__law_command ct__law_command : Value}
    {f__law_commands : Addr} {od__law_commands an__law_commands : Option Addr} {sl__law_commands : Array (Option Value)} {oc__law_commands kV__law_commands dc__law_commands pm__law_commands cd__law_commands ct__law_commands : Value}
    {f__law_block : Addr} {od__law_block an__law_block : Option Addr} {sl__law_block : Array (Option Value)} {oc__law_block kV__law_block dc__law_block pm__law_block cd__law_block ct__law_block : Value}
    {f__law_truth : Addr} {od__law_truth an__law_truth : Option Addr} {sl__law_truth : Array (Option Value)} {oc__law_truth kV__law_truth dc__law_truth pm__law_truth cd__law_truth ct__law_truth : Value}
    {f__law_letter : Addr} {od__law_letter an__law_letter : Option Addr} {sl__law_letter : Array (Option Value)} {oc__law_letter kV__law_letter dc__law_letter pm__law_letter cd__law_letter ct__law_letter : Value}
    {f__law_spoilt : Addr} {od__law_spoilt an__law_spoilt : Option Addr} {sl__law_spoilt : Array (Option Value)} {oc__law_spoilt kV__law_spoilt dc__law_spoilt pm__law_spoilt cd__law_spoilt ct__law_spoilt : Value}
    {f__law_route : Addr} {od__law_route an__law_route : Option Addr} {sl__law_route : Array (Option Value)} {oc__law_route kV__law_route dc__law_route pm__law_route cd__law_route ct__law_route : Value}
    {f__law_checked : Addr} {od__law_checked an__law_checked : Option Addr} {sl__law_checked : Array (Option Value)} {oc__law_checked kV__law_checked dc__law_checked pm__law_checked cd__law_checked ct__law_checked : Value}
    {f__law_end : Addr} {od__law_end an__law_end : Option Addr} {sl__law_end : Array (Option Value)} {oc__law_end kV__law_end dc__law_end pm__law_end cd__law_end ct__law_end : Value}
    {f__law_machine : Addr} {od__law_machine an__law_machine : Option Addr} {sl__law_machine : Array (Option Value)} {oc__law_machine kV__law_machine dc__law_machine pm__law_machine cd__law_machine ct__law_machine : Value}
    {f__law_client : Addr} {od__law_client an__law_client : Option Addr} {sl__law_client : Array (Option Value)} {oc__law_client kV__law_client dc__law_client pm__law_client cd__law_client ct__law_client : Value}
    {f__law_fits : Addr} {od__law_fits an__law_fits : Option Addr} {sl__law_fits : Array (Option Value)} {oc__law_fits kV__law_fits dc__law_fits pm__law_fits cd__law_fits ct__law_fits : Value}
    {f_law : Addr} {od_law an_law : Option Addr} {sl_law : Array (Option Value)} {oc_law kV_law dc_law pm_law cd_law ct_law : Value}
    {C_Group : Addr}
    {f_Group____init__ : Addr} {od_Group____init__ an_Group____init__ : Option Addr} {sl_Group____init__ : Array (Option Value)} {oc_Group____init__ kV_Group____init__ dc_Group____init__ pm_Group____init__ cd_Group____init__ ct_Group____init__ : Value}
    {f_Group__is_member : Addr} {od_Group__is_member an_Group__is_member : Option Addr} {sl_Group__is_member : Array (Option Value)} {oc_Group__is_member kV_Group__is_member dc_Group__is_member pm_Group__is_member cd_Group__is_member ct_Group__is_member : Value}
    {C_BadGroup : Addr}
    {C_BadLetter : Addr}
    {C_FORMS : Addr} {es_FORMS : Array DictEntry} {n_FORMS : Nat}
    {t_MOST_ANSWER : Tok}
    {t_MOST_CLIENTS : Tok}
    {t_MOST_FAULTS : Tok}
    {t_MOST_NUMBER : Tok}
    {t_MOST_TEXT : Tok}
    (a_is_integer : PySem.W.nsIn K mainGlobals "is_integer" = some (some (.ref f_is_integer)))
    (l_is_integer : K.lookup f_is_integer = some ⟨oc_is_integer, od_is_integer, .func (PySem.W.fnOf "is_integer" "is_integer" (defArgs s_is_integer) (defBody s_is_integer) (defScope s_is_integer) .none kV_is_integer dc_is_integer pm_is_integer an_is_integer cd_is_integer ct_is_integer), sl_is_integer⟩)
    (e_is_integer : PySem.W.codeIn K cd_is_integer "is_integer" = true)
    (k_is_integer : PySem.W.keepIn K (.ref f_is_integer) = true)
    (a_is_printable : PySem.W.nsIn K mainGlobals "is_printable" = some (some (.ref f_is_printable)))
    (l_is_printable : K.lookup f_is_printable = some ⟨oc_is_printable, od_is_printable, .func (PySem.W.fnOf "is_printable" "is_printable" (defArgs s_is_printable) (defBody s_is_printable) (defScope s_is_printable) .none kV_is_printable dc_is_printable pm_is_printable an_is_printable cd_is_printable ct_is_printable), sl_is_printable⟩)
    (e_is_printable : PySem.W.codeIn K cd_is_printable "is_printable" = true)
    (k_is_printable : PySem.W.keepIn K (.ref f_is_printable) = true)
    (a_is_short : PySem.W.nsIn K mainGlobals "is_short" = some (some (.ref f_is_short)))
    (l_is_short : K.lookup f_is_short = some ⟨oc_is_short, od_is_short, .func (PySem.W.fnOf "is_short" "is_short" (defArgs s_is_short) (defBody s_is_short) (defScope s_is_short) .none kV_is_short dc_is_short pm_is_short an_is_short cd_is_short ct_is_short), sl_is_short⟩)
    (e_is_short : PySem.W.codeIn K cd_is_short "is_short" = true)
    (k_is_short : PySem.W.keepIn K (.ref f_is_short) = true)
    (a_is_client : PySem.W.nsIn K mainGlobals "is_client" = some (some (.ref f_is_client)))
    (l_is_client : K.lookup f_is_client = some ⟨oc_is_client, od_is_client, .func (PySem.W.fnOf "is_client" "is_client" (defArgs s_is_client) (defBody s_is_client) (defScope s_is_client) .none kV_is_client dc_is_client pm_is_client an_is_client cd_is_client ct_is_client), sl_is_client⟩)
    (e_is_client : PySem.W.codeIn K cd_is_client "is_client" = true)
    (k_is_client : PySem.W.keepIn K (.ref f_is_client) = true)
    (a_is_number : PySem.W.nsIn K mainGlobals "is_number" = some (some (.ref f_is_number)))
    (l_is_number : K.lookup f_is_number = some ⟨oc_is_number, od_is_number, .func (PySem.W.fnOf "is_number" "is_number" (defArgs s_is_number) (defBody s_is_number) (defScope s_is_number) .none kV_is_number dc_is_number pm_is_number an_is_number cd_is_number ct_is_number), sl_is_number⟩)
    (e_is_number : PySem.W.codeIn K cd_is_number "is_number" = true)
    (k_is_number : PySem.W.keepIn K (.ref f_is_number) = true)
    (a_is_command : PySem.W.nsIn K mainGlobals "is_command" = some (some (.ref f_is_command)))
    (l_is_command : K.lookup f_is_command = some ⟨oc_is_command, od_is_command, .func (PySem.W.fnOf "is_command" "is_command" (defArgs s_is_command) (defBody s_is_command) (defScope s_is_command) .none kV_is_command dc_is_command pm_is_command an_is_command cd_is_command ct_is_command), sl_is_command⟩)
    (e_is_command : PySem.W.codeIn K cd_is_command "is_command" = true)
    (k_is_command : PySem.W.keepIn K (.ref f_is_command) = true)
    (a_is_command_list : PySem.W.nsIn K mainGlobals "is_command_list" = some (some (.ref f_is_command_list)))
    (l_is_command_list : K.lookup f_is_command_list = some ⟨oc_is_command_list, od_is_command_list, .func (PySem.W.fnOf "is_command_list" "is_command_list" (defArgs s_is_command_list) (defBody s_is_command_list) (defScope s_is_command_list) .none kV_is_command_list dc_is_command_list pm_is_command_list an_is_command_list cd_is_command_list ct_is_command_list), sl_is_command_list⟩)
    (e_is_command_list : PySem.W.codeIn K cd_is_command_list "is_command_list" = true)
    (k_is_command_list : PySem.W.keepIn K (.ref f_is_command_list) = true)
    (a_is_block : PySem.W.nsIn K mainGlobals "is_block" = some (some (.ref f_is_block)))
    (l_is_block : K.lookup f_is_block = some ⟨oc_is_block, od_is_block, .func (PySem.W.fnOf "is_block" "is_block" (defArgs s_is_block) (defBody s_is_block) (defScope s_is_block) .none kV_is_block dc_is_block pm_is_block an_is_block cd_is_block ct_is_block), sl_is_block⟩)
    (e_is_block : PySem.W.codeIn K cd_is_block "is_block" = true)
    (k_is_block : PySem.W.keepIn K (.ref f_is_block) = true)
    (a_is_height_above : PySem.W.nsIn K mainGlobals "is_height_above" = some (some (.ref f_is_height_above)))
    (l_is_height_above : K.lookup f_is_height_above = some ⟨oc_is_height_above, od_is_height_above, .func (PySem.W.fnOf "is_height_above" "is_height_above" (defArgs s_is_height_above) (defBody s_is_height_above) (defScope s_is_height_above) .none kV_is_height_above dc_is_height_above pm_is_height_above an_is_height_above cd_is_height_above ct_is_height_above), sl_is_height_above⟩)
    (e_is_height_above : PySem.W.codeIn K cd_is_height_above "is_height_above" = true)
    (k_is_height_above : PySem.W.keepIn K (.ref f_is_height_above) = true)
    (a_holds_vouch : PySem.W.nsIn K mainGlobals "holds_vouch" = some (some (.ref f_holds_vouch)))
    (l_holds_vouch : K.lookup f_holds_vouch = some ⟨oc_holds_vouch, od_holds_vouch, .func (PySem.W.fnOf "holds_vouch" "holds_vouch" (defArgs s_holds_vouch) (defBody s_holds_vouch) (defScope s_holds_vouch) .none kV_holds_vouch dc_holds_vouch pm_holds_vouch an_holds_vouch cd_holds_vouch ct_holds_vouch), sl_holds_vouch⟩)
    (e_holds_vouch : PySem.W.codeIn K cd_holds_vouch "holds_vouch" = true)
    (k_holds_vouch : PySem.W.keepIn K (.ref f_holds_vouch) = true)
    (a_holds_block : PySem.W.nsIn K mainGlobals "holds_block" = some (some (.ref f_holds_block)))
    (l_holds_block : K.lookup f_holds_block = some ⟨oc_holds_block, od_holds_block, .func (PySem.W.fnOf "holds_block" "holds_block" (defArgs s_holds_block) (defBody s_holds_block) (defScope s_holds_block) .none kV_holds_block dc_holds_block pm_holds_block an_holds_block cd_holds_block ct_holds_block), sl_holds_block⟩)
    (e_holds_block : PySem.W.codeIn K cd_holds_block "holds_block" = true)
    (k_holds_block : PySem.W.keepIn K (.ref f_holds_block) = true)
    (a_holds_claim : PySem.W.nsIn K mainGlobals "holds_claim" = some (some (.ref f_holds_claim)))
    (l_holds_claim : K.lookup f_holds_claim = some ⟨oc_holds_claim, od_holds_claim, .func (PySem.W.fnOf "holds_claim" "holds_claim" (defArgs s_holds_claim) (defBody s_holds_claim) (defScope s_holds_claim) .none kV_holds_claim dc_holds_claim pm_holds_claim an_holds_claim cd_holds_claim ct_holds_claim), sl_holds_claim⟩)
    (e_holds_claim : PySem.W.codeIn K cd_holds_claim "holds_claim" = true)
    (k_holds_claim : PySem.W.keepIn K (.ref f_holds_claim) = true)
    (a_holds_give : PySem.W.nsIn K mainGlobals "holds_give" = some (some (.ref f_holds_give)))
    (l_holds_give : K.lookup f_holds_give = some ⟨oc_holds_give, od_holds_give, .func (PySem.W.fnOf "holds_give" "holds_give" (defArgs s_holds_give) (defBody s_holds_give) (defScope s_holds_give) .none kV_holds_give dc_holds_give pm_holds_give an_holds_give cd_holds_give ct_holds_give), sl_holds_give⟩)
    (e_holds_give : PySem.W.codeIn K cd_holds_give "holds_give" = true)
    (k_holds_give : PySem.W.keepIn K (.ref f_holds_give) = true)
    (a_holds_request : PySem.W.nsIn K mainGlobals "holds_request" = some (some (.ref f_holds_request)))
    (l_holds_request : K.lookup f_holds_request = some ⟨oc_holds_request, od_holds_request, .func (PySem.W.fnOf "holds_request" "holds_request" (defArgs s_holds_request) (defBody s_holds_request) (defScope s_holds_request) .none kV_holds_request dc_holds_request pm_holds_request an_holds_request cd_holds_request ct_holds_request), sl_holds_request⟩)
    (e_holds_request : PySem.W.codeIn K cd_holds_request "holds_request" = true)
    (k_holds_request : PySem.W.keepIn K (.ref f_holds_request) = true)
    (a_holds_answer : PySem.W.nsIn K mainGlobals "holds_answer" = some (some (.ref f_holds_answer)))
    (l_holds_answer : K.lookup f_holds_answer = some ⟨oc_holds_answer, od_holds_answer, .func (PySem.W.fnOf "holds_answer" "holds_answer" (defArgs s_holds_answer) (defBody s_holds_answer) (defScope s_holds_answer) .none kV_holds_answer dc_holds_answer pm_holds_answer an_holds_answer cd_holds_answer ct_holds_answer), sl_holds_answer⟩)
    (e_holds_answer : PySem.W.codeIn K cd_holds_answer "holds_answer" = true)
    (k_holds_answer : PySem.W.keepIn K (.ref f_holds_answer) = true)
    (a_is_letter : PySem.W.nsIn K mainGlobals "is_letter" = some (some (.ref f_is_letter)))
    (l_is_letter : K.lookup f_is_letter = some ⟨oc_is_letter, od_is_letter, .func (PySem.W.fnOf "is_letter" "is_letter" (defArgs s_is_letter) (defBody s_is_letter) (defScope s_is_letter) .none kV_is_letter dc_is_letter pm_is_letter an_is_letter cd_is_letter ct_is_letter), sl_is_letter⟩)
    (e_is_letter : PySem.W.codeIn K cd_is_letter "is_letter" = true)
    (k_is_letter : PySem.W.keepIn K (.ref f_is_letter) = true)
    (a_route : PySem.W.nsIn K mainGlobals "route" = some (some (.ref f_route)))
    (l_route : K.lookup f_route = some ⟨oc_route, od_route, .func (PySem.W.fnOf "route" "route" (defArgs s_route) (defBody s_route) (defScope s_route) .none kV_route dc_route pm_route an_route cd_route ct_route), sl_route⟩)
    (e_route : PySem.W.codeIn K cd_route "route" = true)
    (k_route : PySem.W.keepIn K (.ref f_route) = true)
    (a_check_letter : PySem.W.nsIn K mainGlobals "check_letter" = some (some (.ref f_check_letter)))
    (l_check_letter : K.lookup f_check_letter = some ⟨oc_check_letter, od_check_letter, .func (PySem.W.fnOf "check_letter" "check_letter" (defArgs s_check_letter) (defBody s_check_letter) (defScope s_check_letter) .none kV_check_letter dc_check_letter pm_check_letter an_check_letter cd_check_letter ct_check_letter), sl_check_letter⟩)
    (e_check_letter : PySem.W.codeIn K cd_check_letter "check_letter" = true)
    (k_check_letter : PySem.W.keepIn K (.ref f_check_letter) = true)
    (a__law_draws : PySem.W.nsIn K mainGlobals "_law_draws" = some (some (.ref f__law_draws)))
    (l__law_draws : K.lookup f__law_draws = some ⟨oc__law_draws, od__law_draws, .func (PySem.W.fnOf "_law_draws" "_law_draws" (defArgs s__law_draws) (defBody s__law_draws) (defScope s__law_draws) .none kV__law_draws dc__law_draws pm__law_draws an__law_draws cd__law_draws ct__law_draws), sl__law_draws⟩)
    (e__law_draws : PySem.W.codeIn K cd__law_draws "_law_draws" = true)
    (k__law_draws : PySem.W.keepIn K (.ref f__law_draws) = true)
    (a__law_next : PySem.W.nsIn K mainGlobals "_law_next" = some (some (.ref f__law_next)))
    (l__law_next : K.lookup f__law_next = some ⟨oc__law_next, od__law_next, .func (PySem.W.fnOf "_law_next" "_law_next" (defArgs s__law_next) (defBody s__law_next) (defScope s__law_next) .none kV__law_next dc__law_next pm__law_next an__law_next cd__law_next ct__law_next), sl__law_next⟩)
    (e__law_next : PySem.W.codeIn K cd__law_next "_law_next" = true)
    (k__law_next : PySem.W.keepIn K (.ref f__law_next) = true)
    (a__law_big : PySem.W.nsIn K mainGlobals "_law_big" = some (some (.ref f__law_big)))
    (l__law_big : K.lookup f__law_big = some ⟨oc__law_big, od__law_big, .func (PySem.W.fnOf "_law_big" "_law_big" (defArgs s__law_big) (defBody s__law_big) (defScope s__law_big) .none kV__law_big dc__law_big pm__law_big an__law_big cd__law_big ct__law_big), sl__law_big⟩)
    (e__law_big : PySem.W.codeIn K cd__law_big "_law_big" = true)
    (k__law_big : PySem.W.keepIn K (.ref f__law_big) = true)
    (a__law_char : PySem.W.nsIn K mainGlobals "_law_char" = some (some (.ref f__law_char)))
    (l__law_char : K.lookup f__law_char = some ⟨oc__law_char, od__law_char, .func (PySem.W.fnOf "_law_char" "_law_char" (defArgs s__law_char) (defBody s__law_char) (defScope s__law_char) .none kV__law_char dc__law_char pm__law_char an__law_char cd__law_char ct__law_char), sl__law_char⟩)
    (e__law_char : PySem.W.codeIn K cd__law_char "_law_char" = true)
    (k__law_char : PySem.W.keepIn K (.ref f__law_char) = true)
    (a__law_string : PySem.W.nsIn K mainGlobals "_law_string" = some (some (.ref f__law_string)))
    (l__law_string : K.lookup f__law_string = some ⟨oc__law_string, od__law_string, .func (PySem.W.fnOf "_law_string" "_law_string" (defArgs s__law_string) (defBody s__law_string) (defScope s__law_string) .none kV__law_string dc__law_string pm__law_string an__law_string cd__law_string ct__law_string), sl__law_string⟩)
    (e__law_string : PySem.W.codeIn K cd__law_string "_law_string" = true)
    (k__law_string : PySem.W.keepIn K (.ref f__law_string) = true)
    (a__law_command : PySem.W.nsIn K mainGlobals "_law_command" = some (some (.ref f__law_command)))
    (l__law_command : K.lookup f__law_command = some ⟨oc__law_command, od__law_command, .func (PySem.W.fnOf "_law_command" "_law_command" (defArgs s__law_command) (defBody s__law_command) (defScope s__law_command) .none kV__law_command dc__law_command pm__law_command an__law_command cd__law_command ct__law_command), sl__law_command⟩)
    (e__law_command : PySem.W.codeIn K cd__law_command "_law_command" = true)
    (k__law_command : PySem.W.keepIn K (.ref f__law_command) = true)
    (a__law_commands : PySem.W.nsIn K mainGlobals "_law_commands" = some (some (.ref f__law_commands)))
    (l__law_commands : K.lookup f__law_commands = some ⟨oc__law_commands, od__law_commands, .func (PySem.W.fnOf "_law_commands" "_law_commands" (defArgs s__law_commands) (defBody s__law_commands) (defScope s__law_commands) .none kV__law_commands dc__law_commands pm__law_commands an__law_commands cd__law_commands ct__law_commands), sl__law_commands⟩)
    (e__law_commands : PySem.W.codeIn K cd__law_commands "_law_commands" = true)
    (k__law_commands : PySem.W.keepIn K (.ref f__law_commands) = true)
    (a__law_block : PySem.W.nsIn K mainGlobals "_law_block" = some (some (.ref f__law_block)))
    (l__law_block : K.lookup f__law_block = some ⟨oc__law_block, od__law_block, .func (PySem.W.fnOf "_law_block" "_law_block" (defArgs s__law_block) (defBody s__law_block) (defScope s__law_block) .none kV__law_block dc__law_block pm__law_block an__law_block cd__law_block ct__law_block), sl__law_block⟩)
    (e__law_block : PySem.W.codeIn K cd__law_block "_law_block" = true)
    (k__law_block : PySem.W.keepIn K (.ref f__law_block) = true)
    (a__law_truth : PySem.W.nsIn K mainGlobals "_law_truth" = some (some (.ref f__law_truth)))
    (l__law_truth : K.lookup f__law_truth = some ⟨oc__law_truth, od__law_truth, .func (PySem.W.fnOf "_law_truth" "_law_truth" (defArgs s__law_truth) (defBody s__law_truth) (defScope s__law_truth) .none kV__law_truth dc__law_truth pm__law_truth an__law_truth cd__law_truth ct__law_truth), sl__law_truth⟩)
    (e__law_truth : PySem.W.codeIn K cd__law_truth "_law_truth" = true)
    (k__law_truth : PySem.W.keepIn K (.ref f__law_truth) = true)
    (a__law_letter : PySem.W.nsIn K mainGlobals "_law_letter" = some (some (.ref f__law_letter)))
    (l__law_letter : K.lookup f__law_letter = some ⟨oc__law_letter, od__law_letter, .func (PySem.W.fnOf "_law_letter" "_law_letter" (defArgs s__law_letter) (defBody s__law_letter) (defScope s__law_letter) .none kV__law_letter dc__law_letter pm__law_letter an__law_letter cd__law_letter ct__law_letter), sl__law_letter⟩)
    (e__law_letter : PySem.W.codeIn K cd__law_letter "_law_letter" = true)
    (k__law_letter : PySem.W.keepIn K (.ref f__law_letter) = true)
    (a__law_spoilt : PySem.W.nsIn K mainGlobals "_law_spoilt" = some (some (.ref f__law_spoilt)))
    (l__law_spoilt : K.lookup f__law_spoilt = some ⟨oc__law_spoilt, od__law_spoilt, .func (PySem.W.fnOf "_law_spoilt" "_law_spoilt" (defArgs s__law_spoilt) (defBody s__law_spoilt) (defScope s__law_spoilt) .none kV__law_spoilt dc__law_spoilt pm__law_spoilt an__law_spoilt cd__law_spoilt ct__law_spoilt), sl__law_spoilt⟩)
    (e__law_spoilt : PySem.W.codeIn K cd__law_spoilt "_law_spoilt" = true)
    (k__law_spoilt : PySem.W.keepIn K (.ref f__law_spoilt) = true)
    (a__law_route : PySem.W.nsIn K mainGlobals "_law_route" = some (some (.ref f__law_route)))
    (l__law_route : K.lookup f__law_route = some ⟨oc__law_route, od__law_route, .func (PySem.W.fnOf "_law_route" "_law_route" (defArgs s__law_route) (defBody s__law_route) (defScope s__law_route) .none kV__law_route dc__law_route pm__law_route an__law_route cd__law_route ct__law_route), sl__law_route⟩)
    (e__law_route : PySem.W.codeIn K cd__law_route "_law_route" = true)
    (k__law_route : PySem.W.keepIn K (.ref f__law_route) = true)
    (a__law_checked : PySem.W.nsIn K mainGlobals "_law_checked" = some (some (.ref f__law_checked)))
    (l__law_checked : K.lookup f__law_checked = some ⟨oc__law_checked, od__law_checked, .func (PySem.W.fnOf "_law_checked" "_law_checked" (defArgs s__law_checked) (defBody s__law_checked) (defScope s__law_checked) .none kV__law_checked dc__law_checked pm__law_checked an__law_checked cd__law_checked ct__law_checked), sl__law_checked⟩)
    (e__law_checked : PySem.W.codeIn K cd__law_checked "_law_checked" = true)
    (k__law_checked : PySem.W.keepIn K (.ref f__law_checked) = true)
    (a__law_end : PySem.W.nsIn K mainGlobals "_law_end" = some (some (.ref f__law_end)))
    (l__law_end : K.lookup f__law_end = some ⟨oc__law_end, od__law_end, .func (PySem.W.fnOf "_law_end" "_law_end" (defArgs s__law_end) (defBody s__law_end) (defScope s__law_end) .none kV__law_end dc__law_end pm__law_end an__law_end cd__law_end ct__law_end), sl__law_end⟩)
    (e__law_end : PySem.W.codeIn K cd__law_end "_law_end" = true)
    (k__law_end : PySem.W.keepIn K (.ref f__law_end) = true)
    (a__law_machine : PySem.W.nsIn K mainGlobals "_law_machine" = some (some (.ref f__law_machine)))
    (l__law_machine : K.lookup f__law_machine = some ⟨oc__law_machine, od__law_machine, .func (PySem.W.fnOf "_law_machine" "_law_machine" (defArgs s__law_machine) (defBody s__law_machine) (defScope s__law_machine) .none kV__law_machine dc__law_machine pm__law_machine an__law_machine cd__law_machine ct__law_machine), sl__law_machine⟩)
    (e__law_machine : PySem.W.codeIn K cd__law_machine "_law_machine" = true)
    (k__law_machine : PySem.W.keepIn K (.ref f__law_machine) = true)
    (a__law_client : PySem.W.nsIn K mainGlobals "_law_client" = some (some (.ref f__law_client)))
    (l__law_client : K.lookup f__law_client = some ⟨oc__law_client, od__law_client, .func (PySem.W.fnOf "_law_client" "_law_client" (defArgs s__law_client) (defBody s__law_client) (defScope s__law_client) .none kV__law_client dc__law_client pm__law_client an__law_client cd__law_client ct__law_client), sl__law_client⟩)
    (e__law_client : PySem.W.codeIn K cd__law_client "_law_client" = true)
    (k__law_client : PySem.W.keepIn K (.ref f__law_client) = true)
    (a__law_fits : PySem.W.nsIn K mainGlobals "_law_fits" = some (some (.ref f__law_fits)))
    (l__law_fits : K.lookup f__law_fits = some ⟨oc__law_fits, od__law_fits, .func (PySem.W.fnOf "_law_fits" "_law_fits" (defArgs s__law_fits) (defBody s__law_fits) (defScope s__law_fits) .none kV__law_fits dc__law_fits pm__law_fits an__law_fits cd__law_fits ct__law_fits), sl__law_fits⟩)
    (e__law_fits : PySem.W.codeIn K cd__law_fits "_law_fits" = true)
    (k__law_fits : PySem.W.keepIn K (.ref f__law_fits) = true)
    (a_law : PySem.W.nsIn K mainGlobals "law" = some (some (.ref f_law)))
    (l_law : K.lookup f_law = some ⟨oc_law, od_law, .func (PySem.W.fnOf "law" "law" (defArgs s_law) (defBody s_law) (defScope s_law) .none kV_law dc_law pm_law an_law cd_law ct_law), sl_law⟩)
    (e_law : PySem.W.codeIn K cd_law "law" = true)
    (k_law : PySem.W.keepIn K (.ref f_law) = true)
    (ac_Group : PySem.W.nsIn K mainGlobals "Group" = some (some (.ref C_Group)))
    (pg_Group : PySem.W.plainGet K C_Group Str.empty = true)
    (hd_Group : PySem.W.hasDictIn K C_Group = true)
    (po_Group : PySem.W.plainOver K C_Group = true)
    (sa_Group : PySem.W.findIn K (.ref C_Group) "__setattr__" = some (some (.builtin "object.__setattr__")))
    (mk_Group : PySem.W.makesIn K C_Group = true)
    (kc_Group : PySem.W.keepIn K (.ref C_Group) = true)
    (na_Group_faults : PySem.W.findIn K (.ref C_Group) "faults" = some none)
    (na_Group_machines : PySem.W.findIn K (.ref C_Group) "machines" = some none)
    (na_Group_quorum : PySem.W.findIn K (.ref C_Group) "quorum" = some none)
    (na_Group_blocking : PySem.W.findIn K (.ref C_Group) "blocking" = some none)
    (a_Group____init__ : PySem.W.findIn K (.ref C_Group) "__init__" = some (some (.ref f_Group____init__)))
    (i_Group____init__ : PySem.W.isFn K (.ref f_Group____init__) = true)
    (l_Group____init__ : K.lookup f_Group____init__ = some ⟨oc_Group____init__, od_Group____init__, .func (PySem.W.fnOf "__init__" "Group.__init__" (defArgs s_Group____init__) (defBody s_Group____init__) (defScope s_Group____init__) .none kV_Group____init__ dc_Group____init__ pm_Group____init__ an_Group____init__ cd_Group____init__ ct_Group____init__), sl_Group____init__⟩)
    (e_Group____init__ : PySem.W.codeIn K cd_Group____init__ "Group.__init__" = true)
    (k_Group____init__ : PySem.W.keepIn K (.ref f_Group____init__) = true)
    (a_Group__is_member : PySem.W.findIn K (.ref C_Group) "is_member" = some (some (.ref f_Group__is_member)))
    (i_Group__is_member : PySem.W.isFn K (.ref f_Group__is_member) = true)
    (l_Group__is_member : K.lookup f_Group__is_member = some ⟨oc_Group__is_member, od_Group__is_member, .func (PySem.W.fnOf "is_member" "Group.is_member" (defArgs s_Group__is_member) (defBody s_Group__is_member) (defScope s_Group__is_member) .none kV_Group__is_member dc_Group__is_member pm_Group__is_member an_Group__is_member cd_Group__is_member ct_Group__is_member), sl_Group__is_member⟩)
    (e_Group__is_member : PySem.W.codeIn K cd_Group__is_member "Group.is_member" = true)
    (k_Group__is_member : PySem.W.keepIn K (.ref f_Group__is_member) = true)
    (xa_BadGroup : PySem.W.nsIn K mainGlobals "BadGroup" = some (some (.ref C_BadGroup)))
    (xe_BadGroup : PySem.W.excIn K C_BadGroup [.type "ValueError", .type "Exception", .type "BaseException", .type "object"] "ValueError.__new__" = true)
    (xk_BadGroup : PySem.W.keepIn K (.ref C_BadGroup) = true)
    (xb_BadGroup : PySem.W.subIn K (.ref C_BadGroup) (.type "BaseException") = some true)
    (xt_BadGroup : PySem.W.typeIn K (.ref C_BadGroup) = some (.type "type"))
    (xh_BadGroup : PySem.W.hasDictIn K C_BadGroup = true)
    (xa_BadLetter : PySem.W.nsIn K mainGlobals "BadLetter" = some (some (.ref C_BadLetter)))
    (xe_BadLetter : PySem.W.excIn K C_BadLetter [.type "ValueError", .type "Exception", .type "BaseException", .type "object"] "ValueError.__new__" = true)
    (xk_BadLetter : PySem.W.keepIn K (.ref C_BadLetter) = true)
    (xb_BadLetter : PySem.W.subIn K (.ref C_BadLetter) (.type "BaseException") = some true)
    (xt_BadLetter : PySem.W.typeIn K (.ref C_BadLetter) = some (.type "type"))
    (xh_BadLetter : PySem.W.hasDictIn K C_BadLetter = true)
    (a_FORMS : PySem.W.nsIn K mainGlobals "FORMS" = some (some (.ref C_FORMS)))
    (l_FORMS : K.lookup C_FORMS = some ⟨.type "dict", none, .dict es_FORMS n_FORMS, #[]⟩)
    (kl_FORMS : PySem.W.KeysLit w.params es_FORMS.toList)
    (lo_FORMS : (C_FORMS == sysModules) = false)
    (vf_FORMS_vouch : PySem.W.nsIn K C_FORMS "vouch" = some (some (.ref f_holds_vouch)))
    (vf_FORMS_propose : PySem.W.nsIn K C_FORMS "propose" = some (some (.ref f_holds_block)))
    (vf_FORMS_vote : PySem.W.nsIn K C_FORMS "vote" = some (some (.ref f_holds_block)))
    (vf_FORMS_ready : PySem.W.nsIn K C_FORMS "ready" = some (some (.ref f_holds_block)))
    (vf_FORMS_claim : PySem.W.nsIn K C_FORMS "claim" = some (some (.ref f_holds_claim)))
    (vf_FORMS_give : PySem.W.nsIn K C_FORMS "give" = some (some (.ref f_holds_give)))
    (vf_FORMS_command : PySem.W.nsIn K C_FORMS "command" = some (some (.ref f_holds_request)))
    (vf_FORMS_answer : PySem.W.nsIn K C_FORMS "answer" = some (some (.ref f_holds_answer)))
    (m_FORMS_0 : PySem.W.nsIn K C_FORMS "" = some none)
    (u_BadGroup_BadGroup : PySem.W.subIn K (.ref C_BadGroup) (.ref C_BadGroup) = some true)
    (u_BadLetter_BadLetter : PySem.W.subIn K (.ref C_BadLetter) (.ref C_BadLetter) = some true)
    (a_MOST_ANSWER : PySem.W.nsIn K mainGlobals "MOST_ANSWER" = some (some (.int 200 t_MOST_ANSWER)))
    (a_MOST_CLIENTS : PySem.W.nsIn K mainGlobals "MOST_CLIENTS" = some (some (.int 100 t_MOST_CLIENTS)))
    (a_MOST_FAULTS : PySem.W.nsIn K mainGlobals "MOST_FAULTS" = some (some (.int 10 t_MOST_FAULTS)))
    (a_MOST_NUMBER : PySem.W.nsIn K mainGlobals "MOST_NUMBER" = some (some (.int 1000000000000 t_MOST_NUMBER)))
    (a_MOST_TEXT : PySem.W.nsIn K mainGlobals "MOST_TEXT" = some (some (.int 240 t_MOST_TEXT)))
    (z_abs : PySem.W.nsIn K mainGlobals "abs" = some none)
    (z_bool : PySem.W.nsIn K mainGlobals "bool" = some none)
    (z_int : PySem.W.nsIn K mainGlobals "int" = some none)
    (z_isinstance : PySem.W.nsIn K mainGlobals "isinstance" = some none)
    (z_len : PySem.W.nsIn K mainGlobals "len" = some none)
    (z_min : PySem.W.nsIn K mainGlobals "min" = some none)
    (z_range : PySem.W.nsIn K mainGlobals "range" = some none)
    (z_str : PySem.W.nsIn K mainGlobals "str" = some none)
    (z_tuple : PySem.W.nsIn K mainGlobals "tuple" = some none) : Txt K mg w C_Group C_BadGroup C_BadLetter C_FORMS :=
  { d_is_integer := ⟨_, _, (fun_mk l_is_integer e_is_integer k_is_integer), PySem.W.mg_of X G a_is_integer, ((fun_mk (st := s_is_integer) l_is_integer e_is_integer k_is_integer).binds (ps := ["value", "least", "greatest"]) fun _ _ _ _ _ _ us hl => match us, hl with | [_, _, _], _ => rfl)⟩,
    d_is_printable := ⟨_, _, (fun_mk l_is_printable e_is_printable k_is_printable), PySem.W.mg_of X G a_is_printable, ((fun_mk (st := s_is_printable) l_is_printable e_is_printable k_is_printable).binds (ps := ["value"]) fun _ _ _ _ _ _ us hl => match us, hl with | [_], _ => rfl)⟩,
    d_is_short := ⟨_, _, (fun_mk l_is_short e_is_short k_is_short), PySem.W.mg_of X G a_is_short, ((fun_mk (st := s_is_short) l_is_short e_is_short k_is_short).binds (ps := ["value", "most"]) fun _ _ _ _ _ _ us hl => match us, hl with | [_, _], _ => rfl)⟩,
    d_is_client := ⟨_, _, (fun_mk l_is_client e_is_client k_is_client), PySem.W.mg_of X G a_is_client, ((fun_mk (st := s_is_client) l_is_client e_is_client k_is_client).binds (ps := ["value"]) fun _ _ _ _ _ _ us hl => match us, hl with | [_], _ => rfl)⟩,
    d_is_number := ⟨_, _, (fun_mk l_is_number e_is_number k_is_number), PySem.W.mg_of X G a_is_number, ((fun_mk (st := s_is_number) l_is_number e_is_number k_is_number).binds (ps := ["value"]) fun _ _ _ _ _ _ us hl => match us, hl with | [_], _ => rfl)⟩,
    d_is_command := ⟨_, _, (fun_mk l_is_command e_is_command k_is_command), PySem.W.mg_of X G a_is_command, ((fun_mk (st := s_is_command) l_is_command e_is_command k_is_command).binds (ps := ["value"]) fun _ _ _ _ _ _ us hl => match us, hl with | [_], _ => rfl)⟩,
    d_is_command_list := ⟨_, _, (fun_mk l_is_command_list e_is_command_list k_is_command_list), PySem.W.mg_of X G a_is_command_list, ((fun_mk (st := s_is_command_list) l_is_command_list e_is_command_list k_is_command_list).binds (ps := ["value"]) fun _ _ _ _ _ _ us hl => match us, hl with | [_], _ => rfl)⟩,
    d_is_block := ⟨_, _, (fun_mk l_is_block e_is_block k_is_block), PySem.W.mg_of X G a_is_block, ((fun_mk (st := s_is_block) l_is_block e_is_block k_is_block).binds (ps := ["value"]) fun _ _ _ _ _ _ us hl => match us, hl with | [_], _ => rfl)⟩,
    d_is_height_above := ⟨_, _, (fun_mk l_is_height_above e_is_height_above k_is_height_above), PySem.W.mg_of X G a_is_height_above, ((fun_mk (st := s_is_height_above) l_is_height_above e_is_height_above k_is_height_above).binds (ps := ["parent", "height"]) fun _ _ _ _ _ _ us hl => match us, hl with | [_, _], _ => rfl)⟩,
    d_holds_vouch := ⟨_, _, (fun_mk l_holds_vouch e_holds_vouch k_holds_vouch), PySem.W.mg_of X G a_holds_vouch, ((fun_mk (st := s_holds_vouch) l_holds_vouch e_holds_vouch k_holds_vouch).binds (ps := ["parts"]) fun _ _ _ _ _ _ us hl => match us, hl with | [_], _ => rfl)⟩,
    d_holds_block := ⟨_, _, (fun_mk l_holds_block e_holds_block k_holds_block), PySem.W.mg_of X G a_holds_block, ((fun_mk (st := s_holds_block) l_holds_block e_holds_block k_holds_block).binds (ps := ["parts"]) fun _ _ _ _ _ _ us hl => match us, hl with | [_], _ => rfl)⟩,
    d_holds_claim := ⟨_, _, (fun_mk l_holds_claim e_holds_claim k_holds_claim), PySem.W.mg_of X G a_holds_claim, ((fun_mk (st := s_holds_claim) l_holds_claim e_holds_claim k_holds_claim).binds (ps := ["parts"]) fun _ _ _ _ _ _ us hl => match us, hl with | [_], _ => rfl)⟩,
    d_holds_give := ⟨_, _, (fun_mk l_holds_give e_holds_give k_holds_give), PySem.W.mg_of X G a_holds_give, ((fun_mk (st := s_holds_give) l_holds_give e_holds_give k_holds_give).binds (ps := ["parts"]) fun _ _ _ _ _ _ us hl => match us, hl with | [_], _ => rfl)⟩,
    d_holds_request := ⟨_, _, (fun_mk l_holds_request e_holds_request k_holds_request), PySem.W.mg_of X G a_holds_request, ((fun_mk (st := s_holds_request) l_holds_request e_holds_request k_holds_request).binds (ps := ["parts"]) fun _ _ _ _ _ _ us hl => match us, hl with | [_], _ => rfl)⟩,
    d_holds_answer := ⟨_, _, (fun_mk l_holds_answer e_holds_answer k_holds_answer), PySem.W.mg_of X G a_holds_answer, ((fun_mk (st := s_holds_answer) l_holds_answer e_holds_answer k_holds_answer).binds (ps := ["parts"]) fun _ _ _ _ _ _ us hl => match us, hl with | [_], _ => rfl)⟩,
    d_is_letter := ⟨_, _, (fun_mk l_is_letter e_is_letter k_is_letter), PySem.W.mg_of X G a_is_letter, ((fun_mk (st := s_is_letter) l_is_letter e_is_letter k_is_letter).binds (ps := ["value"]) fun _ _ _ _ _ _ us hl => match us, hl with | [_], _ => rfl)⟩,
    d_route := ⟨_, _, (fun_mk l_route e_route k_route), PySem.W.mg_of X G a_route, ((fun_mk (st := s_route) l_route e_route k_route).binds (ps := ["letter"]) fun _ _ _ _ _ _ us hl => match us, hl with | [_], _ => rfl)⟩,
    d_check_letter := ⟨_, _, (fun_mk l_check_letter e_check_letter k_check_letter), PySem.W.mg_of X G a_check_letter, ((fun_mk (st := s_check_letter) l_check_letter e_check_letter k_check_letter).binds (ps := ["group", "sender", "receiver", "letter"]) fun _ _ _ _ _ _ us hl => match us, hl with | [_, _, _, _], _ => rfl)⟩,
    d__law_draws := ⟨_, _, (fun_mk l__law_draws e__law_draws k__law_draws), PySem.W.mg_of X G a__law_draws, ((fun_mk (st := s__law_draws) l__law_draws e__law_draws k__law_draws).binds (ps := ["script"]) fun _ _ _ _ _ _ us hl => match us, hl with | [_], _ => rfl)⟩,
    d__law_next := ⟨_, _, (fun_mk l__law_next e__law_next k__law_next), PySem.W.mg_of X G a__law_next, ((fun_mk (st := s__law_next) l__law_next e__law_next k__law_next).binds (ps := ["draws", "at", "many"]) fun _ _ _ _ _ _ us hl => match us, hl with | [_, _, _], _ => rfl)⟩,
    d__law_big := ⟨_, _, (fun_mk l__law_big e__law_big k__law_big), PySem.W.mg_of X G a__law_big, ((fun_mk (st := s__law_big) l__law_big e__law_big k__law_big).binds (ps := ["draws", "at", "many"]) fun _ _ _ _ _ _ us hl => match us, hl with | [_, _, _], _ => rfl)⟩,
    d__law_char := ⟨_, _, (fun_mk l__law_char e__law_char k__law_char), PySem.W.mg_of X G a__law_char, ((fun_mk (st := s__law_char) l__law_char e__law_char k__law_char).binds (ps := ["number"]) fun _ _ _ _ _ _ us hl => match us, hl with | [_], _ => rfl)⟩,
    d__law_string := ⟨_, _, (fun_mk l__law_string e__law_string k__law_string), PySem.W.mg_of X G a__law_string, ((fun_mk (st := s__law_string) l__law_string e__law_string k__law_string).binds (ps := ["draws", "at", "most"]) fun _ _ _ _ _ _ us hl => match us, hl with | [_, _, _], _ => rfl)⟩,
    d__law_command := ⟨_, _, (fun_mk l__law_command e__law_command k__law_command), PySem.W.mg_of X G a__law_command, ((fun_mk (st := s__law_command) l__law_command e__law_command k__law_command).binds (ps := ["draws", "at", "client"]) fun _ _ _ _ _ _ us hl => match us, hl with | [_, _, _], _ => rfl)⟩,
    d__law_commands := ⟨_, _, (fun_mk l__law_commands e__law_commands k__law_commands), PySem.W.mg_of X G a__law_commands, ((fun_mk (st := s__law_commands) l__law_commands e__law_commands k__law_commands).binds (ps := ["draws", "at", "most"]) fun _ _ _ _ _ _ us hl => match us, hl with | [_, _, _], _ => rfl)⟩,
    d__law_block := ⟨_, _, (fun_mk l__law_block e__law_block k__law_block), PySem.W.mg_of X G a__law_block, ((fun_mk (st := s__law_block) l__law_block e__law_block k__law_block).binds (ps := ["draws", "at", "most"]) fun _ _ _ _ _ _ us hl => match us, hl with | [_, _, _], _ => rfl)⟩,
    d__law_truth := ⟨_, _, (fun_mk l__law_truth e__law_truth k__law_truth), PySem.W.mg_of X G a__law_truth, ((fun_mk (st := s__law_truth) l__law_truth e__law_truth k__law_truth).binds (ps := ["actual", "expected"]) fun _ _ _ _ _ _ us hl => match us, hl with | [_, _], _ => rfl)⟩,
    d__law_letter := ⟨_, _, (fun_mk l__law_letter e__law_letter k__law_letter), PySem.W.mg_of X G a__law_letter, ((fun_mk (st := s__law_letter) l__law_letter e__law_letter k__law_letter).binds (ps := ["draws", "at"]) fun _ _ _ _ _ _ us hl => match us, hl with | [_, _], _ => rfl)⟩,
    d__law_spoilt := ⟨_, _, (fun_mk l__law_spoilt e__law_spoilt k__law_spoilt), PySem.W.mg_of X G a__law_spoilt, ((fun_mk (st := s__law_spoilt) l__law_spoilt e__law_spoilt k__law_spoilt).binds (ps := ["letter", "draws", "at"]) fun _ _ _ _ _ _ us hl => match us, hl with | [_, _, _], _ => rfl)⟩,
    d__law_route := ⟨_, _, (fun_mk l__law_route e__law_route k__law_route), PySem.W.mg_of X G a__law_route, ((fun_mk (st := s__law_route) l__law_route e__law_route k__law_route).binds (ps := ["letter"]) fun _ _ _ _ _ _ us hl => match us, hl with | [_], _ => rfl)⟩,
    d__law_checked := ⟨_, _, (fun_mk l__law_checked e__law_checked k__law_checked), PySem.W.mg_of X G a__law_checked, ((fun_mk (st := s__law_checked) l__law_checked e__law_checked k__law_checked).binds (ps := ["group", "sender", "receiver", "letter"]) fun _ _ _ _ _ _ us hl => match us, hl with | [_, _, _, _], _ => rfl)⟩,
    d__law_end := ⟨_, _, (fun_mk l__law_end e__law_end k__law_end), PySem.W.mg_of X G a__law_end, ((fun_mk (st := s__law_end) l__law_end e__law_end k__law_end).binds (ps := ["draws", "at"]) fun _ _ _ _ _ _ us hl => match us, hl with | [_, _], _ => rfl)⟩,
    d__law_machine := ⟨_, _, (fun_mk l__law_machine e__law_machine k__law_machine), PySem.W.mg_of X G a__law_machine, ((fun_mk (st := s__law_machine) l__law_machine e__law_machine k__law_machine).binds (ps := ["end", "machines"]) fun _ _ _ _ _ _ us hl => match us, hl with | [_, _], _ => rfl)⟩,
    d__law_client := ⟨_, _, (fun_mk l__law_client e__law_client k__law_client), PySem.W.mg_of X G a__law_client, ((fun_mk (st := s__law_client) l__law_client e__law_client k__law_client).binds (ps := ["end"]) fun _ _ _ _ _ _ us hl => match us, hl with | [_], _ => rfl)⟩,
    d__law_fits := ⟨_, _, (fun_mk l__law_fits e__law_fits k__law_fits), PySem.W.mg_of X G a__law_fits, ((fun_mk (st := s__law_fits) l__law_fits e__law_fits k__law_fits).binds (ps := ["way", "sender", "receiver", "machines"]) fun _ _ _ _ _ _ us hl => match us, hl with | [_, _, _, _], _ => rfl)⟩,
    d_law := ⟨_, _, (fun_mk l_law e_law k_law), PySem.W.mg_of X G a_law, ((fun_mk (st := s_law) l_law e_law k_law).binds (ps := ["script"]) fun _ _ _ _ _ _ us hl => match us, hl with | [_], _ => rfl)⟩,
    cl_Group := ⟨pg_Group, hd_Group, po_Group, sa_Group⟩,
    g_Group := PySem.W.mg_of X G ac_Group,
    na_Group_faults := na_Group_faults,
    na_Group_machines := na_Group_machines,
    na_Group_quorum := na_Group_quorum,
    na_Group_blocking := na_Group_blocking,
    mk_Group := ⟨_, _, ⟨mk_Group, a_Group____init__, i_Group____init__, kc_Group⟩, (fun_mk l_Group____init__ e_Group____init__ k_Group____init__), ((fun_mk (st := s_Group____init__) l_Group____init__ e_Group____init__ k_Group____init__).binds (ps := ["self", "faults"]) fun _ _ _ _ _ _ us hl => match us, hl with | [_, _], _ => rfl)⟩,
    me_Group__is_member := ⟨_, _, ⟨a_Group__is_member, i_Group__is_member, k_Group__is_member⟩, (fun_mk l_Group__is_member e_Group__is_member k_Group__is_member), ((fun_mk (st := s_Group__is_member) l_Group__is_member e_Group__is_member k_Group__is_member).binds (ps := ["self", "value"]) fun _ _ _ _ _ _ us hl => match us, hl with | [_, _], _ => rfl)⟩,
    x_BadGroup := ⟨xe_BadGroup, PySem.W.mg_of X G xa_BadGroup, xk_BadGroup, xb_BadGroup, xt_BadGroup, xh_BadGroup⟩,
    x_BadLetter := ⟨xe_BadLetter, PySem.W.mg_of X G xa_BadLetter, xk_BadLetter, xb_BadLetter, xt_BadLetter, xh_BadLetter⟩,
    g_FORMS := PySem.W.mg_of X G a_FORMS,
    kd_FORMS := ⟨_, _, ⟨l_FORMS, kl_FORMS, lo_FORMS⟩⟩,
    kf_FORMS_vouch := ⟨_, PySem.W.mg_of X G a_holds_vouch, ⟨_, _, _, l_FORMS, kl_FORMS, vf_FORMS_vouch, rfl⟩⟩,
    kf_FORMS_propose := ⟨_, PySem.W.mg_of X G a_holds_block, ⟨_, _, _, l_FORMS, kl_FORMS, vf_FORMS_propose, rfl⟩⟩,
    kf_FORMS_vote := ⟨_, PySem.W.mg_of X G a_holds_block, ⟨_, _, _, l_FORMS, kl_FORMS, vf_FORMS_vote, rfl⟩⟩,
    kf_FORMS_ready := ⟨_, PySem.W.mg_of X G a_holds_block, ⟨_, _, _, l_FORMS, kl_FORMS, vf_FORMS_ready, rfl⟩⟩,
    kf_FORMS_claim := ⟨_, PySem.W.mg_of X G a_holds_claim, ⟨_, _, _, l_FORMS, kl_FORMS, vf_FORMS_claim, rfl⟩⟩,
    kf_FORMS_give := ⟨_, PySem.W.mg_of X G a_holds_give, ⟨_, _, _, l_FORMS, kl_FORMS, vf_FORMS_give, rfl⟩⟩,
    kf_FORMS_command := ⟨_, PySem.W.mg_of X G a_holds_request, ⟨_, _, _, l_FORMS, kl_FORMS, vf_FORMS_command, rfl⟩⟩,
    kf_FORMS_answer := ⟨_, PySem.W.mg_of X G a_holds_answer, ⟨_, _, _, l_FORMS, kl_FORMS, vf_FORMS_answer, rfl⟩⟩,
    km_FORMS_0 := m_FORMS_0,
    u_BadGroup_BadGroup := u_BadGroup_BadGroup,
    u_BadLetter_BadLetter := u_BadLetter_BadLetter,
    c_MOST_ANSWER := ⟨_, PySem.W.mg_of X G a_MOST_ANSWER, _, rfl⟩,
    c_MOST_CLIENTS := ⟨_, PySem.W.mg_of X G a_MOST_CLIENTS, _, rfl⟩,
    c_MOST_FAULTS := ⟨_, PySem.W.mg_of X G a_MOST_FAULTS, _, rfl⟩,
    c_MOST_NUMBER := ⟨_, PySem.W.mg_of X G a_MOST_NUMBER, _, rfl⟩,
    c_MOST_TEXT := ⟨_, PySem.W.mg_of X G a_MOST_TEXT, _, rfl⟩,
    z_abs := PySem.W.mg_none_of X G z_abs,
    z_bool := PySem.W.mg_none_of X G z_bool,
    z_int := PySem.W.mg_none_of X G z_int,
    z_isinstance := PySem.W.mg_none_of X G z_isinstance,
    z_len := PySem.W.mg_none_of X G z_len,
    z_min := PySem.W.mg_none_of X G z_min,
    z_range := PySem.W.mg_none_of X G z_range,
    z_str := PySem.W.mg_none_of X G z_str,
    z_tuple := PySem.W.mg_none_of X G z_tuple }
end Law
open PySem PySem.W PyProof.Rows
set_option maxRecDepth 100000 in
set_option maxHeartbeats 0 in
theorem PySem.Challenge.cw_oathledger_k10_letters_holds : PySem.Challenge.rw_oathledger_k10_letters.Holds := by
  w_on; o_law; k_head; (case hw => w_witness2)
  k_fill
  refine L2.walk_of (l := PySem.Challenge.rw_oathledger_k10_letters) (n := 63) (k := 12) (x := "script") (CX := fun _ => L2.CX0) (sp := fun w => Law.spLaw _) rfl (by decide) rfl ⟨rfl, by decide, by decide⟩ (fun w h Y => PySem.W.kIn_of Y) ?F (fun _ _ a ns hl _ hS => ⟨a, ns, rfl, hS, hl, fun _ => rfl⟩) (fun _ _ _ _ _ h => h)
  case F =>
    intro w mg fa h KX G hmg
    refine' Law.fin hmg (Law.all_mk KX G ?a_is_integer ?l_is_integer ?e_is_integer ?k_is_integer ?a_is_printable ?l_is_printable ?e_is_printable ?k_is_printable ?a_is_short ?l_is_short ?e_is_short ?k_is_short ?a_is_client ?l_is_client ?e_is_client ?k_is_client ?a_is_number ?l_is_number ?e_is_number ?k_is_number ?a_is_command ?l_is_command ?e_is_command ?k_is_command ?a_is_command_list ?l_is_command_list ?e_is_command_list ?k_is_command_list ?a_is_block ?l_is_block ?e_is_block ?k_is_block ?a_is_height_above ?l_is_height_above ?e_is_height_above ?k_is_height_above ?a_holds_vouch ?l_holds_vouch ?e_holds_vouch ?k_holds_vouch ?a_holds_block ?l_holds_block ?e_holds_block ?k_holds_block ?a_holds_claim ?l_holds_claim ?e_holds_claim ?k_holds_claim ?a_holds_give ?l_holds_give ?e_holds_give ?k_holds_give ?a_holds_request ?l_holds_request ?e_holds_request ?k_holds_request ?a_holds_answer ?l_holds_answer ?e_holds_answer ?k_holds_answer ?a_is_letter ?l_is_letter ?e_is_letter ?k_is_letter ?a_route ?l_route ?e_route ?k_route ?a_check_letter ?l_check_letter ?e_check_letter ?k_check_letter ?a__law_draws ?l__law_draws ?e__law_draws ?k__law_draws ?a__law_next ?l__law_next ?e__law_next ?k__law_next ?a__law_big ?l__law_big ?e__law_big ?k__law_big ?a__law_char ?l__law_char ?e__law_char ?k__law_char ?a__law_string ?l__law_string ?e__law_string ?k__law_string ?a__law_command ?l__law_command ?e__law_command ?k__law_command ?a__law_commands ?l__law_commands ?e__law_commands ?k__law_commands ?a__law_block ?l__law_block ?e__law_block ?k__law_block ?a__law_truth ?l__law_truth ?e__law_truth ?k__law_truth ?a__law_letter ?l__law_letter ?e__law_letter ?k__law_letter ?a__law_spoilt ?l__law_spoilt ?e__law_spoilt ?k__law_spoilt ?a__law_route ?l__law_route ?e__law_route ?k__law_route ?a__law_checked ?l__law_checked ?e__law_checked ?k__law_checked ?a__law_end ?l__law_end ?e__law_end ?k__law_end ?a__law_machine ?l__law_machine ?e__law_machine ?k__law_machine ?a__law_client ?l__law_client ?e__law_client ?k__law_client ?a__law_fits ?l__law_fits ?e__law_fits ?k__law_fits ?a_law ?l_law ?e_law ?k_law ?ac_Group ?pg_Group ?hd_Group ?po_Group ?sa_Group ?mk_Group ?kc_Group ?na_Group_faults ?na_Group_machines ?na_Group_quorum ?na_Group_blocking ?a_Group____init__ ?i_Group____init__ ?l_Group____init__ ?e_Group____init__ ?k_Group____init__ ?a_Group__is_member ?i_Group__is_member ?l_Group__is_member ?e_Group__is_member ?k_Group__is_member ?xa_BadGroup ?xe_BadGroup ?xk_BadGroup ?xb_BadGroup ?xt_BadGroup ?xh_BadGroup ?xa_BadLetter ?xe_BadLetter ?xk_BadLetter ?xb_BadLetter ?xt_BadLetter ?xh_BadLetter ?a_FORMS ?l_FORMS ?kl_FORMS ?lo_FORMS ?vf_FORMS_vouch ?vf_FORMS_propose ?vf_FORMS_vote ?vf_FORMS_ready ?vf_FORMS_claim ?vf_FORMS_give ?vf_FORMS_command ?vf_FORMS_answer ?m_FORMS_0 ?u_BadGroup_BadGroup ?u_BadLetter_BadLetter ?a_MOST_ANSWER ?a_MOST_CLIENTS ?a_MOST_FAULTS ?a_MOST_NUMBER ?a_MOST_TEXT ?z_abs ?z_bool ?z_int ?z_isinstance ?z_len ?z_min ?z_range ?z_str ?z_tuple)
    (case a_is_integer => k_is)
    (case l_is_integer => k_is)
    (case e_is_integer => k_is)
    (case k_is_integer => k_is)
    (case a_is_printable => k_is)
    (case l_is_printable => k_is)
    (case e_is_printable => k_is)
    (case k_is_printable => k_is)
    (case a_is_short => k_is)
    (case l_is_short => k_is)
    (case e_is_short => k_is)
    (case k_is_short => k_is)
    (case a_is_client => k_is)
    (case l_is_client => k_is)
    (case e_is_client => k_is)
    (case k_is_client => k_is)
    (case a_is_number => k_is)
    (case l_is_number => k_is)
    (case e_is_number => k_is)
    (case k_is_number => k_is)
    (case a_is_command => k_is)
    (case l_is_command => k_is)
    (case e_is_command => k_is)
    (case k_is_command => k_is)
    (case a_is_command_list => k_is)
    (case l_is_command_list => k_is)
    (case e_is_command_list => k_is)
    (case k_is_command_list => k_is)
    (case a_is_block => k_is)
    (case l_is_block => k_is)
    (case e_is_block => k_is)
    (case k_is_block => k_is)
    (case a_is_height_above => k_is)
    (case l_is_height_above => k_is)
    (case e_is_height_above => k_is)
    (case k_is_height_above => k_is)
    (case a_holds_vouch => k_is)
    (case l_holds_vouch => k_is)
    (case e_holds_vouch => k_is)
    (case k_holds_vouch => k_is)
    (case a_holds_block => k_is)
    (case l_holds_block => k_is)
    (case e_holds_block => k_is)
    (case k_holds_block => k_is)
    (case a_holds_claim => k_is)
    (case l_holds_claim => k_is)
    (case e_holds_claim => k_is)
    (case k_holds_claim => k_is)
    (case a_holds_give => k_is)
    (case l_holds_give => k_is)
    (case e_holds_give => k_is)
    (case k_holds_give => k_is)
    (case a_holds_request => k_is)
    (case l_holds_request => k_is)
    (case e_holds_request => k_is)
    (case k_holds_request => k_is)
    (case a_holds_answer => k_is)
    (case l_holds_answer => k_is)
    (case e_holds_answer => k_is)
    (case k_holds_answer => k_is)
    (case a_is_letter => k_is)
    (case l_is_letter => k_is)
    (case e_is_letter => k_is)
    (case k_is_letter => k_is)
    (case a_route => k_is)
    (case l_route => k_is)
    (case e_route => k_is)
    (case k_route => k_is)
    (case a_check_letter => k_is)
    (case l_check_letter => k_is)
    (case e_check_letter => k_is)
    (case k_check_letter => k_is)
    (case a__law_draws => k_is)
    (case l__law_draws => k_is)
    (case e__law_draws => k_is)
    (case k__law_draws => k_is)
    (case a__law_next => k_is)
    (case l__law_next => k_is)
    (case e__law_next => k_is)
    (case k__law_next => k_is)
    (case a__law_big => k_is)
    (case l__law_big => k_is)
    (case e__law_big => k_is)
    (case k__law_big => k_is)
    (case a__law_char => k_is)
    (case l__law_char => k_is)
    (case e__law_char => k_is)
    (case k__law_char => k_is)
    (case a__law_string => k_is)
    (case l__law_string => k_is)
    (case e__law_string => k_is)
    (case k__law_string => k_is)
    (case a__law_command => k_is)
    (case l__law_command => k_is)
    (case e__law_command => k_is)
    (case k__law_command => k_is)
    (case a__law_commands => k_is)
    (case l__law_commands => k_is)
    (case e__law_commands => k_is)
    (case k__law_commands => k_is)
    (case a__law_block => k_is)
    (case l__law_block => k_is)
    (case e__law_block => k_is)
    (case k__law_block => k_is)
    (case a__law_truth => k_is)
    (case l__law_truth => k_is)
    (case e__law_truth => k_is)
    (case k__law_truth => k_is)
    (case a__law_letter => k_is)
    (case l__law_letter => k_is)
    (case e__law_letter => k_is)
    (case k__law_letter => k_is)
    (case a__law_spoilt => k_is)
    (case l__law_spoilt => k_is)
    (case e__law_spoilt => k_is)
    (case k__law_spoilt => k_is)
    (case a__law_route => k_is)
    (case l__law_route => k_is)
    (case e__law_route => k_is)
    (case k__law_route => k_is)
    (case a__law_checked => k_is)
    (case l__law_checked => k_is)
    (case e__law_checked => k_is)
    (case k__law_checked => k_is)
    (case a__law_end => k_is)
    (case l__law_end => k_is)
    (case e__law_end => k_is)
    (case k__law_end => k_is)
    (case a__law_machine => k_is)
    (case l__law_machine => k_is)
    (case e__law_machine => k_is)
    (case k__law_machine => k_is)
    (case a__law_client => k_is)
    (case l__law_client => k_is)
    (case e__law_client => k_is)
    (case k__law_client => k_is)
    (case a__law_fits => k_is)
    (case l__law_fits => k_is)
    (case e__law_fits => k_is)
    (case k__law_fits => k_is)
    (case a_law => k_is)
    (case l_law => k_is)
    (case e_law => k_is)
    (case k_law => k_is)
    (case ac_Group => k_is)
    (case pg_Group => k_is)
    (case hd_Group => k_is)
    (case po_Group => k_is)
    (case sa_Group => k_is)
    (case mk_Group => k_is)
    (case kc_Group => k_is)
    (case na_Group_faults => k_is)
    (case na_Group_machines => k_is)
    (case na_Group_quorum => k_is)
    (case na_Group_blocking => k_is)
    (case a_Group____init__ => k_is)
    (case i_Group____init__ => k_is)
    (case l_Group____init__ => k_is)
    (case e_Group____init__ => k_is)
    (case k_Group____init__ => k_is)
    (case a_Group__is_member => k_is)
    (case i_Group__is_member => k_is)
    (case l_Group__is_member => k_is)
    (case e_Group__is_member => k_is)
    (case k_Group__is_member => k_is)
    (case xa_BadGroup => k_is)
    (case xe_BadGroup => first | k_is | k_exc)
    (case xk_BadGroup => k_is)
    (case xb_BadGroup => k_is)
    (case xt_BadGroup => k_is)
    (case xh_BadGroup => k_is)
    (case xa_BadLetter => k_is)
    (case xe_BadLetter => first | k_is | k_exc)
    (case xk_BadLetter => k_is)
    (case xb_BadLetter => k_is)
    (case xt_BadLetter => k_is)
    (case xh_BadLetter => k_is)
    (case a_FORMS => k_is)
    (case l_FORMS => k_is)
    (case kl_FORMS => k_keys)
    (case lo_FORMS => decide)
    (case vf_FORMS_vouch => k_is)
    (case vf_FORMS_propose => k_is)
    (case vf_FORMS_vote => k_is)
    (case vf_FORMS_ready => k_is)
    (case vf_FORMS_claim => k_is)
    (case vf_FORMS_give => k_is)
    (case vf_FORMS_command => k_is)
    (case vf_FORMS_answer => k_is)
    (case m_FORMS_0 => k_is)
    (case u_BadGroup_BadGroup => k_is)
    (case u_BadLetter_BadLetter => k_is)
    (case a_MOST_ANSWER => k_is)
    (case a_MOST_CLIENTS => k_is)
    (case a_MOST_FAULTS => k_is)
    (case a_MOST_NUMBER => k_is)
    (case a_MOST_TEXT => k_is)
    (case z_abs => k_is)
    (case z_bool => k_is)
    (case z_int => k_is)
    (case z_isinstance => k_is)
    (case z_len => k_is)
    (case z_min => k_is)
    (case z_range => k_is)
    (case z_str => k_is)
    (case z_tuple => k_is)

