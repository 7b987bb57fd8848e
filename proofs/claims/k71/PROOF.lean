import PyProof.Rows.All
import Wide.All
import OpenK.AllK
import Wide.FinOn
import HandS.ForMost
import HandS.Walk
import HandS.Flow
import HandS.Codes
import HandS.IsInst
import HandS.Conv
import HandS.StrMore
import PyProof.MeetsSeq2
import PyProof.DictTable
import HandS.Wide
import HandS.TupAny
import HandS.More
import HandS.Dict
import HandS.ForExc
import HandS.ExcIs
import HandS.ExcField
import HandS.DeepEq
import HandS.TupLe
import HandS.Steps
import HandS.ExcInit
import HandS.SortRule
import HandS.RaiseMore
import HandS.Zip
import PySem.Challenge.RW_oathledger_k71_survivors_and_acts
set_option Elab.async false
set_option linter.all false
set_option maxRecDepth 100000
set_option maxHeartbeats 4000000
namespace Law
open PySem PySem.Spec PyProof.Rows L2
open C8 (Cal Met Mak pe_c pe_mk pe_mt pe_mt0 pe_gc pss_cut tCut)
/-! ### a def of the top, by its name -/
structure DefOk (K : PySem.W.Frag) (mg : Str → Option Value) (x : Str) (st : Stmt) (ps : List Str) : Prop where
  ex : ∃ (f : Addr) (fd : FuncData), L2.Fun K x x st f fd ∧ mg x = some (.ref f) ∧ Binds K fd ps []
section
variable {P : Program} {w : World} {K : PySem.W.Frag} {mg : Str → Option Value} {base : Heap}
/-- a def's promise, by its body -/
theorem cal {x : Str} {st : Stmt} {N ps : List Str} {k : Nat} {sp : Sp} (D : DefOk K mg x st ps) (S : FnScope N ps (defScope st)) (len : ∀ vs H Q E, sp vs H Q E → vs.length = ps.length)
    (hbody : ∀ (f : Addr) (cdv : Value) (A : Around) (outer : List Env) (s : Shared) (H : Hp) (vs : List V) (Q : VK) (E : XK), Room k (A.deeper (envOfC x (defScope st) s.heap.objs.size f cdv)) → sp vs H Q E →
      ∃ t, PSs (cxOf L2.CX0 P w K mg base N x (defScope st) f cdv A outer s H E).nox (defBody st) t ∧ t { nx := fun _ H' => Q .non H', rt := Q } (start N vs) H) : Cal P w K mg base (k + 1) x sp [] := by
  obtain ⟨f, fd, F, hm, b⟩ := D.ex
  exact ⟨f, fd, ps, [], F.ok S len (fun cdv A outer s H vs Q E hr h => hbody f cdv A outer s H vs Q E hr h), hm, F.kp, b, .nil⟩
/-- a call without arguments -/
theorem pe_c0 {X : Cx} {k j : Nat} {x : Str} {sp : Sp} {dvs : List V} {p pos : Pos} (c : Cal X.prog X.w X.K X.mg X.base k x sp dvs) (hr : Room j X.A) (hk : k ≤ j) (hg : Gl X x)
    (hdb : (x == ("__debug__" : Str)) = false := by decide) : PE X (.Call (.Name x p) [] [] pos) (tCall sp dvs L2.E0 tNil) := by
  obtain ⟨f, fd, ps, ds, F, hm, kp, b, d⟩ := c.ex
  exact pe_call0 F (hr.mono hk) hg hm kp b d pass0 hdb
end
/-! ### small things -/
theorem same_upd {H : Hp} {p : Addr} {o : HO} (h : H p = none) : Same H (upd H p o) := fun b x e => by
  rw [upd_ne (ne_of_none e h)]
  exact e
theorem same_mut {H H' : Hp} {p : Addr} {o : HO} (s : Same H H') (h : H p = none) : Same H (upd H' p o) := fun b x e => by
  rw [upd_ne (ne_of_none e h)]
  exact s b x e
theorem sz1000 {n : Nat} (h : n ≤ 100000) : n ≤ sizeLine := Nat.le_trans h (by decide)
theorem sz1000' {n : Nat} (h : n < 100000) : n < sizeLine := Nat.lt_of_lt_of_le h (by decide)
theorem sz1000'' {n : Nat} (h : n ≤ 16777216) : n ≤ sizeLine := by rw [sizeLine_eq]; exact h
theorem sq {K : PySem.W.Frag} {H : Hp} {a : Addr} {xs : List V} (h : H a = some (.lst xs)) : SqL K H a xs := .inl (.inl h)
def spLaw (K : PySem.W.Frag) : Sp := fun vs H Q _ => ∃ (a : Addr) (ns : List Int), vs = [.ref a] ∧ SqL K H a (ns.map V.int) ∧ ns.length ≤ 63 ∧ ∀ H', Q (.bl true) H'
/-! ### the reading, step by step -/
local macro_rules | `(tactic| walk_at "sd") => `(tactic| first
  | omega
  | decide
  | assumption
  | (show _ ∨ _; exact Or.inl ⟨by omega, by omega⟩)
  | (show _ ∨ _; exact Or.inr ⟨by omega, by omega⟩)
  | (show _ ∧ _; exact ⟨by omega, by omega⟩)
  | (show _ ∧ _; exact ⟨by decide, by decide⟩)
  | exact sz1000 (by omega)
  | exact sz1000' (by omega))
local macro_rules | `(tactic| walk_at "sz") => `(tactic| first
  | exact sz1000 (Nat.le_of_ble_eq_true rfl)
  | exact sz1000 (by omega)
  | exact sz1000'' (by omega)
  | assumption)
/-- one step of a reading: a slot, an operator upon numbers, a call upon values -/
local macro_rules | `(tactic| walk_at "rd") => `(tactic| first
  | refine ⟨_, (rfl : (_ : List (Option V))[_]? = some (some _)), ?_⟩
  | refine ⟨_, _, (rfl : (_ : V) = _), (rfl : (_ : V) = _), (by walk_at "sd" : (_ : Prop)), ?_⟩
  | refine ⟨_, _, (rfl : (_ : V) = _), (rfl : (_ : V) = _), ?_⟩
  | refine ⟨_, (rfl : (_ : List V) = _), (by walk_at "sd" : (_ : Prop)), (by walk_at "sd" : (_ : Prop)), ?_⟩
  | refine ⟨_, (rfl : (_ : List V) = _), ?_⟩
  | refine ⟨_, (rfl : (_ : V) = _), ?_⟩
  | refine .inl ⟨_, (rfl : (_ : List V) = _), ?_⟩
  | refine ⟨⟨_, (rfl : (_ : V) = _)⟩, ?_⟩
  | refine ⟨(rfl : scal _ _ = true), ?_⟩
  | refine ⟨(rfl : V.non = V.non), ?_⟩
  | refine ⟨(by walk_at "sz" : (_ ≤ sizeLine)), ?_⟩)
local macro_rules | `(tactic| walk_at "rds") => `(tactic| repeat walk_at "rd")
theorem tyes {σ : L2.St} {H : Hp} {A B : Hp → Prop} (h : A H) : tYes σ H (fun b H3 => if b = true then A H3 else B H3) := by
  show (if true = true then A H else B H)
  rw [if_pos rfl]
  exact h
theorem sum_ones {ys : List Str} (h : ∀ y ∈ ys, y.length = 1) : (ys.map (fun x => x.length)).sum = ys.length := by
  induction ys with
  | nil => rfl
  | cons y r ih =>
    rw [List.map_cons, List.sum_cons, ih (fun z hz => h z (List.mem_cons_of_mem _ hz)), h y List.mem_cons_self, List.length_cons]
    omega
theorem chr_at {z : Str} {i : Int} (h0 : 0 ≤ i) (h1 : i < z.length) : ∃ c, atI z.cps.toList i = some c := by
  obtain ⟨j, rfl⟩ := Int.eq_ofNat_of_zero_le h0
  have hj : j < z.cps.toList.length := by
    rw [Array.length_toList]
    exact Int.ofNat_lt.mp h1
  exact ⟨z.cps.toList[j], atI_nat (List.getElem?_eq_getElem hj)⟩
/-- what an append to a tracked new list leaves -/
theorem lst_app {α : Type} {H : Hp} {D : Addr} {f : α → V} {ys : List α} {y : α} : upd H D (.lst (ys.map f ++ [f y])) D = some (.lst ((ys ++ [y]).map f)) := by
  rw [upd_same, List.map_append]
  rfl
theorem rg40 {n : Nat} (h : n ≤ 100000) : RgC 0 n 40 ((n + 39) / 40) := by
  have e : Builtin.Range.rangeSize 0 (n : Int) 40 = (((n + 39) / 40 : Nat) : Int) := by
    rw [rangeSize_pos (by decide) (by omega)]
    omega
  refine ⟨by decide, by decide, ?_, e⟩
  unfold Builtin.Range.small
  rw [e]
  unfold Builtin.Range.rangeFitsLong
  simp
  omega
theorem isi {K : PySem.W.Frag} {H : Hp} {x : V} {T1 T2 : String} {b : Bool} {Q : VK} (ty : TyX K H x (.type T1)) (e : kitB T1 T2 = some b) (q : Q (.bl b) H) : rIsi K [x, .ty T2] H Q :=
  ⟨x, .ty T2, _, _, b, rfl, .ty _, ty, kit_ty e, q⟩
theorem ifT {c : Bool} {A B : Prop} (hc : c = true) (h : A) : if c = true then A else B := by
  rw [if_pos hc]
  exact h
theorem ifF {c : Bool} {A B : Prop} (hc : c = false) (h : B) : if c = true then A else B := by
  rw [if_neg (by rw [hc]; decide)]
  exact h
local macro_rules | `(tactic| walk_at "isk") => `(tactic| first
  | exact .base (.int _) | exact .base (.str _) | exact .base (.bl _) | exact .base .non
  | exact .base (.lst (by assumption)) | exact .base (.tup (by assumption)) | exact .base (.dK (by assumption)))
/-- isinstance(x, T) with a built-in T; the object's fact stands in the context -/
local macro_rules | `(tactic| walk_at "isi") => `(tactic| first
  | refine ⟨_, .ty _, _, _, true, (rfl : (_ : List V) = _), .ty _, (by walk_at "isk"), kit_ty (by decide +kernel), ?_⟩
  | refine ⟨_, .ty _, _, _, false, (rfl : (_ : List V) = _), .ty _, (by walk_at "isk"), kit_ty (by decide +kernel), ?_⟩)
/-! ### classes of the top -/
structure MethOk (K : PySem.W.Frag) (C : Addr) (m qual : Str) (st : Stmt) (ps : List Str) : Prop where
  ex : ∃ (f : Addr) (fd : FuncData), Meth K C m f ∧ L2.Fun K m qual st f fd ∧ Binds K fd ps []
structure MakOk (K : PySem.W.Frag) (C : Addr) (qual : Str) (st : Stmt) (ps : List Str) : Prop where
  ex : ∃ (f : Addr) (fd : FuncData), Mk K C f ∧ L2.Fun K "__init__" qual st f fd ∧ Binds K fd ps []
section
variable {P : Program} {w : World} {K : PySem.W.Frag} {mg : Str → Option Value} {base : Heap}
theorem met {C : Addr} {m qual : Str} {st : Stmt} {N ps : List Str} {k : Nat} {sp : Sp} (c : Cls K C) (D : MethOk K C m qual st ps) (S : FnScope N ps (defScope st)) (len : ∀ vs H Q E, sp vs H Q E → vs.length = ps.length)
    (hbody : ∀ (f : Addr) (cdv : Value) (A : Around) (outer : List Env) (s : Shared) (H : Hp) (vs : List V) (Q : VK) (E : XK), Room k (A.deeper (envOfC qual (defScope st) s.heap.objs.size f cdv)) → sp vs H Q E →
      ∃ t, PSs (cxOf L2.CX0 P w K mg base N qual (defScope st) f cdv A outer s H E).nox (defBody st) t ∧ t { nx := fun _ H' => Q .non H', rt := Q } (start N vs) H) : Met P w K mg base (k + 1) C m sp [] := by
  obtain ⟨f, fd, M, F, b⟩ := D.ex
  exact ⟨f, fd, ps, [], c, M, F.ok S len (fun cdv A outer s H vs Q E hr h => hbody f cdv A outer s H vs Q E hr h), b, .nil⟩
theorem mak {C : Addr} {x qual : Str} {st : Stmt} {N ps : List Str} {k : Nat} {sp : Sp} (hm : mg x = some (.ref C)) (D : MakOk K C qual st ps) (S : FnScope N ps (defScope st)) (len : ∀ vs H Q E, sp vs H Q E → vs.length = ps.length)
    (hbody : ∀ (f : Addr) (cdv : Value) (A : Around) (outer : List Env) (s : Shared) (H : Hp) (vs : List V) (Q : VK) (E : XK), Room k (A.deeper (envOfC qual (defScope st) s.heap.objs.size f cdv)) → sp vs H Q E →
      ∃ t, PSs (cxOf L2.CX0 P w K mg base N qual (defScope st) f cdv A outer s H E).nox (defBody st) t ∧ t { nx := fun _ H' => Q .non H', rt := Q } (start N vs) H) : Mak P w K mg base (k + 1) x C sp [] := by
  obtain ⟨f, fd, M, F, b⟩ := D.ex
  exact ⟨f, fd, ps, [], M, F.ok S len (fun cdv A outer s H vs Q E hr h => hbody f cdv A outer s H vs Q E hr h), hm, b, .nil⟩
end
/-- a tuple of the top, in the written part -/
def KTup (K : PySem.W.Frag) (a : Addr) (xs : List V) : Prop := ∃ o its n, K.lookup a = some o ∧ o.cls = Value.type "tuple" ∧ o.data = Data.seq its n ∧ its.size ≤ sizeLine ∧ Vals xs its.toList
theorem pe_mk0 {X : Cx} {k j : Nat} {x : Str} {C : Addr} {sp : Sp} {dvs : List V} {p pos : Pos} (c : Mak X.prog X.w X.K X.mg X.base k x C sp dvs) (hr : Room j X.A) (hk : k + 1 ≤ j) (hg : Gl X x)
    (hdb : (x == ("__debug__" : Str)) = false := by decide) : PE X (.Call (.Name x p) [] [] pos) (tMake C sp dvs L2.E0 tNil) := by
  obtain ⟨f, fd, ps, ds, M, F, hm, b, d⟩ := c.ex
  exact pe_make0 M F (hr.mono hk) hg hm b d pass0 hdb
/-! ### rules whose written part is named K (a comprehension's context is another one) -/
section
variable {X : Cx} {K : PySem.W.Frag}
theorem kin (h : X.K = K := by rfl) : OpR X (compareOp .In) (rIn K false) := by subst h; exact op_in_seq
theorem knin (h : X.K = K := by rfl) : OpR X (compareOp .NotIn) (rIn K true) := by subst h; exact op_notIn_seq
theorem kixl (h : X.K = K := by rfl) : IxR X (rIxL K) := by subst h; exact ix_list
theorem kixt (h : X.K = K := by rfl) : IxR X (rIxT K) := by subst h; exact ix_tup
theorem ksll (h : X.K = K := by rfl) : SlR X (rSlL K) := by subst h; exact sl_list
theorem kisi (h : X.K = K := by rfl) : CallR X (.builtin "isinstance") (rIsi K) := by subst h; exact call_isi
theorem kfld {o : Expr} {f : Str} {pos : Pos} {ta : TE} (he : PE X o ta) (hb : attributeBase o f X.env (eval o X.env) = eval o X.env := by rfl) (h : X.K = K := by rfl) : PE X (.Attribute o f pos) (tFld K ta f) := by subst h; exact pe_fld he hb
def rLenK (K : PySem.W.Frag) : List V → Hp → VK → Prop := fun xs H Q => ∃ p ys, xs = [.ref p] ∧ (SqL K H p ys ∨ SqT K H p ys) ∧ Q (.int ys.length) H
theorem klen (h : X.K = K := by rfl) : CallR X (.builtin "len") (rLenK K) := by subst h; exact call_len_seq
end
theorem hu1 {k : Nat} {A : Around} (hr : Room k A) : A.units + 1 < cLine := by have := hr.units; omega
section
variable {X : Cx}
theorem kdin {d : Addr} (h : ∃ es n, KDict X.K X.w d es n) : OpR X (compareOp .In) (fun x y H Q => ∃ (z : Str) (r : Option Value), x = .str z ∧ y = .ref d ∧ PySem.W.nsIn X.K d z = some r ∧ Q (.bl r.isSome) H) := by
  obtain ⟨es, n, D⟩ := h
  exact op_in_kd D
theorem kdnin {d : Addr} (h : ∃ es n, KDict X.K X.w d es n) : OpR X (compareOp .NotIn) (fun x y H Q => ∃ (z : Str) (r : Option Value), x = .str z ∧ y = .ref d ∧ PySem.W.nsIn X.K d z = some r ∧ Q (.bl (!r.isSome)) H) := by
  obtain ⟨es, n, D⟩ := h
  exact op_notIn_kd D
end

/-! ### defs that raise own exceptions -/
theorem kit_own {K : PySem.W.Frag} {B C : Addr} (h1 : PySem.W.subIn K (.ref C) (.type "BaseException") = some true) (h2 : PySem.W.typeIn K (.ref C) = some (.type "type")) (h3 : PySem.W.subIn K (.ref B) (.ref C) = some true) : PySem.W.kitOne K (.ref B) (.ref C) = some true := by
  have h0 : (PySem.W.clsIn K C).isSome = true := by
    have h1 : PySem.W.mroIn K C (.type "BaseException") = some true := h1
    unfold PySem.W.mroIn at h1
    cases e : PySem.W.clsIn K C with
    | some _ => rfl
    | none => rw [e] at h1; cases h1
  unfold PySem.W.kitOne
  split
  · rfl
  · show (if ((PySem.W.clsIn K C).isSome && PySem.W.typeIn K (.ref C) == some (.type "type")) = true then PySem.W.subIn K (.ref B) (.ref C) else none) = some true
    rw [h0, h2, h3]
    rfl
section
variable {X : Cx}
/-- C() of an own exception class without an __init__ of its own -/
theorem pmk_own0 {x : Str} {C : Addr} {bmB : List Value} {B newId initId : String} {p pos : Pos} (F : ExcBaseFacts B newId initId bmB) (q : PySem.W.excIn X.K C bmB newId = true) (gC : X.mg x = some (.ref C)) (kC : PySem.W.keepIn X.K (.ref C) = true) (r : Raises X (.ref C)) (hg : Gl X x)
    (hdb : (x == ("__debug__" : Str)) = false := by decide) : PMk X (.Call (.Name x p) [] [] pos) (fun _ H Q => Q (.ref C) none H) := by
  intro pins s σ H Q I h
  refine wpAny_Call_Name_kw (ld_glob I hg gC ?_ hdb)
  refine PySem.W.callWith_K0 I.kIn kC ?_
  show wpAny _ _ (call (.ref C) []) _ _ _
  obtain ⟨bm, N, nm, qn, bs, hdct, sn, sub, ab, col, dd, k0, k1, k2, k3, k5, mN, hC, hN, hni, T⟩ := exc_obj I.kIn q
  refine wpAny_call_exc_subT F T hC hN hni (fun h' e hm => ?_) (Nat.zero_le _)
  exact mk_of I hm r h (I.hok.gone hm.new)
end
/-- an own exception class over ValueError -/
structure ExOk (K : PySem.W.Frag) (mg : Str → Option Value) (x : Str) (C : Addr) : Prop where
  ex : PySem.W.excIn K C [.type "ValueError", .type "Exception", .type "BaseException", .type "object"] "ValueError.__new__" = true
  g : mg x = some (.ref C)
  kp : PySem.W.keepIn K (.ref C) = true
  bp : PySem.W.subIn K (.ref C) (.type "BaseException") = some true
  tp : PySem.W.typeIn K (.ref C) = some (.type "type")
  hd : PySem.W.hasDictIn K C = true
theorem ExOk.exm {K : PySem.W.Frag} {mg : Str → Option Value} {x : Str} {C : Addr} {cls : Value} {b : Bool} (e : ExOk K mg x C) (h : PySem.W.subIn K cls (.ref C) = some b) : PySem.W.exmOne K cls (.ref C) = some b := PySem.W.exm_ref e.bp e.hd e.tp h
theorem pmk_ok {X : Cx} {x : Str} {C : Addr} {p pos : Pos} (e : ExOk X.K X.mg x C) (hg : Gl X x) (hdb : (x == ("__debug__" : Str)) = false := by decide) : PMk X (.Call (.Name x p) [] [] pos) (fun _ H Q => Q (.ref C) none H) :=
  pmk_own0 PySem.F.excBase_ValueError e.ex e.g e.kp (raises_own e.bp e.tp) hg hdb
/-! the promises of such defs -/
structure CalX (P : Program) (w : World) (K : PySem.W.Frag) (mg : Str → Option Value) (base : Heap) (k : Nat) (x : Str) (sp : Sp) : Prop where
  ex : ∃ (f : Addr) (fd : FuncData) (ps : List Str), FnOk P w K mg base (L2.CX P w) k f fd ps sp ∧ mg x = some (.ref f) ∧ PySem.W.keepIn K (.ref f) = true ∧ Binds K fd ps []
structure MetX (P : Program) (w : World) (K : PySem.W.Frag) (mg : Str → Option Value) (base : Heap) (k : Nat) (C : Addr) (m : Str) (sp : Sp) : Prop where
  ex : ∃ (f : Addr) (fd : FuncData) (ps : List Str), Cls K C ∧ Meth K C m f ∧ FnOk P w K mg base (L2.CX P w) k f fd ps sp ∧ Binds K fd ps []
structure MakX (P : Program) (w : World) (K : PySem.W.Frag) (mg : Str → Option Value) (base : Heap) (k : Nat) (x : Str) (C : Addr) (sp : Sp) : Prop where
  ex : ∃ (f : Addr) (fd : FuncData) (ps : List Str), Mk K C f ∧ FnOk P w K mg base (L2.CX P w) k f fd ps sp ∧ mg x = some (.ref C) ∧ Binds K fd ps []
section
variable {P : Program} {w : World} {K : PySem.W.Frag} {mg : Str → Option Value} {base : Heap}
theorem calX {x : Str} {st : Stmt} {N ps : List Str} {k : Nat} {sp : Sp} (D : DefOk K mg x st ps) (S : FnScope N ps (defScope st)) (len : ∀ vs H Q E, sp vs H Q E → vs.length = ps.length)
    (hbody : ∀ (f : Addr) (cdv : Value) (A : Around) (outer : List Env) (s : Shared) (H : Hp) (vs : List V) (Q : VK) (E : XK), Room k (A.deeper (envOfC x (defScope st) s.heap.objs.size f cdv)) → sp vs H Q E →
      ∃ t, PSs (cxOf (L2.CX P w) P w K mg base N x (defScope st) f cdv A outer s H E) (defBody st) t ∧ t { nx := fun _ H' => Q .non H', rt := Q } (start N vs) H) : CalX P w K mg base (k + 1) x sp := by
  obtain ⟨f, fd, F, hm, b⟩ := D.ex
  exact ⟨f, fd, ps, F.okX S len (fun cdv A outer s H vs Q E hr h => hbody f cdv A outer s H vs Q E hr h), hm, F.kp, b⟩
theorem metX {C : Addr} {m qual : Str} {st : Stmt} {N ps : List Str} {k : Nat} {sp : Sp} (c : Cls K C) (D : MethOk K C m qual st ps) (S : FnScope N ps (defScope st)) (len : ∀ vs H Q E, sp vs H Q E → vs.length = ps.length)
    (hbody : ∀ (f : Addr) (cdv : Value) (A : Around) (outer : List Env) (s : Shared) (H : Hp) (vs : List V) (Q : VK) (E : XK), Room k (A.deeper (envOfC qual (defScope st) s.heap.objs.size f cdv)) → sp vs H Q E →
      ∃ t, PSs (cxOf (L2.CX P w) P w K mg base N qual (defScope st) f cdv A outer s H E) (defBody st) t ∧ t { nx := fun _ H' => Q .non H', rt := Q } (start N vs) H) : MetX P w K mg base (k + 1) C m sp := by
  obtain ⟨f, fd, M, F, b⟩ := D.ex
  exact ⟨f, fd, ps, c, M, F.okX S len (fun cdv A outer s H vs Q E hr h => hbody f cdv A outer s H vs Q E hr h), b⟩
theorem makX {C : Addr} {x qual : Str} {st : Stmt} {N ps : List Str} {k : Nat} {sp : Sp} (hm : mg x = some (.ref C)) (D : MakOk K C qual st ps) (S : FnScope N ps (defScope st)) (len : ∀ vs H Q E, sp vs H Q E → vs.length = ps.length)
    (hbody : ∀ (f : Addr) (cdv : Value) (A : Around) (outer : List Env) (s : Shared) (H : Hp) (vs : List V) (Q : VK) (E : XK), Room k (A.deeper (envOfC qual (defScope st) s.heap.objs.size f cdv)) → sp vs H Q E →
      ∃ t, PSs (cxOf (L2.CX P w) P w K mg base N qual (defScope st) f cdv A outer s H E) (defBody st) t ∧ t { nx := fun _ H' => Q .non H', rt := Q } (start N vs) H) : MakX P w K mg base (k + 1) x C sp := by
  obtain ⟨f, fd, M, F, b⟩ := D.ex
  exact ⟨f, fd, ps, M, F.okX S len (fun cdv A outer s H vs Q E hr h => hbody f cdv A outer s H vs Q E hr h), hm, b⟩
end
/-! their calls: E tells at the slots what is wished of an error -/
section
variable {X : Cx} {k j : Nat} {C : Addr} {x m : Str} {sp : Sp} {p pos apos : Pos} {e o : Expr} {es : List Expr} {ta : TE} {t : TA} {E : L2.St → XK}
theorem pe_cX (c : CalX X.prog X.w X.K X.mg X.base k x sp) (hr : Room j X.A) (hk : k ≤ j) (hg : Gl X x) (hx : ∀ σ, PassesAt (L2.CX X.prog X.w) X σ (E σ)) (ha : PA X (e :: es) t)
    (hdb : (x == ("__debug__" : Str)) = false := by decide) (he : starEach (e :: es) X.env = (false, eval e X.env) :: starEach es X.env := by rfl) (hpl : (backTo pos (starEach es X.env)).any (·.1) = false := by rfl) :
    PE X (.Call (.Name x p) (e :: es) [] pos) (tCallS sp E t) := by
  obtain ⟨f, fd, ps, F, hm, kp, b⟩ := c.ex
  exact pe_callS F (hr.mono hk) hg hm kp b hx ha hdb he hpl
/-- where nothing is raised -/
theorem pe_cXn (c : CalX X.prog X.w X.K X.mg X.base k x sp) (hr : Room j X.A) (hk : k ≤ j) (hg : Gl X x) (ha : PA X (e :: es) t)
    (hdb : (x == ("__debug__" : Str)) = false := by decide) (he : starEach (e :: es) X.env = (false, eval e X.env) :: starEach es X.env := by rfl) (hpl : (backTo pos (starEach es X.env)).any (·.1) = false := by rfl) :
    PE X (.Call (.Name x p) (e :: es) [] pos) (tCall sp [] L2.E0 t) := by
  obtain ⟨f, fd, ps, F, hm, kp, b⟩ := c.ex
  exact pe_call F (hr.mono hk) hg hm kp b .nil passL ha hdb he hpl
def tMethX (C : Addr) (m : Str) (sp : Sp) (E : L2.St → XK) (ta : TE) (t : TA) : TE := fun σ H Q => ta σ H fun x H1 => ∃ a dx fs, x = .ref a ∧ H1 a = some (.ins C dx fs) ∧ fs.lookup m = none ∧ t σ H1 fun vs H2 => sp (.ref a :: vs) H2 Q (E σ)
theorem pe_mtX {pl : Sem Bool} (c : MetX X.prog X.w X.K X.mg X.base k C m sp) (hr : Room j X.A) (hk : k ≤ j) (hx : ∀ σ, PassesAt (L2.CX X.prog X.w) X σ (E σ)) (he : PE X o ta) (ha : PA X (e :: es) t)
    (hst : starEach (e :: es) X.env = (false, eval e X.env) :: starEach es X.env := by rfl) (hpl : (backTo pos (starEach es X.env)).any (·.1) = false := by rfl)
    (ht : eval (.Call (.Attribute o m apos) (e :: es) [] pos) X.env = (do
      let ov ← eval o X.env
      standAt apos.atName
      let (f, first) ← holding [ov] (getMethod ov m pl)
      callWith pos f first (backTo pos (starEach (e :: es) X.env)) (backToKw pos (keywordEach [] X.env))) := by rfl) :
    PE X (.Call (.Attribute o m apos) (e :: es) [] pos) (tMethX C m sp E ta t) := by
  obtain ⟨f, fd, ps, hc, hm, F, b⟩ := c.ex
  refine ⟨fun pins s σ H Q I h => ?_⟩
  refine PySem.W.methodCall_KW (pl := pl) (thn (he.run pins s σ H _ I h) fun u s1 ⟨x, H1, I1, rx, a, dx, fs, ex, ea, l, q⟩ => ?_) ht
  subst ex
  obtain rfl : u = Value.ref a := rx
  refine getmeth_ok I1 ea hc hm l ?_
  refine PySem.W.callWith_K (first := [.ref a]) (h₀ := X.base) I.ok.mod.kin hm.kp (thn (ha.run pos pins s1 σ H1 _ I1 q) fun us s2 ⟨vs, H2, I2, r, q2⟩ => ⟨I2.kIn, ?_⟩) hst hpl
  exact run_fnS (us := .ref a :: us) (vs := .ref a :: vs) F (hr.mono hk) b (hx σ) I2 (.cons rfl r) q2
theorem pe_mtX0 {pl : Sem Bool} (c : MetX X.prog X.w X.K X.mg X.base k C m sp) (hr : Room j X.A) (hk : k ≤ j) (hx : ∀ σ, PassesAt (L2.CX X.prog X.w) X σ (E σ)) (he : PE X o ta)
    (ht : eval (.Call (.Attribute o m apos) [] [] pos) X.env = (do
      let ov ← eval o X.env
      standAt apos.atName
      let (f, first) ← holding [ov] (getMethod ov m pl)
      callWith pos f first (backTo pos (starEach [] X.env)) (backToKw pos (keywordEach [] X.env))) := by rfl) :
    PE X (.Call (.Attribute o m apos) [] [] pos) (tMethX C m sp E ta tNil) := by
  obtain ⟨f, fd, ps, hc, hm, F, b⟩ := c.ex
  refine ⟨fun pins s σ H Q I h => ?_⟩
  refine PySem.W.methodCall_KW (pl := pl) (thn (he.run pins s σ H _ I h) fun u s1 ⟨x, H1, I1, rx, a, dx, fs, ex, ea, l, q⟩ => ?_) ht
  subst ex
  obtain rfl : u = Value.ref a := rx
  refine getmeth_ok I1 ea hc hm l ?_
  exact PySem.W.callWith_K0 (first := [.ref a]) I1.kIn hm.kp (run_fnS (us := [.ref a]) (vs := [.ref a]) F (hr.mono hk) b (hx σ) I1 (.cons rfl .nil) q)
def tMakeX (C : Addr) (sp : Sp) (E : L2.St → XK) (t : TA) : TE := fun σ H Q => t σ H fun vs H1 => ∀ x dx, H1 x = none → H1 dx = none → dx ≠ x → sp (.ref x :: vs) (upd (upd H1 dx (.own x)) x (.ins C dx [])) (fun v H2 => v = .non ∧ Q (.ref x) H2) (E σ)
theorem run_makeX {CX : CXT} {f : Addr} {fd : FuncData} {ps : List Str} {pins : List (Addr × Obj)} {σ : L2.St} {H : Hp} {s : Shared} {Q : VK} {us : List Value} {vs : List V} {Eσ : XK} (M : Mk X.K C f) (F : FnOk X.prog X.w X.K X.mg X.base CX k f fd ps sp) (hr : Room (k + 1) X.A) (hb : Binds X.K fd ps [])
    (hx : PassesAt CX X σ Eσ) (I : Inv X pins σ H s) (r : Vals vs us)
    (h : ∀ x dx, H x = none → H dx = none → dx ≠ x → sp (.ref x :: vs) (upd (upd H dx (.own x)) x (.ins C dx [])) (fun v H2 => v = .non ∧ Q (.ref x) H2) Eσ) :
    wpAny (model X.prog X.w) X.A (call (.ref C) us) (EP X pins σ Q) X.xe s := by
  have hq := h (s.heap.objs.size + 1) s.heap.objs.size (I.hok.fresh (Nat.le_succ _)) (I.hok.fresh (Nat.le_refl _)) (Nat.ne_of_lt (Nat.lt_succ_self _))
  have I2 := Inv.made (C := C) I
  have r2 : Vals (V.ref (s.heap.objs.size + 1) :: vs) (Value.ref (s.heap.objs.size + 1) :: us) := .cons rfl r
  have hl : (Value.ref (s.heap.objs.size + 1) :: us ++ ([] : List Value)).length = ps.length := by
    have e := r2.length
    rw [F.len _ _ _ _ hq] at e
    rw [List.append_nil]
    exact e.symm
  have hb' := hb _ (Value.ref (s.heap.objs.size + 1) :: us) I2.kIn hl
  rw [List.append_nil] at hb'
  refine wpAny_call (make_map (f := f) I.kIn M.makes M.init (beq_iff_eq.mp M.fn) (codeAny_mono (F.run _ X.stack _ _ ⟨Value.ref (s.heap.objs.size + 1) :: us, []⟩ (Value.ref (s.heap.objs.size + 1) :: us) _ _ Eσ (hr.make C us [])
    (I2.env0.make C us []) hb' r2 hq) fun r s' hq' => ?_))
  cases r with
  | error e => exact hx pins _ _ e s' I2 hq'
  | ok fl =>
    cases fl with
    | ret u =>
      obtain ⟨v, H', I3, rv, ev, q3⟩ := I2.after hq'
      subst ev
      exact ⟨rv, ⟨V.ref (s.heap.objs.size + 1), H', I3, rfl, q3⟩⟩
    | next => exact False.elim hq'
    | brk => exact False.elim hq'
    | cont => exact False.elim hq'
theorem pe_mkX (c : MakX X.prog X.w X.K X.mg X.base k x C sp) (hr : Room j X.A) (hk : k + 1 ≤ j) (hg : Gl X x) (hx : ∀ σ, PassesAt (L2.CX X.prog X.w) X σ (E σ)) (ha : PA X (e :: es) t)
    (hdb : (x == ("__debug__" : Str)) = false := by decide) (he : starEach (e :: es) X.env = (false, eval e X.env) :: starEach es X.env := by rfl) (hpl : (backTo pos (starEach es X.env)).any (·.1) = false := by rfl) :
    PE X (.Call (.Name x p) (e :: es) [] pos) (tMakeX C sp E t) := by
  obtain ⟨f, fd, ps, M, F, hm, b⟩ := c.ex
  refine ⟨fun pins s σ H Q I h => ?_⟩
  refine wpAny_Call_Name_kw (ld_glob I hg hm ?_ hdb)
  refine PySem.W.callWith_K (h₀ := X.base) I.ok.mod.kin M.kp (thn (ha.run pos pins s σ H _ I h) fun us s1 ⟨vs, H1, I1, r, q⟩ => ⟨I1.kIn, ?_⟩) he hpl
  exact run_makeX M F (hr.mono hk) b (hx σ) I1 r q
/-- where nothing is let out: for the calls above in a def without errors -/
theorem no_pass : ∀ σ : L2.St, PassesAt (L2.CX X.prog X.w) X σ ((fun _ => L2.E0) σ) := fun σ pins H s e s' I c => passL pins σ H s e s' I c
end

/-! ### own exceptions with an __init__ of their own -/
structure ExI (K : PySem.W.Frag) (mg : Str → Option Value) (x : Str) (C : Addr) : Prop where
  g : mg x = some (.ref C)
  ox : OexC K C
  xf : XfC K C
theorem ExI.exm {K : PySem.W.Frag} {mg : Str → Option Value} {x : Str} {C : Addr} {cls : Value} {b : Bool} (e : ExI K mg x C) (h : PySem.W.subIn K cls (.ref C) = some b) : PySem.W.exmOne K cls (.ref C) = some b := PySem.W.exm_ref e.ox.exC e.xf.hdC e.ox.tyC h
structure ExInit (K : PySem.W.Frag) (C : Addr) (qual : Str) (st : Stmt) (ps : List Str) : Prop where
  ex : ∃ (f : Addr) (fd : FuncData), PySem.W.findIn K (.ref C) "__init__" = some (some (.ref f)) ∧ PySem.W.typeIn K (.ref f) = some (.type "function") ∧ L2.Fun K "__init__" qual st f fd ∧ Binds K fd ps []
structure ExMk (P : Program) (w : World) (K : PySem.W.Frag) (mg : Str → Option Value) (base : Heap) (k : Nat) (x : Str) (C : Addr) (sp : Sp) : Prop where
  ex : ∃ (f : Addr) (fd : FuncData) (ps : List Str), OexC K C ∧ PySem.W.findIn K (.ref C) "__init__" = some (some (.ref f)) ∧ PySem.W.typeIn K (.ref f) = some (.type "function") ∧ FnOk P w K mg base L2.CX0 k f fd ps sp ∧ Binds K fd ps [] ∧ mg x = some (.ref C)
section
variable {P : Program} {w : World} {K : PySem.W.Frag} {mg : Str → Option Value} {base : Heap}
theorem exmk {C : Addr} {x qual : Str} {st : Stmt} {N ps : List Str} {k : Nat} {sp : Sp} (e : ExI K mg x C) (D : ExInit K C qual st ps) (S : FnScope N ps (defScope st)) (len : ∀ vs H Q E, sp vs H Q E → vs.length = ps.length)
    (hbody : ∀ (f : Addr) (cdv : Value) (A : Around) (outer : List Env) (s : Shared) (H : Hp) (vs : List V) (Q : VK) (E : XK), Room k (A.deeper (envOfC qual (defScope st) s.heap.objs.size f cdv)) → sp vs H Q E →
      ∃ t, PSs (cxOf L2.CX0 P w K mg base N qual (defScope st) f cdv A outer s H E).nox (defBody st) t ∧ t { nx := fun _ H' => Q .non H', rt := Q } (start N vs) H) : ExMk P w K mg base (k + 1) x C sp := by
  obtain ⟨f, fd, h1, h2, F, b⟩ := D.ex
  exact ⟨f, fd, ps, e.ox, h1, h2, F.ok S len (fun cdv A outer s H vs Q E hr h => hbody f cdv A outer s H vs Q E hr h), b, e.g⟩
end
theorem pmk_ei {X : Cx} {k j : Nat} {x : Str} {C : Addr} {sp : Sp} {ta : TA} {p pos : Pos} {e : Expr} {es : List Expr} (c : ExMk X.prog X.w X.K X.mg X.base k x C sp) (hr : Room j X.A) (hk : k + 1 ≤ j) (hg : Gl X x) (ha : PA X (e :: es) ta)
    (hdb : (x == ("__debug__" : Str)) = false := by decide) (he : starEach (e :: es) X.env = (false, eval e X.env) :: starEach es X.env := by rfl) (hpl : (backTo pos (starEach es X.env)).any (·.1) = false := by rfl) :
    PMk X (.Call (.Name x p) (e :: es) [] pos) (tMkO C sp [] ta) := by
  obtain ⟨f, fd, ps, T, iC, tI, F1, hb, hm⟩ := c.ex
  exact pmk_oex T iC tI F1 (hr.mono hk) hb .nil pass0 hg hm ha hdb he hpl
/-- what an __init__ of two fields leaves -/
def spInit2 (C : Addr) (f g : Str) : Sp := fun vs H Q _ => ∃ (a : Addr) (r s : V), vs = [.ref a, r, s] ∧ H a = some (exo a C none) ∧
  ∀ d, H d = none → d ≠ a → Q .non (upd (upd (upd H d (exd d [(f, r)])) a (exo a C (some d))) d (exd d [(g, s), (f, r)]))
/-- its use where it is raised -/
theorem mk_two {C : Addr} {f g : Str} {H1 : Hp} {Q : XK} {r s : V} (q : ∀ H' d, Same H1 H' → H1 d = none → H' d = some (.xd [(g, s), (f, r)]) → Q (.ref C) (some d) H') :
    ([r, s] : List V).length ≤ 1000 ∧ ∀ a, H1 a = none → spInit2 C f g (.ref a :: ([r, s] ++ [])) (upd H1 a (exo a C none)) (fun v H2 => v = .non ∧ ∃ (d : Addr) (fs : List (Str × V)), H2 a = some (exo a C (some d)) ∧ H2 d = some (exd d fs) ∧ H1 d = none ∧ Q (.ref C) (some d) (upd (del H2 a) d (.xd fs))) (fun _ _ _ => False) := by
  refine ⟨by show 2 ≤ 1000; decide, fun a ha => ⟨a, r, s, rfl, upd_same, fun d hd hne => ⟨rfl, d, [(g, s), (f, r)], ?_, upd_same, ?_, q _ d ?_ ?_ upd_same⟩⟩⟩
  · rw [upd_ne hne.symm, upd_same]
  · rw [upd_ne hne] at hd; exact hd
  · intro b o e
    have hb : b ≠ d := fun z => by rw [z] at e; rw [upd_ne hne] at hd; rw [hd] at e; cases e
    have hba : b ≠ a := fun z => by rw [z, ha] at e; cases e
    rw [upd_ne hb, del_ne hba, upd_ne hb, upd_ne hba, upd_ne hb, upd_ne hba]
    exact e
  · rw [upd_ne hne] at hd; exact hd

def topS (i : Nat) : Stmt := PySem.Challenge.pw_oathledger_k71_survivors_and_acts.main.body.getD i (.Pass ⟨0, 0, 0, 0⟩)
abbrev s_BadSchedule____init__ : Stmt := inClass (topS 2) 0
theorem sc_BadSchedule____init__ : FnScope ["self", "line", "reason"] ["self", "line", "reason"] (defScope s_BadSchedule____init__) := ⟨rfl, rfl, rfl, by decide +kernel, rfl, by decide +kernel, by decide +kernel⟩
abbrev s_is_integer : Stmt := topS 5
theorem sc_is_integer : FnScope ["value", "least", "greatest"] ["value", "least", "greatest"] (defScope s_is_integer) := ⟨rfl, rfl, rfl, by decide +kernel, rfl, by decide +kernel, by decide +kernel⟩
abbrev s_check_act : Stmt := topS 9
theorem sc_check_act : FnScope ["act", "kinds", "kind", "item"] ["act"] (defScope s_check_act) := ⟨rfl, rfl, rfl, by decide +kernel, rfl, by decide +kernel, by decide +kernel⟩
abbrev s_survivors : Stmt := topS 10
theorem sc_survivors : FnScope ["keep", "count", "flags", "_"] ["keep", "count"] (defScope s_survivors) := ⟨rfl, rfl, rfl, by decide +kernel, rfl, by decide +kernel, by decide +kernel⟩
abbrev s__law_cell : Stmt := topS 12
theorem sc__law_cell : FnScope ["script", "k"] ["script", "k"] (defScope s__law_cell) := ⟨rfl, rfl, rfl, by decide +kernel, rfl, by decide +kernel, by decide +kernel⟩
abbrev s__law_rich : Stmt := topS 13
theorem sc__law_rich : FnScope ["cell", "k", "mixed"] ["cell", "k"] (defScope s__law_rich) := ⟨rfl, rfl, rfl, by decide +kernel, rfl, by decide +kernel, by decide +kernel⟩
abbrev s__law_survivors : Stmt := topS 14
theorem sc__law_survivors : FnScope ["keep", "count", "actual", "rest", "k"] ["keep", "count"] (defScope s__law_survivors) := ⟨rfl, rfl, rfl, by decide +kernel, rfl, by decide +kernel, by decide +kernel⟩
abbrev s__law_kinds : Stmt := topS 15
theorem sc__law_kinds : FnScope ["kinds"] [] (defScope s__law_kinds) := ⟨rfl, rfl, rfl, by decide +kernel, rfl, by decide +kernel, by decide +kernel⟩
abbrev s__law_item : Stmt := topS 16
theorem sc__law_item : FnScope ["cell", "items"] ["cell"] (defScope s__law_item) := ⟨rfl, rfl, rfl, by decide +kernel, rfl, by decide +kernel, by decide +kernel⟩
abbrev s__law_built : Stmt := topS 17
theorem sc__law_built : FnScope ["rich", "kind", "forms", "rest", "size", "items", "k"] ["rich"] (defScope s__law_built) := ⟨rfl, rfl, rfl, by decide +kernel, rfl, by decide +kernel, by decide +kernel⟩
abbrev s__law_is_int : Stmt := topS 18
theorem sc__law_is_int : FnScope ["value", "least", "most"] ["value", "least", "most"] (defScope s__law_is_int) := ⟨rfl, rfl, rfl, by decide +kernel, rfl, by decide +kernel, by decide +kernel⟩
abbrev s__law_due : Stmt := topS 19
theorem sc__law_due : FnScope ["act", "kind", "forms", "k"] ["act"] (defScope s__law_due) := ⟨rfl, rfl, rfl, by decide +kernel, rfl, by decide +kernel, by decide +kernel⟩
abbrev s__law_outcome : Stmt := topS 20
theorem sc__law_outcome : FnScope ["act", "e"] ["act"] (defScope s__law_outcome) := ⟨rfl, rfl, rfl, by decide +kernel, rfl, by decide +kernel, by decide +kernel⟩
abbrev s_law : Stmt := topS 21
theorem sc_law : FnScope ["script", "keep", "k", "act"] ["script"] (defScope s_law) := ⟨rfl, rfl, rfl, by decide +kernel, rfl, by decide +kernel, by decide +kernel⟩
structure Txt (K : PySem.W.Frag) (mg : Str → Option Value) (w : World) (C_BadSchedule : Addr) (C_ITEMS : Addr) : Prop where
  d_is_integer : DefOk K mg "is_integer" s_is_integer ["value", "least", "greatest"]
  d_check_act : DefOk K mg "check_act" s_check_act ["act"]
  d_survivors : DefOk K mg "survivors" s_survivors ["keep", "count"]
  d__law_cell : DefOk K mg "_law_cell" s__law_cell ["script", "k"]
  d__law_rich : DefOk K mg "_law_rich" s__law_rich ["cell", "k"]
  d__law_survivors : DefOk K mg "_law_survivors" s__law_survivors ["keep", "count"]
  d__law_kinds : DefOk K mg "_law_kinds" s__law_kinds []
  d__law_item : DefOk K mg "_law_item" s__law_item ["cell"]
  d__law_built : DefOk K mg "_law_built" s__law_built ["rich"]
  d__law_is_int : DefOk K mg "_law_is_int" s__law_is_int ["value", "least", "most"]
  d__law_due : DefOk K mg "_law_due" s__law_due ["act"]
  d__law_outcome : DefOk K mg "_law_outcome" s__law_outcome ["act"]
  d_law : DefOk K mg "law" s_law ["script"]
  x_BadSchedule : ExI K mg "BadSchedule" C_BadSchedule
  xn_BadSchedule_line : PySem.W.findIn K (.ref C_BadSchedule) "line" = some none
  xn_BadSchedule_reason : PySem.W.findIn K (.ref C_BadSchedule) "reason" = some none
  ei_BadSchedule : ExInit K C_BadSchedule "BadSchedule.__init__" s_BadSchedule____init__ ["self", "line", "reason"]
  g_ITEMS : mg "ITEMS" = some (.ref C_ITEMS)
  kd_ITEMS : ∃ es n, KDict K w C_ITEMS es n
  ki_ITEMS_0 : ∃ a, KDct K w C_ITEMS "tick" (.ref a) ∧ KTup K a [.str "ticks"]
  ki_ITEMS_1 : ∃ a, KDct K w C_ITEMS "submit" (.ref a) ∧ KTup K a [.str "client", .str "text"]
  ki_ITEMS_2 : ∃ a, KDct K w C_ITEMS "deliver" (.ref a) ∧ KTup K a [.str "position"]
  ki_ITEMS_3 : ∃ a, KDct K w C_ITEMS "round" (.ref a) ∧ KTup K a []
  ki_ITEMS_4 : ∃ a, KDct K w C_ITEMS "calm" (.ref a) ∧ KTup K a [.str "ticks"]
  ki_ITEMS_5 : ∃ a, KDct K w C_ITEMS "lose" (.ref a) ∧ KTup K a [.str "position"]
  ki_ITEMS_6 : ∃ a, KDct K w C_ITEMS "double" (.ref a) ∧ KTup K a [.str "position"]
  ki_ITEMS_7 : ∃ a, KDct K w C_ITEMS "move" (.ref a) ∧ KTup K a [.str "position"]
  ki_ITEMS_8 : ∃ a, KDct K w C_ITEMS "say" (.ref a) ∧ KTup K a [.str "sender", .str "receiver", .str "letter"]
  ki_ITEMS_9 : ∃ a, KDct K w C_ITEMS "arm" (.ref a) ∧ KTup K a [.str "machine", .str "count"]
  ki_ITEMS_10 : ∃ a, KDct K w C_ITEMS "crash" (.ref a) ∧ KTup K a [.str "machine"]
  ki_ITEMS_11 : ∃ a, KDct K w C_ITEMS "restart" (.ref a) ∧ KTup K a [.str "machine", .str "keep"]
  km_ITEMS_0 : PySem.W.nsIn K C_ITEMS "Tick" = some none
  km_ITEMS_1 : PySem.W.nsIn K C_ITEMS "" = some none
  km_ITEMS_2 : PySem.W.nsIn K C_ITEMS "world" = some none
  km_ITEMS_3 : PySem.W.nsIn K C_ITEMS "ticks" = some none
  u_BadSchedule_BadSchedule : PySem.W.subIn K (.ref C_BadSchedule) (.ref C_BadSchedule) = some true
  c_MOST_NUMBER : ∃ u, mg "MOST_NUMBER" = some u ∧ RelV (.int 1000000000000) u
  c_MOST_TICKS : ∃ u, mg "MOST_TICKS" = some u ∧ RelV (.int 1000) u
  z_bool : mg "bool" = none
  z_int : mg "int" = none
  z_isinstance : mg "isinstance" = none
  z_len : mg "len" = none
  z_list : mg "list" = none
  z_max : mg "max" = none
  z_range : mg "range" = none
  z_str : mg "str" = none
  z_tuple : mg "tuple" = none
  z_zip : mg "zip" = none
set_option pp.maxSteps 150
/-! ### the draws of a script -/
def Dr (H : Hp) (D A : Addr) : Prop := D ≠ A ∧ ∃ (ds : List Int) (n : Nat), H D = some (.lst (ds.map V.int)) ∧ H A = some (.lst [.int n]) ∧ (∀ d ∈ ds, 0 ≤ d ∧ d < 1000) ∧ ds.length ≤ 2520
/-- all that was tracked but A is as it was -/
def Mod (A : Addr) (H H' : Hp) : Prop := ∀ b o, b ≠ A → H b = some o → H' b = some o
theorem Mod.refl {A : Addr} {H : Hp} : Mod A H H := fun _ _ _ h => h
theorem Mod.trans {A : Addr} {H H1 H2 : Hp} (a : Mod A H H1) (b : Mod A H1 H2) : Mod A H H2 := fun c o n h => b c o n (a c o n h)
theorem Same.mod {A : Addr} {H H' : Hp} (s : Same H H') : Mod A H H' := fun b o _ h => s b o h
theorem Mod.new {A p : Addr} {o : HO} {H H' : Hp} (s : Mod A H H') (h : H' p = none) : Mod A H (upd H' p o) := fun b u n e => by
  rw [upd_ne (ne_of_none (s b u n e) h)]
  exact s b u n e
theorem Dr.new {D A p : Addr} {o : HO} {H : Hp} (d : Dr H D A) (h : H p = none) : Dr (upd H p o) D A := by
  obtain ⟨ne, ds, n, h1, h2, h3⟩ := d
  exact ⟨ne, ds, n, by rw [upd_ne (ne_of_none h1 h)]; exact h1, by rw [upd_ne (ne_of_none h2 h)]; exact h2, h3⟩
theorem Dr.same {D A : Addr} {H H' : Hp} (d : Dr H D A) (s : Same H H') : Dr H' D A := by
  obtain ⟨ne, ds, n, h1, h2, h3⟩ := d
  exact ⟨ne, ds, n, s _ _ h1, s _ _ h2, h3⟩
/-- an object that is neither D nor A is changed -/
theorem Dr.put {D A p : Addr} {o : HO} {H : Hp} (d : Dr H D A) (h1 : p ≠ D) (h2 : p ≠ A) : Dr (upd H p o) D A := by
  obtain ⟨ne, ds, n, e1, e2, h3⟩ := d
  exact ⟨ne, ds, n, by rw [upd_ne h1.symm]; exact e1, by rw [upd_ne h2.symm]; exact e2, h3⟩
theorem Dr.freshA {D A p : Addr} {H : Hp} (d : Dr H D A) (h : H p = none) : p ≠ A := by
  obtain ⟨_, _, _, _, e, _⟩ := d
  exact (ne_of_none e h).symm
theorem Dr.freshD {D A p : Addr} {H : Hp} (d : Dr H D A) (h : H p = none) : p ≠ D := by
  obtain ⟨_, _, _, e, _⟩ := d
  exact (ne_of_none e h).symm
theorem Mod.free {A p : Addr} {H H' : Hp} (s : Mod A H H') (d : ∃ o, H' A = some o) (h : H' p = none) : H p = none := by
  cases e : H p with
  | none => rfl
  | some o =>
    by_cases hp : p = A
    · subst hp
      obtain ⟨o', e'⟩ := d
      rw [e'] at h; cases h
    · rw [s p o hp e] at h; cases h
theorem Dr.A_in {D A : Addr} {H : Hp} (d : Dr H D A) : ∃ o, H A = some o := by
  obtain ⟨_, _, _, _, e, _⟩ := d
  exact ⟨_, e⟩
theorem rng_app {ds : List Int} {x : Int} (h : ∀ d ∈ ds, 0 ≤ d ∧ d < 1000) (h0 : 0 ≤ x) (h1 : x < 1000) : ∀ d ∈ ds ++ [x], 0 ≤ d ∧ d < 1000 := fun d hd => by
  rcases List.mem_append.mp hd with hd | hd
  · exact h d hd
  · rw [List.mem_singleton.mp hd]; exact ⟨h0, h1⟩

/-! ### drawn numbers and strings -/
def prC (c : Nat) : Bool := decide (32 ≤ c) && decide (c ≤ 126) && decide (c ≠ 37)
def isPr (z : Str) : Bool := z.cps.toList.all prC
theorem app_tl (a b : Str) : (a ++ b).cps.toList = a.cps.toList ++ b.cps.toList := by
  show (a.cps ++ b.cps).toList = _
  rw [Array.toList_append]
theorem len_tl (z : Str) : z.cps.toList.length = z.length := Array.length_toList
theorem isPr_app (a b : Str) : isPr (a ++ b) = (isPr a && isPr b) := by
  unfold isPr
  rw [app_tl, List.all_append]

/-! ### values as data: what stands at them does not change -/
def TupAt (K : PySem.W.Frag) (H : Hp) (a : Addr) (xs : List V) : Prop := H a = some (.tup xs) ∨ KTup K a xs
section
variable {K : PySem.W.Frag}
theorem TupAt.sq {H : Hp} {a : Addr} {xs : List V} (h : TupAt K H a xs) : SqT K H a xs := h.elim SqT.of .inr
theorem TupAt.ty {H : Hp} {a : Addr} {xs : List V} (h : TupAt K H a xs) : TyX K H (.ref a) (.type "tuple") := h.elim (fun h => .base (.tup h)) (fun ⟨_, _, _, h1, h2, _⟩ => .kTuple h1 h2)
theorem TupAt.same {H H' : Hp} {a : Addr} {xs : List V} (h : TupAt K H a xs) (s : Same H H') : TupAt K H' a xs := h.imp (s _ _) id
/-- none of those at A (none: no matter) -/
def NeA (A : Option Addr) (a : Addr) : Prop := match A with | some b => a ≠ b | none => True
mutual
/-- v is the data d; the lists in it are none of those at A -/
inductive Dt (K : PySem.W.Frag) (H : Hp) (A : Option Addr) : V → PyData → Prop
  | non : Dt K H A .non .none
  | bl (b : Bool) : Dt K H A (.bl b) (.bool b)
  | int (i : Int) : Dt K H A (.int i) (.int i)
  | str (z : Str) (h : z.length ≤ 1000000) : Dt K H A (.str z) (.str z)
  | lst {a : Addr} {xs : List V} {ds : List PyData} : NeA A a → H a = some (.lst xs) → DtAll K H A xs ds → Dt K H A (.ref a) (.list ds)
  | tup {a : Addr} {xs : List V} {ds : List PyData} : TupAt K H a xs → DtAll K H A xs ds → Dt K H A (.ref a) (.tuple ds)
inductive DtAll (K : PySem.W.Frag) (H : Hp) (A : Option Addr) : List V → List PyData → Prop
  | nil : DtAll K H A [] []
  | cons {v : V} {vs : List V} {d : PyData} {ds : List PyData} : Dt K H A v d → DtAll K H A vs ds → DtAll K H A (v :: vs) (d :: ds)
end
theorem DtAll.length {H : Hp} {A : Option Addr} : ∀ {xs : List V} {ds : List PyData}, DtAll K H A xs ds → xs.length = ds.length
  | _, _, .nil => rfl
  | _, _, .cons _ r => by rw [List.length_cons, List.length_cons, r.length]
theorem DtAll.get {H : Hp} {A : Option Addr} : ∀ {xs : List V} {ds : List PyData} {i : Nat} {x : V}, DtAll K H A xs ds → xs[i]? = some x → ∃ d, ds[i]? = some d ∧ Dt K H A x d
  | _, _, _, _, .nil, e => by simp at e
  | _, _, 0, x, .cons h _, e => by simp at e; subst e; exact ⟨_, rfl, h⟩
  | _, _, i + 1, x, .cons _ r, e => by
    obtain ⟨d, h1, h2⟩ := r.get (i := i) (x := x) (by simpa using e)
    exact ⟨d, by simpa using h1, h2⟩
theorem DtAll.getD {H : Hp} {A : Option Addr} {xs : List V} {ds : List PyData} {i : Nat} {d : PyData} (h : DtAll K H A xs ds) (e : ds[i]? = some d) : ∃ x, xs[i]? = some x ∧ Dt K H A x d := by
  have hi : i < ds.length := (List.getElem?_eq_some_iff.mp e).1
  have hi' : i < xs.length := by rw [h.length]; exact hi
  obtain ⟨d', h1, h2⟩ := h.get (List.getElem?_eq_getElem hi')
  rw [e] at h1
  cases h1
  exact ⟨_, List.getElem?_eq_getElem hi', h2⟩
mutual
theorem Dt.mod {H H' : Hp} {A D : Addr} (s : Mod A H H') (dr : Dr H D A) : ∀ (d : PyData) (v : V), Dt K H (some A) v d → Dt K H' (some A) v d
  | .none, _, h => by cases h; exact .non
  | .bool b, _, h => by cases h; exact .bl b
  | .int i, _, h => by cases h; exact .int i
  | .str z, _, h => by cases h with | str _ hz => exact .str z hz
  | .list ds, _, h => by cases h with | lst hn ha hd => exact .lst hn (s _ _ hn ha) (DtAll.mod s dr ds _ hd)
  | .tuple ds, _, h => by
    cases h with
    | tup ha hd =>
      obtain ⟨_, _, _, _, e, _⟩ := id dr
      exact .tup (ha.imp (fun ha => s _ _ (ne_of ha e (by intro z; cases z)) ha) id) (DtAll.mod s dr ds _ hd)
  | .dict _, _, h => by cases h
theorem DtAll.mod {H H' : Hp} {A D : Addr} (s : Mod A H H') (dr : Dr H D A) : ∀ (ds : List PyData) (xs : List V), DtAll K H (some A) xs ds → DtAll K H' (some A) xs ds
  | [], _, h => by cases h; exact .nil
  | d :: ds, _, h => by cases h with | cons h1 h2 => exact .cons (Dt.mod s dr d _ h1) (DtAll.mod s dr ds _ h2)
end
mutual
theorem Dt.same {H H' : Hp} {A : Option Addr} (s : Same H H') : ∀ (d : PyData) (v : V), Dt K H A v d → Dt K H' A v d
  | .none, _, h => by cases h; exact .non
  | .bool b, _, h => by cases h; exact .bl b
  | .int i, _, h => by cases h; exact .int i
  | .str z, _, h => by cases h with | str _ hz => exact .str z hz
  | .list ds, _, h => by cases h with | lst hn ha hd => exact .lst hn (s _ _ ha) (DtAll.same s ds _ hd)
  | .tuple ds, _, h => by cases h with | tup ha hd => exact .tup (ha.same s) (DtAll.same s ds _ hd)
  | .dict _, _, h => by cases h
theorem DtAll.same {H H' : Hp} {A : Option Addr} (s : Same H H') : ∀ (ds : List PyData) (xs : List V), DtAll K H A xs ds → DtAll K H' A xs ds
  | [], _, h => by cases h; exact .nil
  | d :: ds, _, h => by cases h with | cons h1 h2 => exact .cons (Dt.same s d _ h1) (DtAll.same s ds _ h2)
end
mutual
/-- data for a comparison -/
theorem Dt.dp {H : Hp} {A : Option Addr} : ∀ (d : PyData) (v : V), Dt K H A v d → Dp K H v d
  | .none, _, h => by cases h; exact .non
  | .bool b, _, h => by cases h; exact .bl b
  | .int i, _, h => by cases h; exact .int i
  | .str z, _, h => by cases h; exact .str z
  | .list ds, _, h => by cases h with | lst hn ha hd => exact .lst (SqL.of ha) (DtAll.dp ds _ hd)
  | .tuple ds, _, h => by cases h with | tup ha hd => exact .tup ha.sq (DtAll.dp ds _ hd)
  | .dict _, _, h => by cases h
theorem DtAll.dp {H : Hp} {A : Option Addr} : ∀ (ds : List PyData) (xs : List V), DtAll K H A xs ds → DpAll K H xs ds
  | [], _, h => by cases h; exact .nil
  | d :: ds, _, h => by cases h with | cons h1 h2 => exact .cons (Dt.dp d _ h1) (DtAll.dp ds _ h2)
end
theorem Dt.on {H H' : Hp} {A : Option Addr} {v : V} {d : PyData} (h : Dt K H A v d) (s : Same H H') : Dt K H' A v d := Dt.same s d v h
theorem DtAll.on {H H' : Hp} {A : Option Addr} {xs : List V} {ds : List PyData} (h : DtAll K H A xs ds) (s : Same H H') : DtAll K H' A xs ds := DtAll.same s ds xs h
theorem Dt.by {H H' : Hp} {A D : Addr} {v : V} {d : PyData} (h : Dt K H (some A) v d) (s : Mod A H H') (dr : Dr H D A) : Dt K H' (some A) v d := Dt.mod s dr d v h
theorem DtAll.by {H H' : Hp} {A D : Addr} {xs : List V} {ds : List PyData} (h : DtAll K H (some A) xs ds) (s : Mod A H H') (dr : Dr H D A) : DtAll K H' (some A) xs ds := DtAll.mod s dr ds xs h
theorem Dt.two {H : Hp} {A : Option Addr} {v : V} {d : PyData} (h : Dt K H A v d) : (∃ a xs ds, v = .ref a ∧ d = .tuple ds ∧ TupAt K H a xs ∧ DtAll K H A xs ds) ∨ (∃ T, TyX K H v (.type T) ∧ kitB T "tuple" = some false ∧ ∀ ds, d ≠ .tuple ds) := by
  cases h with
  | tup ha hx => exact .inl ⟨_, _, _, rfl, rfl, ha, hx⟩
  | str z hz => exact .inr ⟨_, .base (.str z), by decide +kernel, fun _ z => nomatch z⟩
  | int i => exact .inr ⟨_, .base (.int i), by decide +kernel, fun _ z => nomatch z⟩
  | non => exact .inr ⟨_, .base .non, by decide +kernel, fun _ z => nomatch z⟩
  | bl b => exact .inr ⟨_, .base (.bl b), by decide +kernel, fun _ z => nomatch z⟩
  | lst _ ha _ => exact .inr ⟨_, .base (.lst ha), by decide +kernel, fun _ z => nomatch z⟩
/-- the kind of a value -/
def dTy : PyData → String
  | .none => "NoneType" | .bool _ => "bool" | .int _ => "int" | .str _ => "str" | .list _ => "list" | .tuple _ => "tuple" | .dict _ => "dict"
theorem Dt.ty {H : Hp} {A : Option Addr} {v : V} {d : PyData} (h : Dt K H A v d) : TyX K H v (.type (dTy d)) := by
  cases h with
  | non => exact .base .non
  | bl b => exact .base (.bl b)
  | int i => exact .base (.int i)
  | str z _ => exact .base (.str z)
  | lst _ ha _ => exact .base (.lst ha)
  | tup ha _ => exact ha.ty
/-! the predicates of the program, upon data -/
def dInt (lo hi : Int) : PyData → Bool
  | .int i => decide (lo ≤ i ∧ i ≤ hi)
  | _ => false
def dShort (m : Int) : PyData → Bool
  | .str z => isPr z && decide ((z.length : Int) ≤ m)
  | _ => false
def dCmd : PyData → Bool
  | .tuple [c, n, t] => dInt (-100) (-1) c && dInt 1 1000000000000 n && dShort 240 t
  | _ => false
def dClient : PyData → Int
  | .tuple (.int c :: _) => c
  | _ => 0
def dAfter : Option Int → PyData → Bool
  | some k, d => decide (k < dClient d)
  | none, _ => true
def befV : Option Int → V
  | some k => .int k
  | none => .non
def dCmdsFrom : Option Int → List PyData → Bool
  | _, [] => true
  | b, d :: r => dCmd d && dAfter b d && dCmdsFrom (some (dClient d)) r
theorem dCmdsFrom_cons (b : Option Int) (d : PyData) (r : List PyData) : dCmdsFrom b (d :: r) = (dCmd d && dAfter b d && dCmdsFrom (some (dClient d)) r) := by cases b <;> rfl
theorem dCmdsFrom_nil (b : Option Int) : dCmdsFrom b [] = true := by cases b <;> rfl
def dCmds : PyData → Bool
  | .tuple ds => dCmdsFrom none ds
  | _ => false
def dHeight (parent : Int) (h : PyData) : Bool := if parent = 0 then dInt 1 1 h else dInt 2 (parent + 1) h
def dBlock4 (e p h cs : PyData) : Bool := match e, p with
  | .int e, .int p => dInt 1 1000000000000 (.int e) && dInt 0 (e - 1) (.int p) && dHeight p h && dCmds cs
  | _, _ => false
def dBlock : PyData → Bool
  | .tuple [e, p, h, cs] => dBlock4 e p h cs
  | _ => false
def dEmpty : PyData → Bool
  | .tuple [] => true
  | _ => false
def dGen : PyData → Bool
  | .tuple [e, p, h, cs] => dInt 0 0 e && dInt 0 0 p && dInt 0 0 h && dEmpty cs
  | _ => false
theorem DtAll.four {H : Hp} {A : Option Addr} {xs : List V} {ds : List PyData} (h : DtAll K H A xs ds) (hl : xs.length = 4) :
    ∃ x1 x2 x3 x4 d1 d2 d3 d4, xs = [x1, x2, x3, x4] ∧ ds = [d1, d2, d3, d4] ∧ Dt K H A x1 d1 ∧ Dt K H A x2 d2 ∧ Dt K H A x3 d3 ∧ Dt K H A x4 d4 := by
  match xs, ds, h with
  | [_, _, _, _], _, .cons h1 (.cons h2 (.cons h3 (.cons h4 .nil))) => exact ⟨_, _, _, _, _, _, _, _, rfl, rfl, h1, h2, h3, h4⟩
theorem dBlock4_e1 {e p h cs : PyData} (z : dInt 1 1000000000000 e = false) : dBlock4 e p h cs = false := by
  unfold dBlock4
  split
  · rw [z]; rfl
  · rfl
theorem dBlock4_e2 {e : Int} {p h cs : PyData} (z : dInt 0 (e - 1) p = false) : dBlock4 (.int e) p h cs = false := by
  unfold dBlock4
  split
  · rename_i h1
    cases h1
    rw [z, Bool.and_false]; rfl
  · rfl
/-- a predicate of one value, kept by growing heaps -/
def spPred (K : PySem.W.Frag) (A : Option Addr) (f : PyData → Bool) : Sp := fun vs H Q _ => ∃ (v : V) (d : PyData), vs = [v] ∧ Dt K H A v d ∧ ∀ H', Same H H' → Q (.bl (f d)) H'
def spIntD (K : PySem.W.Frag) (A : Option Addr) : Sp := fun vs H Q _ => ∃ (v : V) (d : PyData) (lo hi : Int), vs = [v, .int lo, .int hi] ∧ Dt K H A v d ∧ Q (.bl (dInt lo hi d)) H
def spShortD (K : PySem.W.Frag) (A : Option Addr) : Sp := fun vs H Q _ => ∃ (v : V) (d : PyData) (m : Int), vs = [v, .int m] ∧ Dt K H A v d ∧ ∀ H', Same H H' → Q (.bl (dShort m d)) H'
theorem dInt_inv {lo hi : Int} {d : PyData} (h : dInt lo hi d = true) : ∃ i, d = .int i ∧ lo ≤ i ∧ i ≤ hi := by
  cases d with
  | int i =>
    have h : decide (lo ≤ i ∧ i ≤ hi) = true := h
    exact ⟨i, rfl, (of_decide_eq_true h).1, (of_decide_eq_true h).2⟩
  | none => cases h
  | bool b => cases h
  | str z => cases h
  | list ds => cases h
  | tuple ds => cases h
  | dict k => cases h
theorem dShort_inv {m : Int} {d : PyData} (h : dShort m d = true) : ∃ z : Str, d = .str z ∧ isPr z = true ∧ (z.length : Int) ≤ m := by
  cases d with
  | str z =>
    have h : (isPr z && decide ((z.length : Int) ≤ m)) = true := h
    obtain ⟨h1, h2⟩ := Bool.and_eq_true_iff.mp h
    exact ⟨z, rfl, h1, of_decide_eq_true h2⟩
  | none => cases h
  | bool b => cases h
  | int i => cases h
  | list ds => cases h
  | tuple ds => cases h
  | dict k => cases h
theorem dCmd_inv {d : PyData} (h : dCmd d = true) : ∃ (c n : Int) (t : Str), d = .tuple [.int c, .int n, .str t] ∧ -100 ≤ c ∧ c ≤ -1 ∧ 1 ≤ n ∧ n ≤ 1000000000000 ∧ isPr t = true ∧ (t.length : Int) ≤ 240 := by
  unfold dCmd at h
  split at h
  · rename_i c n t
    rw [Bool.and_eq_true, Bool.and_eq_true] at h
    obtain ⟨⟨h1, h2⟩, h3⟩ := h
    obtain ⟨c, rfl, c0, c1⟩ := dInt_inv h1
    obtain ⟨n, rfl, n0, n1⟩ := dInt_inv h2
    obtain ⟨t, rfl, t0, t1⟩ := dShort_inv h3
    exact ⟨c, n, t, rfl, c0, c1, n0, n1, t0, t1⟩
  · cases h
/-- what a tuple of three ints, ints, texts stands for -/
theorem Dt.three {H : Hp} {A : Option Addr} {v : V} {d1 d2 d3 : PyData} (h : Dt K H A v (.tuple [d1, d2, d3])) : ∃ a x1 x2 x3, v = .ref a ∧ TupAt K H a [x1, x2, x3] ∧ Dt K H A x1 d1 ∧ Dt K H A x2 d2 ∧ Dt K H A x3 d3 := by
  cases h with
  | tup ha hd =>
    cases hd with
    | cons h1 hd =>
      cases hd with
      | cons h2 hd =>
        cases hd with
        | cons h3 hd =>
          cases hd
          exact ⟨_, _, _, _, rfl, ha, h1, h2, h3⟩
mutual
theorem Dt.any {H : Hp} {A : Option Addr} : ∀ (d : PyData) (v : V), Dt K H A v d → Dt K H none v d
  | .none, _, h => by cases h; exact .non
  | .bool b, _, h => by cases h; exact .bl b
  | .int i, _, h => by cases h; exact .int i
  | .str z, _, h => by cases h with | str _ hz => exact .str z hz
  | .list ds, _, h => by cases h with | lst hn ha hd => exact .lst trivial ha (DtAll.any ds _ hd)
  | .tuple ds, _, h => by cases h with | tup ha hd => exact .tup ha (DtAll.any ds _ hd)
  | .dict _, _, h => by cases h
theorem DtAll.any {H : Hp} {A : Option Addr} : ∀ (ds : List PyData) (xs : List V), DtAll K H A xs ds → DtAll K H none xs ds
  | [], _, h => by cases h; exact .nil
  | d :: ds, _, h => by cases h with | cons h1 h2 => exact .cons (Dt.any d _ h1) (DtAll.any ds _ h2)
end
theorem Dt.an {H : Hp} {A : Option Addr} {v : V} {d : PyData} (h : Dt K H A v d) : Dt K H none v d := Dt.any d v h
/-! data without lists -/
mutual
def noL : PyData → Bool
  | .list _ => false
  | .tuple ds => noLs ds
  | _ => true
def noLs : List PyData → Bool
  | [] => true
  | d :: r => noL d && noLs r
end
/-- tracked tuples stay -/
def Tp (H H' : Hp) : Prop := ∀ a xs, H a = some (.tup xs) → H' a = some (.tup xs)
mutual
theorem Dt.keep {H H' : Hp} {A B : Option Addr} (t : Tp H H') : ∀ (d : PyData) (v : V), noL d = true → Dt K H A v d → Dt K H' B v d
  | .none, _, _, h => by cases h; exact .non
  | .bool b, _, _, h => by cases h; exact .bl b
  | .int i, _, _, h => by cases h; exact .int i
  | .str z, _, _, h => by cases h with | str _ hz => exact .str z hz
  | .list ds, _, n, _ => by cases n
  | .tuple ds, _, n, h => by cases h with | tup ha hd => exact .tup (ha.imp (t _ _) id) (DtAll.keep t ds _ n hd)
  | .dict _, _, _, h => by cases h
theorem DtAll.keep {H H' : Hp} {A B : Option Addr} (t : Tp H H') : ∀ (ds : List PyData) (xs : List V), noLs ds = true → DtAll K H A xs ds → DtAll K H' B xs ds
  | [], _, _, h => by cases h; exact .nil
  | d :: ds, _, n, h => by
    have n : (noL d && noLs ds) = true := n
    rw [Bool.and_eq_true] at n
    cases h with | cons h1 h2 => exact .cons (Dt.keep t d _ n.1 h1) (DtAll.keep t ds _ n.2 h2)
end
theorem DtAll.snoc {H : Hp} {A : Option Addr} : ∀ {xs : List V} {ds : List PyData} {x : V} {d : PyData}, DtAll K H A xs ds → Dt K H A x d → DtAll K H A (xs ++ [x]) (ds ++ [d])
  | _, _, _, _, .nil, h => .cons h .nil
  | _, _, _, _, .cons h r, h2 => .cons h (r.snoc h2)
theorem TupAt.tp {H H' : Hp} {a : Addr} {xs : List V} (h : TupAt K H a xs) (t : Tp H H') : TupAt K H' a xs := h.imp (t _ _) id
theorem Same.tp {H H' : Hp} (s : Same H H') : Tp H H' := fun _ _ h => s _ _ h
theorem Mod.tp {H H' : Hp} {A D : Addr} (s : Mod A H H') (dr : Dr H D A) : Tp H H' := fun a xs h => by
  obtain ⟨_, _, _, _, e, _⟩ := id dr
  exact s _ _ (ne_of h e (by intro z; cases z)) h
theorem tp_put {H : Hp} {l : Addr} {xs ys : List V} (h : H l = some (.lst xs)) : Tp H (upd H l (.lst ys)) := fun a zs e => by
  rw [upd_ne (ne_of e h (by intro z; cases z))]; exact e
theorem dCmd_noL {d : PyData} (h : dCmd d = true) : noL d = true := by
  obtain ⟨c, n, t, rfl, _⟩ := dCmd_inv h
  rfl
theorem dCmdsFrom_noL : ∀ {ds : List PyData} {b : Option Int}, dCmdsFrom b ds = true → noLs ds = true
  | [], _, _ => rfl
  | d :: r, b, h => by
    rw [dCmdsFrom_cons, Bool.and_eq_true, Bool.and_eq_true] at h
    show (noL d && noLs r) = true
    rw [dCmd_noL h.1.1, dCmdsFrom_noL h.2]; rfl
theorem dCmdsFrom_all : ∀ {ds : List PyData} {b : Option Int}, dCmdsFrom b ds = true → ∀ d ∈ ds, dCmd d = true
  | [], _, _, _, m => nomatch m
  | d :: r, b, h, e, m => by
    rw [dCmdsFrom_cons, Bool.and_eq_true, Bool.and_eq_true] at h
    rcases List.mem_cons.mp m with rfl | m
    · exact h.1.1
    · exact dCmdsFrom_all h.2 e m
def lastC : Option Int → List PyData → Option Int
  | b, [] => b
  | _, d :: r => lastC (some (dClient d)) r
theorem lastC_snoc : ∀ (ds : List PyData) (b : Option Int) (d : PyData), lastC b (ds ++ [d]) = some (dClient d)
  | [], _, _ => rfl
  | _ :: r, _, d => lastC_snoc r _ d
theorem dCmdsFrom_snoc : ∀ (ds : List PyData) (b : Option Int) (d : PyData), dCmdsFrom b (ds ++ [d]) = (dCmdsFrom b ds && (dCmd d && dAfter (lastC b ds) d))
  | [], b, d => by
    show dCmdsFrom b [d] = _
    rw [dCmdsFrom_cons, dCmdsFrom_nil, dCmdsFrom_nil, Bool.and_true, Bool.true_and]; rfl
  | e :: r, b, d => by
    show dCmdsFrom b (e :: (r ++ [d])) = _
    rw [dCmdsFrom_cons, dCmdsFrom_snoc r, dCmdsFrom_cons, Bool.and_assoc, Bool.and_assoc, Bool.and_assoc]; rfl
end
theorem noLs_all : ∀ {ds : List PyData}, (∀ d ∈ ds, noL d = true) → noLs ds = true
  | [], _ => rfl
  | d :: r, h => by
    show (noL d && noLs r) = true
    rw [h d List.mem_cons_self, noLs_all (fun e he => h e (List.mem_cons_of_mem _ he))]; rfl

theorem same_none {H H' : Hp} {p : Addr} (s : Same H H') (h : H' p = none) : H p = none := by
  cases e : H p with
  | none => rfl
  | some o => rw [s p o e] at h; cases h

theorem atI_lt {α : Type} {xs : List α} {i : Int} (h0 : 0 ≤ i) (h1 : i < xs.length) : ∃ v, v ∈ xs ∧ atI xs i = some v := by
  obtain ⟨j, rfl⟩ := Int.eq_ofNat_of_zero_le h0
  have hj : j < xs.length := Int.ofNat_lt.mp h1
  exact ⟨xs[j], List.getElem_mem hj, atI_nat (List.getElem?_eq_getElem hj)⟩

/-! ### is_integer -/
/-- no int, told by its type -/
def NoInt (K : PySem.W.Frag) (H : Hp) (v : V) : Prop := ∃ T, TyX K H v (.type T) ∧ (kitB T "int" = some false ∨ (kitB T "int" = some true ∧ kitB T "bool" = some true))
def spInt (K : PySem.W.Frag) : Sp := fun vs H Q _ => ∃ (v : V) (lo hi : Int), vs = [v, .int lo, .int hi] ∧ ((∃ i, v = .int i ∧ Q (.bl (decide (lo ≤ i ∧ i ≤ hi))) H) ∨ (NoInt K H v ∧ Q (.bl false) H))
section
variable {P : Program} {w : World} {K : PySem.W.Frag} {mg : Str → Option Value} {base : Heap}
theorem c_is_integer {C_BadSchedule : Addr} {C_ITEMS : Addr} (T : Txt K mg w C_BadSchedule C_ITEMS) : Cal P w K mg base 1 "is_integer" (spInt K) [] := by
  refine cal T.d_is_integer sc_is_integer (fun vs H Q E h => ?_) (fun f cdv A outer s H vs Q E hr h => ?_)
  · obtain ⟨v, lo, hi, rfl, _⟩ := h; rfl
  obtain ⟨v, lo, hi, rfl, h⟩ := h
  refine ⟨_, (pss_one (ps_ret (pe_and (pe_callB (kisi (K := K)) (by rfl) T.z_isinstance (by decide +kernel) (pa_cons (pv 0) (pa_cons (pe_bltn (v := .ty "int") (by rfl) T.z_int (by decide +kernel) rfl) pa_nil))) (pe_and (pe_not (pe_callB (kisi (K := K)) (by rfl) T.z_isinstance (by decide +kernel) (pa_cons (pv 0) (pa_cons (pe_bltn (v := .ty "bool") (by rfl) T.z_bool (by decide +kernel) rfl) pa_nil)))) (pe_one (pe_chain op_le op_le (pv 1) (pv 0) (pv 2))))))), ?_⟩
  rcases h with ⟨i, rfl, q⟩ | ⟨⟨T, ty, hk⟩, q⟩
  · walk_at "rds"
    walk_at "isi"
    walk_at "rds"
    walk_at "isi"
    walk_at "rds"
    refine ite2 (fun e => ?_) (fun e => ?_)
    · have e := of_decide_eq_true e
      walk_at "rds"
      have e2 : decide (lo ≤ i ∧ i ≤ hi) = decide (i ≤ hi) := by simp [e]
      rw [e2] at q
      exact q
    · have e : ¬ lo ≤ i := fun z => e (decide_eq_true z)
      have e2 : decide (lo ≤ i ∧ i ≤ hi) = false := by simp [e]
      rw [e2] at q
      exact q
  · walk_at "rds"
    rcases hk with hk | ⟨hk, hb⟩
    · refine ⟨_, .ty _, _, _, false, rfl, .ty _, ty, kit_ty hk, ?_⟩
      walk_at "rds"
      exact q
    · refine ⟨_, .ty _, _, _, true, rfl, .ty _, ty, kit_ty hk, ?_⟩
      walk_at "rds"
      refine ⟨_, .ty _, _, _, true, rfl, .ty _, ty, kit_ty hb, ?_⟩
      walk_at "rds"
      exact q
end

/-! ### BadSchedule(line, reason) -/
section
variable {P : Program} {w : World} {K : PySem.W.Frag} {mg : Str → Option Value} {base : Heap}
theorem i_BadSchedule {C_BadSchedule : Addr} {C_ITEMS : Addr} (T : Txt K mg w C_BadSchedule C_ITEMS) : ExMk P w K mg base 1 "BadSchedule" C_BadSchedule (spInit2 C_BadSchedule "line" "reason") := by
  refine exmk T.x_BadSchedule T.ei_BadSchedule sc_BadSchedule____init__ (fun vs H Q E h => ?_) (fun f cdv A' outer s H vs Q E hr h => ?_)
  · obtain ⟨a, r, t, rfl, _⟩ := h; rfl
  obtain ⟨a, r, t, rfl, ha, q⟩ := h
  refine ⟨_, (pss_cons (ps_ost (pv 0) (pv 1))
      (pss_one (ps_ost (pv 0) (pv 2)))), ?_⟩
  walk_at "rds"
  refine ⟨a, C_BadSchedule, rfl, T.x_BadSchedule.ox, T.xn_BadSchedule_line, .inl ⟨ha, fun d hd hne => ?_⟩⟩
  walk_at "rds"
  refine ⟨a, C_BadSchedule, rfl, T.x_BadSchedule.ox, T.xn_BadSchedule_reason, .inr ⟨d, _, upd_same, by rw [upd_ne hne]; exact upd_same, (by show 1 ≤ 900; decide), ?_⟩⟩
  exact q d hd hne
end

/-! ### _law_rich -/
def spRich : Sp := fun vs H Q _ => ∃ (c k : Int), vs = [.int c, .int k] ∧ 0 ≤ k ∧ k ≤ 100 ∧ ∀ r : Int, Q (.int r) H
section
variable {P : Program} {w : World} {K : PySem.W.Frag} {mg : Str → Option Value} {base : Heap}
theorem c__law_rich {C_BadSchedule : Addr} {C_ITEMS : Addr} (T : Txt K mg w C_BadSchedule C_ITEMS) : Cal P w K mg base 1 "_law_rich" spRich [] := by
  refine cal T.d__law_rich sc__law_rich (fun vs H Q E h => ?_) (fun f cdv A' outer s H vs Q E hr h => ?_)
  · obtain ⟨c, k, rfl, _⟩ := h; rfl
  obtain ⟨c, k, rfl, hk0, hk1, q⟩ := h
  refine ⟨_, (pss_cons (ps_if (pt_cmpR op_ge (pv 0) (pe_op op_pow pe_int pe_int) (nomark _)) (pss_one (ps_ret (pe_callTy call_int1 (by rfl) T.z_int (by decide +kernel) (pa_cons (pv 0) pa_nil)))) pss_nil)
      (pss_cons (ps_set (i := 2) sc__law_rich.nd rfl (Or.inl rfl) (pe_op op_mod (pe_callTy call_int1 (by rfl) T.z_int (by decide +kernel) (pa_cons (pe_op op_add (pe_op op_add (pe_op op_mul (pv 0) pe_int) (pe_op op_mul (pv 1) pe_int)) pe_int) pa_nil)) pe_int))
      (pss_one (ps_ret (pe_op op_add (pe_op op_mul (pv 2) pe_int) (pe_op op_mod (pe_callTy call_int1 (by rfl) T.z_int (by decide +kernel) (pa_cons (pe_op op_add (pe_op op_mul (pv 2) pe_int) (pv 0)) pa_nil)) pe_int)))))), ?_⟩
  walk_at "rds"
  refine ite2 (fun _ => ?_) (fun _ => ?_)
  · walk_at "rds"
    exact q _
  · walk_at "rds"
    exact q _
end

/-! ### acts -/
def actTab : List (Str × List Str) := [("tick", ["ticks"]), ("submit", ["client", "text"]), ("deliver", ["position"]), ("round", []), ("calm", ["ticks"]), ("lose", ["position"]), ("double", ["position"]), ("move", ["position"]), ("say", ["sender", "receiver", "letter"]), ("arm", ["machine", "count"]), ("crash", ["machine"]), ("restart", ["machine", "keep"])]
def actMiss : List Str := ["Tick", "", "world", "ticks"]
def okItem (k : Str) (d : PyData) : Bool := if k = "ticks" then dInt 1 1000 d else if k = "position" ∨ k = "count" ∨ k = "keep" then dInt 0 1000000000000 d else true
def okItems : List Str → List PyData → Bool
  | k :: ks, d :: ds => okItem k d && okItems ks ds
  | _, _ => true
def dAct : PyData → Str
  | .tuple (.str z :: items) => match actTab.lookup z with
    | none => "act"
    | some ks => if items.length = ks.length then (if okItems ks items = true then "" else "number") else "act"
  | _ => "act"
/-- the kinds that the law draws -/
def ActOk : PyData → Prop
  | .tuple (.str z :: _) => z ∈ actTab.map (·.1) ∨ z ∈ actMiss
  | _ => True
section
variable {P : Program} {w : World} {K : PySem.W.Frag} {mg : Str → Option Value} {base : Heap}
theorem items_in {C_BadSchedule : Addr} {C_ITEMS : Addr} (T : Txt K mg w C_BadSchedule C_ITEMS) {z : Str} {ks : List Str} (h : (z, ks) ∈ actTab) : ∃ a, KDct K w C_ITEMS z (.ref a) ∧ KTup K a (ks.map V.str) := by
  simp only [actTab, List.mem_cons, List.not_mem_nil, or_false, Prod.mk.injEq] at h
  rcases h with ⟨rfl, rfl⟩ | ⟨rfl, rfl⟩ | ⟨rfl, rfl⟩ | ⟨rfl, rfl⟩ | ⟨rfl, rfl⟩ | ⟨rfl, rfl⟩ | ⟨rfl, rfl⟩ | ⟨rfl, rfl⟩ | ⟨rfl, rfl⟩ | ⟨rfl, rfl⟩ | ⟨rfl, rfl⟩ | ⟨rfl, rfl⟩
  · exact T.ki_ITEMS_0
  · exact T.ki_ITEMS_1
  · exact T.ki_ITEMS_2
  · exact T.ki_ITEMS_3
  · exact T.ki_ITEMS_4
  · exact T.ki_ITEMS_5
  · exact T.ki_ITEMS_6
  · exact T.ki_ITEMS_7
  · exact T.ki_ITEMS_8
  · exact T.ki_ITEMS_9
  · exact T.ki_ITEMS_10
  · exact T.ki_ITEMS_11
theorem items_no {C_BadSchedule : Addr} {C_ITEMS : Addr} (T : Txt K mg w C_BadSchedule C_ITEMS) {z : Str} (h : z ∈ actMiss) : PySem.W.nsIn K C_ITEMS z = some none := by
  simp only [actMiss, List.mem_cons, List.not_mem_nil, or_false] at h
  rcases h with rfl | rfl | rfl | rfl
  · exact T.km_ITEMS_0
  · exact T.km_ITEMS_1
  · exact T.km_ITEMS_2
  · exact T.km_ITEMS_3
theorem lookup_mem {α : Type} : ∀ {l : List (Str × α)} {z : Str} {x : α}, l.lookup z = some x → (z, x) ∈ l
  | (k, y) :: r, z, x, h => by
    rw [List.lookup_cons] at h
    split at h
    · rename_i e
      have e : z = k := by simpa using e
      cases h
      rw [e]; exact List.mem_cons_self
    · exact List.mem_cons_of_mem _ (lookup_mem h)
theorem act_some {z : Str} (h : z ∈ actTab.map (·.1)) : (actTab.lookup z).isSome = true := by
  simp only [actTab, List.map_cons, List.map_nil, List.mem_cons, List.not_mem_nil, or_false] at h
  rcases h with rfl | rfl | rfl | rfl | rfl | rfl | rfl | rfl | rfl | rfl | rfl | rfl <;> decide +kernel
theorem act_none {z : Str} (h : z ∈ actMiss) : actTab.lookup z = none := by
  simp only [actMiss, List.mem_cons, List.not_mem_nil, or_false] at h
  rcases h with rfl | rfl | rfl | rfl <;> decide +kernel
theorem act_two {z : Str} (h : z ∈ actTab.map (·.1) ∨ z ∈ actMiss) : (∃ ks, (z, ks) ∈ actTab ∧ actTab.lookup z = some ks) ∨ (z ∈ actMiss ∧ actTab.lookup z = none) := by
  rcases h with h | h
  · obtain ⟨ks, e⟩ := Option.isSome_iff_exists.mp (act_some h)
    exact .inl ⟨ks, lookup_mem e, e⟩
  · exact .inr ⟨h, act_none h⟩
theorem Dt.strOr {H : Hp} {A : Option Addr} {v : V} {d : PyData} (h : Dt K H A v d) : (∃ z : Str, v = .str z ∧ d = .str z) ∨ (∃ T, TyX K H v (.type T) ∧ kitB T "str" = some false ∧ ∀ z, d ≠ .str z) := by
  cases h with
  | str z hz => exact .inl ⟨z, rfl, rfl⟩
  | tup ha hx => exact .inr ⟨_, ha.ty, by decide +kernel, fun _ z => nomatch z⟩
  | int i => exact .inr ⟨_, .base (.int i), by decide +kernel, fun _ z => nomatch z⟩
  | non => exact .inr ⟨_, .base .non, by decide +kernel, fun _ z => nomatch z⟩
  | bl b => exact .inr ⟨_, .base (.bl b), by decide +kernel, fun _ z => nomatch z⟩
  | lst _ ha _ => exact .inr ⟨_, .base (.lst ha), by decide +kernel, fun _ z => nomatch z⟩
theorem dAct_str {z : Str} {ds : List PyData} : dAct (.tuple (.str z :: ds)) = (match actTab.lookup z with
    | none => Str.ofString "act"
    | some ks => if ds.length = ks.length then (if okItems ks ds = true then Str.ofString "" else Str.ofString "number") else Str.ofString "act") := rfl
theorem int_or {H : Hp} {A : Option Addr} {v : V} {d : PyData} {R1 : Int → Prop} {R0 : Prop} (h : Dt K H A v d) (q1 : ∀ i, d = .int i → R1 i) (q0 : (∀ lo hi, dInt lo hi d = false) → R0) : (∃ i, v = .int i ∧ R1 i) ∨ (NoInt K H v ∧ R0) := by
  cases h with
  | int i => exact .inl ⟨i, rfl, q1 i rfl⟩
  | str z hz => exact .inr ⟨⟨_, .base (.str z), .inl (by decide +kernel)⟩, q0 fun _ _ => rfl⟩
  | tup ha hx => exact .inr ⟨⟨_, ha.ty, .inl (by decide +kernel)⟩, q0 fun _ _ => rfl⟩
  | non => exact .inr ⟨⟨_, .base .non, .inl (by decide +kernel)⟩, q0 fun _ _ => rfl⟩
  | bl b => exact .inr ⟨⟨_, .base (.bl b), .inr ⟨by decide +kernel, by decide +kernel⟩⟩, q0 fun _ _ => rfl⟩
  | lst _ ha _ => exact .inr ⟨⟨_, .base (.lst ha), .inl (by decide +kernel)⟩, q0 fun _ _ => rfl⟩
theorem okItems_of : ∀ {ks : List Str} {ds : List PyData}, (∀ (i : Nat) (k : Str) (d : PyData), ks[i]? = some k → ds[i]? = some d → okItem k d = true) → okItems ks ds = true
  | [], _, _ => rfl
  | _ :: _, [], _ => rfl
  | k :: ks, d :: ds, h => by
    show (okItem k d && okItems ks ds) = true
    rw [h 0 k d rfl rfl, okItems_of fun i k d a b => h (i + 1) k d a b]; rfl
theorem okItems_not : ∀ {ks : List Str} {ds : List PyData} {i : Nat} {k : Str} {d : PyData}, ks[i]? = some k → ds[i]? = some d → okItem k d = false → okItems ks ds = false
  | k :: ks, d :: ds, 0, _, _, h1, h2, h => by
    cases h1; cases h2
    show (okItem _ _ && okItems ks ds) = false
    rw [h]; rfl
  | k :: ks, d :: ds, i + 1, _, _, h1, h2, h => by
    show (okItem _ _ && okItems ks ds) = false
    rw [okItems_not (i := i) (ks := ks) (ds := ds) h1 h2 h, Bool.and_false]
theorem cutV_tl {x : V} {xs : List V} : cutV (x :: xs) (some 1) none = xs := by
  unfold cutV
  rw [show (some (1 : Int)) = some ((1 : Nat) : Int) from rfl, HT.sIx_nat, HT.sIx_none, List.length_cons, Nat.min_eq_left (by omega)]
  exact List.take_of_length_le (by rw [List.length_drop, List.length_cons]; exact Nat.le_refl _)
def spCheckAct (K : PySem.W.Frag) (B : Addr) : Sp := fun vs H Q E => ∃ (v : V) (d : PyData), vs = [v] ∧ Dt K H none v d ∧ ActOk d ∧
  (dAct d = "" → ∀ H', Same H H' → Q .non H') ∧ (dAct d ≠ "" → ∀ H' e, Same H H' → H' e = some (.xd [("reason", .str (dAct d)), ("line", .int 0)]) → E (.ref B) (some e) H')
theorem c_check_act {C_BadSchedule : Addr} {C_ITEMS : Addr} (T : Txt K mg w C_BadSchedule C_ITEMS) : CalX P w K mg base 3 "check_act" (spCheckAct K C_BadSchedule) := by
  have c_is_integer := c_is_integer (P := P) (w := w) (base := base) T
  have i_BadSchedule := i_BadSchedule (P := P) (w := w) (base := base) T
  refine calX T.d_check_act sc_check_act (fun vs H Q E h => ?_) (fun f cdv A outer s H vs Q E hr h => ?_)
  · obtain ⟨v, d, rfl, _⟩ := h; rfl
  obtain ⟨v, d, rfl, hd, ok, q, qe⟩ := h
  refine ⟨_, (pss_cons (ps_if (PW.pt (pw_or (pt_not (pt_val (pe_callB (kisi (K := K)) (by rfl) T.z_isinstance (by decide +kernel) (pa_cons (pv 0) (pa_cons (pe_bltn (v := .ty "tuple") (by rfl) T.z_tuple (by decide +kernel) rfl) pa_nil))))) (pw_or (pt_cmpR op_eq (pe_callB (klen (K := K)) (by rfl) T.z_len (by decide +kernel) (pa_cons (pv 0) pa_nil)) pe_int (nomark _)) (pw_or (pt_not (pt_val (pe_callB (kisi (K := K)) (by rfl) T.z_isinstance (by decide +kernel) (pa_cons (pe_ix (kixt (K := K)) (pv 0) pe_int (fun _ _ => rfl)) (pa_cons (pe_bltn (v := .ty "str") (by rfl) T.z_str (by decide +kernel) rfl) pa_nil))))) (pw_or1 (pt_cmpR (kdnin T.kd_ITEMS) (pe_ix (kixt (K := K)) (pv 0) pe_int (fun _ _ => rfl)) (pe_gc (v := .ref C_ITEMS) (by rfl) ⟨_, T.g_ITEMS, rfl⟩) (by rfl))))))) (pss_one (ps_raise rfl (takes_of rfl rfl rfl rfl) (pmk_ei i_BadSchedule hr (by decide) (by rfl) (pa_cons pe_int (pa_cons pe_str pa_nil))))) pss_nil)
      (pss_cons (ps_set (i := 1) sc_check_act.nd rfl (Or.inl rfl) (pe_ix ix_kdict (pe_gc (v := .ref C_ITEMS) (by rfl) ⟨_, T.g_ITEMS, rfl⟩) (pe_ix (kixt (K := K)) (pv 0) pe_int (fun _ _ => rfl)) (fun _ _ => rfl)))
      (pss_cons (ps_if (pt_cmpR op_ne (pe_callB (klen (K := K)) (by rfl) T.z_len (by decide +kernel) (pa_cons (pv 0) pa_nil)) (pe_op op_add (pe_callB (klen (K := K)) (by rfl) T.z_len (by decide +kernel) (pa_cons (pv 1) pa_nil)) pe_int) (nomark _)) (pss_one (ps_raise rfl (takes_of rfl rfl rfl rfl) (pmk_ei i_BadSchedule hr (by decide) (by rfl) (pa_cons pe_int (pa_cons pe_str pa_nil))))) pss_nil)
      (pss_one (ps_for (passes_of rfl) rfl (RZ.pi_zipA (by rfl) T.z_zip (pa_cons (pv 1) (pa_cons (pe_slice sl_tup (pv 0) (po_some pe_int) po_none) pa_nil))) (pg_tup (by rfl) (pgs_cons (pg_name (i := 2) sc_check_act.nd rfl (Or.inl rfl)) (pgs_cons (pg_name (i := 3) sc_check_act.nd rfl (Or.inl rfl)) pgs_nil))) (pss_cons (ps_if (PW.pt (pw_and (pt_cmpR op_eq (pv 2) pe_str (nomark _)) (pw_and1 (pt_not (pt_val (pe_c c_is_integer hr (by decide) (by rfl) (pa_cons (pv 3) (pa_cons pe_int (pa_cons (pe_gc (by rfl) T.c_MOST_TICKS) pa_nil))))))))) (pss_one (ps_raise rfl (takes_of rfl rfl rfl rfl) (pmk_ei i_BadSchedule hr (by decide) (by rfl) (pa_cons pe_int (pa_cons pe_str pa_nil))))) pss_nil)
      (pss_one (ps_if (PW.pt (pw_and (pt_cmpR (kin (K := K)) (pv 2) (pe_tup (pa_cons pe_str (pa_cons pe_str (pa_cons pe_str pa_nil)))) (by rfl)) (pw_and1 (pt_not (pt_val (pe_c c_is_integer hr (by decide) (by rfl) (pa_cons (pv 3) (pa_cons pe_int (pa_cons (pe_gc (by rfl) T.c_MOST_NUMBER) pa_nil))))))))) (pss_one (ps_raise rfl (takes_of rfl rfl rfl rfl) (pmk_ei i_BadSchedule hr (by decide) (by rfl) (pa_cons pe_int (pa_cons pe_str pa_nil))))) pss_nil)))))))), ?_⟩
  have bad : ∀ z : Str, dAct d = z → z ≠ "" → ∀ H' e, Same H H' → H' e = some (.xd [("reason", .str z), ("line", .int 0)]) → E (.ref C_BadSchedule) (some e) H' := fun z e n => by rw [← e] at n ⊢; exact qe n
  walk_at "rds"
  rcases hd.two with ⟨a, xs, ds, rfl, rfl, ha, hx⟩ | ⟨t, ty, kk, nt⟩
  · refine ⟨_, .ty _, _, _, true, rfl, .ty _, ha.ty, kit_ty (by decide +kernel), ?_⟩
    walk_at "rds"
    refine ⟨a, xs, rfl, .inr ha.sq, ?_⟩
    walk_at "rds"
    match xs, ds, hx with
    | [], [], .nil =>
      refine ifT rfl ?_
      walk_at "rds"
      exact mk_two fun H' d s1 _ hd => bad "act" rfl (by decide +kernel) H' d s1 hd
    | x :: xs, d :: ds, .cons h1 h2 =>
      refine ifF (by show decide (V.int ((x :: xs).length : Int) = V.int 0) = false; rw [List.length_cons]; exact decide_eq_false (by intro z; cases z)) ?_
      walk_at "rds"
      refine ⟨a, _, 0, _, rfl, rfl, ha.sq, atI_nat (j := 0) rfl, ?_⟩
      walk_at "rds"
      rcases h1.strOr with ⟨z, rfl, rfl⟩ | ⟨t, ty, kk, nt⟩
      · refine ⟨_, .ty _, _, _, true, rfl, .ty _, .base (.str z), kit_ty (by decide +kernel), ?_⟩
        walk_at "rds"
        refine ⟨a, _, 0, _, rfl, rfl, ha.sq, atI_nat (j := 0) rfl, ?_⟩
        walk_at "rds"
        rcases act_two (show z ∈ actTab.map (·.1) ∨ z ∈ actMiss from ok) with ⟨ks, hm, hl⟩ | ⟨hm, hl⟩
        · obtain ⟨b, ⟨es, n, u, k1, k2, k3, k4⟩, kt⟩ := items_in T hm
          refine ⟨z, _, rfl, rfl, k3, ?_⟩
          walk_at "rds"
          refine ⟨a, _, 0, _, rfl, rfl, ha.sq, atI_nat (j := 0) rfl, ?_⟩
          walk_at "rds"
          refine ⟨_, z, .ref b, rfl, rfl, ⟨es, n, u, k1, k2, k3, k4⟩, ?_⟩
          walk_at "rds"
          refine ⟨a, _, rfl, .inr ha.sq, ?_⟩
          walk_at "rds"
          refine ⟨b, _, rfl, .inr (.inr kt), ?_⟩
          walk_at "rds"
          rw [List.length_map, List.length_cons]
          have hxl := h2.length
          refine ite2 (fun e => ?_) (fun e => ?_)
          · have e : ds.length ≠ ks.length := fun z => by
              have : (!decide (V.int ((xs.length + 1 : Nat) : Int) = V.int ((ks.length : Int) + 1))) = true := e
              rw [decide_eq_true (by rw [hxl, z]; rfl)] at this
              cases this
            have e : dAct (.tuple (.str z :: ds)) = "act" := by rw [dAct_str, hl]; exact if_neg e
            exact mk_two fun H' d s1 _ hd => bad "act" e (by decide +kernel) H' d s1 hd
          · have e : ds.length = ks.length := by
              have : ¬ (!decide (V.int ((xs.length + 1 : Nat) : Int) = V.int ((ks.length : Int) + 1))) = true := e
              by_cases h : V.int ((xs.length + 1 : Nat) : Int) = V.int ((ks.length : Int) + 1)
              · have h := V.int.inj h; omega
              · rw [decide_eq_false h] at this; exact absurd rfl this
            have eA : dAct (.tuple (.str z :: ds)) = if okItems ks ds = true then Str.ofString "" else Str.ofString "number" := by rw [dAct_str, hl]; exact if_pos e
            walk_at "rds"
            delta tNoPart
            refine ⟨a, _, rfl, ha.sq, fun z => ?_, fun p hp => ?_⟩
            · have z := z.1
              rw [show (some (1 : Int)) = some ((1 : Nat) : Int) from rfl, HT.sIx_nat, List.length_cons] at z
              omega
            rw [cutV_tl]
            have s1 : Same H (upd H p (.tup xs)) := same_upd hp
            have hpp : upd H p (.tup xs) p = some (.tup xs) := upd_same
            generalize upd H p (.tup xs) = H1 at s1 hpp
            walk_at "rds"
            refine ⟨b, p, ks.map V.str, xs, rfl, .inr ⟨.inr kt, SqT.of hpp, ?_⟩⟩
            refine RZ.for_zipT (xs := ks.map V.str) (ys := xs) (by rw [List.length_map, hxl, e]) (Pv := fun i σ' H' => Same H1 H' ∧ (∀ j k d, j < i → ks[j]? = some k → ds[j]? = some d → okItem k d = true) ∧ ∃ y2 y3, σ' = [some (.ref a), some (.ref b), y2, y3]) ⟨Same.refl _, fun _ _ _ z => absurd z (Nat.not_lt_zero _), none, none, rfl⟩ (fun i σ' H' h => ⟨.inr kt, SqT.of (h.1 _ _ hpp)⟩) (fun i x y t σ' H' gx gy hp' ht => ?_) (fun σ' H' hp' => ?_)
            · obtain ⟨s2, hall, y2, y3, rfl⟩ := hp'
              rw [List.getElem?_map, Option.map_eq_some_iff] at gx
              obtain ⟨k, gk, rfl⟩ := gx
              obtain ⟨d, gd, hdy⟩ := h2.get gy
              have s3 := s2.trans (same_upd (o := .tup [.str k, y]) ht)
              have hdy := (hdy.on s1).on s3
              have s4 := s1.trans s3
              have htt : upd H' t (.tup [.str k, y]) t = some (.tup [.str k, y]) := upd_same
              generalize upd H' t (.tup [.str k, y]) = H4 at s3 hdy s4 htt
              refine ⟨t, _, rfl, SqT.of htt, rfl, _, _, rfl, _, _, rfl, rfl, ?_⟩
              have i_at : ∀ {H'' : Hp}, Same H1 H'' → okItem k d = true → Same H1 H'' ∧ (∀ (j : Nat) (k : Str) (d : PyData), j < i + 1 → ks[j]? = some k → ds[j]? = some d → okItem k d = true) := fun s' ho => ⟨s', fun j k' d' hj g1 g2 => by
                rcases Nat.lt_or_ge j i with h | h
                · exact hall j k' d' h g1 g2
                · obtain rfl : j = i := by omega
                  rw [gk] at g1; rw [gd] at g2
                  cases g1; cases g2; exact ho⟩
              have bad2 : okItem k d = false → ∀ H' e, Same H H' → H' e = some (.xd [("reason", .str "number"), ("line", .int 0)]) → E (.ref C_BadSchedule) (some e) H' := fun ho => bad "number" (by rw [eA, if_neg (by rw [okItems_not gk gd ho]; decide)]) (by decide +kernel)
              have hin : inV (.str k) [V.str "position", .str "count", .str "keep"] = decide (k = "position" ∨ k = "count" ∨ k = "keep") := by
                unfold inV
                simp only [List.any_cons, List.any_nil, Bool.or_false]
                by_cases h1 : k = "position"
                · subst h1; decide +kernel
                · by_cases h2 : k = "count"
                  · subst h2; decide +kernel
                  · by_cases h3 : k = "keep"
                    · subst h3; decide +kernel
                    · rw [decide_eq_false (by intro z; rcases z with z | z | z; exact h1 z; exact h2 z; exact h3 z)]
                      have q1 : ∀ {a b : Str}, b ≠ a → eqV (.str a) (.str b) = false := fun n => by
                        simp [eqV, Ne.symm n]
                      rw [q1 h1, q1 h2, q1 h3]; rfl
              walk_at "rds"
              by_cases ek : k = "ticks"
              · refine ite2 (fun _ => ?_) (fun z => absurd (by rw [ek]; decide +kernel) z)
                walk_at "rds"
                have eo : okItem k d = dInt 1 1000 d := by unfold okItem; rw [if_pos ek]
                refine ⟨_, _, _, rfl, int_or hdy (fun i' ei => ?_) (fun e0 => ?_)⟩
                rotate_left
                · walk_at "rds"
                  exact mk_two fun H' e s5 _ he => bad2 (by rw [eo, e0]) H' e (s4.trans s5) he
                have ho : dInt 1 1000 d = decide (1 ≤ i' ∧ i' ≤ 1000) := by rw [ei]; rfl
                by_cases hi : 1 ≤ i' ∧ i' ≤ 1000
                rotate_left
                · rw [decide_eq_false hi]
                  walk_at "rds"
                  exact mk_two fun H' e s5 _ he => bad2 (by rw [eo, ho, decide_eq_false hi]) H' e (s4.trans s5) he
                · rw [decide_eq_true hi]
                  have ho := ho.trans (decide_eq_true hi)
                  walk_at "rds"
                  intro t2 ht2
                  have s5 := s3.trans (same_upd (o := .tup [V.str "position", .str "count", .str "keep"]) ht2)
                  walk_at "rds"
                  refine ⟨t2, _, rfl, .inr (SqT.of upd_same), rfl, rfl, ?_⟩
                  walk_at "rds"
                  rw [hin, decide_eq_false (by rw [ek]; decide +kernel)]
                  walk_at "rds"
                  obtain ⟨q1, q2⟩ := i_at s5 (by rw [eo, ho])
                  exact ⟨q1, q2, _, _, rfl⟩
              · refine ite2 (fun z => absurd (V.str.inj (of_decide_eq_true z)) ek) (fun _ => ?_)
                walk_at "rds"
                intro t2 ht2
                have s5 := s3.trans (same_upd (o := .tup [V.str "position", .str "count", .str "keep"]) ht2)
                have hdy := hdy.on (same_upd (o := .tup [V.str "position", .str "count", .str "keep"]) ht2)
                have s6 := s4.trans (same_upd (o := .tup [V.str "position", .str "count", .str "keep"]) ht2)
                walk_at "rds"
                refine ⟨t2, _, rfl, .inr (SqT.of upd_same), rfl, rfl, ?_⟩
                walk_at "rds"
                rw [hin]
                by_cases ep : k = "position" ∨ k = "count" ∨ k = "keep"
                · rw [decide_eq_true ep]
                  have eo : okItem k d = dInt 0 1000000000000 d := by unfold okItem; rw [if_neg ek, if_pos ep]
                  walk_at "rds"
                  refine ⟨_, _, _, rfl, int_or hdy (fun i' ei => ?_) (fun e0 => ?_)⟩
                  rotate_left
                  · walk_at "rds"
                    exact mk_two fun H' e s7 _ he => bad2 (by rw [eo, e0]) H' e (s6.trans s7) he
                  have ho : dInt 0 1000000000000 d = decide (0 ≤ i' ∧ i' ≤ 1000000000000) := by rw [ei]; rfl
                  by_cases hi : 0 ≤ i' ∧ i' ≤ 1000000000000
                  rotate_left
                  · rw [decide_eq_false hi]
                    walk_at "rds"
                    exact mk_two fun H' e s7 _ he => bad2 (by rw [eo, ho, decide_eq_false hi]) H' e (s6.trans s7) he
                  · rw [decide_eq_true hi]
                    have ho := ho.trans (decide_eq_true hi)
                    walk_at "rds"
                    obtain ⟨q1, q2⟩ := i_at s5 (by rw [eo, ho])
                    exact ⟨q1, q2, _, _, rfl⟩
                · rw [decide_eq_false ep]
                  walk_at "rds"
                  obtain ⟨q1, q2⟩ := i_at s5 (by unfold okItem; rw [if_neg ek, if_neg ep])
                  exact ⟨q1, q2, _, _, rfl⟩
            · obtain ⟨s2, hall, y2, y3, rfl⟩ := hp'
              walk_at "rds"
              rw [List.length_map] at hall
              refine q ?_ _ (s1.trans s2)
              rw [eA, if_pos (okItems_of fun i k d g1 g2 => hall i k d (List.getElem?_eq_some_iff.mp g1).1 g1 g2)]
        · refine ⟨z, _, rfl, rfl, items_no T hm, ?_⟩
          walk_at "rds"
          have e : dAct (.tuple (.str z :: ds)) = "act" := by rw [dAct_str, hl]
          exact mk_two fun H' d s1 _ hd => bad "act" e (by decide +kernel) H' d s1 hd
      · refine ⟨_, .ty _, _, _, false, rfl, .ty _, ty, kit_ty kk, ?_⟩
        walk_at "rds"
        have e : dAct (.tuple (d :: ds)) = "act" := by
          unfold dAct
          split
          · rename_i e; cases e; exact absurd rfl (nt _)
          · rfl
        exact mk_two fun H' d s1 _ hd => bad "act" e (by decide +kernel) H' d s1 hd
  · refine ⟨_, .ty _, _, _, false, rfl, .ty _, ty, kit_ty kk, ?_⟩
    walk_at "rds"
    have e : dAct d = "act" := by
      unfold dAct
      split
      · exact absurd rfl (nt _)
      · rfl
    exact mk_two fun H' d s1 _ hd => bad "act" e (by decide +kernel) H' d s1 hd
end

/-! ### the law -/
def sh2 : Int → Nat → Int
  | k, 0 => k
  | k, j + 1 => sh2 k j / 2
def flagsOf (k : Int) (n : Nat) : List V := (List.range n).map fun j => V.bl (decide (V.int (sh2 k j % 2) = V.int 1))
theorem flagsOf_succ (k : Int) (n : Nat) : flagsOf k (n + 1) = flagsOf k n ++ [V.bl (decide (V.int (sh2 k n % 2) = V.int 1))] := by unfold flagsOf; rw [List.range_succ, List.map_append]; rfl
theorem flagsOf_len (k : Int) (n : Nat) : (flagsOf k n).length = n := by unfold flagsOf; rw [List.length_map, List.length_range]
theorem flagsOf_get (k : Int) {n j : Nat} (h : j < n) : (flagsOf k n)[j]? = some (V.bl (decide (V.int (sh2 k j % 2) = V.int 1))) := by
  unfold flagsOf
  rw [List.getElem?_map, List.getElem?_range h]; rfl
theorem DtAll.pair {K : PySem.W.Frag} {H : Hp} {A : Option Addr} {xs : List V} {ds : List PyData} {t : Addr} {z f : Str} (D : DtAll K H A xs ds) (ht : H t = none) (h1 : z.length ≤ 1000000) (h2 : f.length ≤ 1000000) : DtAll K (upd H t (.tup [.str z, .str f])) A (xs ++ [.ref t]) (ds ++ [.tuple [.str z, .str f]]) :=
  (D.on (same_upd ht)).snoc (.tup (.inl upd_same) (.cons (.str _ h1) (.cons (.str _ h2) .nil)))
theorem noLs_mem : ∀ {ds : List PyData} {d : PyData}, noLs ds = true → d ∈ ds → noL d = true
  | e :: r, d, h, m => by
    have h : (noL e && noLs r) = true := h
    rw [Bool.and_eq_true] at h
    rcases List.mem_cons.mp m with rfl | m
    · exact h.1
    · exact noLs_mem h.2 m
theorem DtAll.at_ {K : PySem.W.Frag} {H : Hp} {A : Option Addr} {xs : List V} {ds : List PyData} {i : Nat} {x : V} {d : PyData} (D : DtAll K H A xs ds) (h1 : xs[i]? = some x) (h2 : ds[i]? = some d) : Dt K H A x d := by
  obtain ⟨d', g2, hd⟩ := D.get h1
  rw [h2] at g2
  cases g2
  exact hd
theorem DtAll.mem {K : PySem.W.Frag} {H : Hp} {A : Option Addr} {xs : List V} {ds : List PyData} {v : V} (D : DtAll K H A xs ds) (h : v ∈ xs) : ∃ d, d ∈ ds ∧ Dt K H A v d := by
  obtain ⟨i, g⟩ := List.getElem?_of_mem h
  obtain ⟨d, g2, hd⟩ := D.get g
  exact ⟨d, List.mem_of_getElem? g2, hd⟩
theorem DtAll.new {K : PySem.W.Frag} {H : Hp} {A : Option Addr} {xs ys : List V} {ds es : List PyData} {t : Addr} (D : DtAll K H A xs ds) (ht : H t = none) (h : DtAll K H A ys es) : DtAll K (upd H t (.tup ys)) A (xs ++ [.ref t]) (ds ++ [.tuple es]) :=
  (D.on (same_upd ht)).snoc (.tup (.inl upd_same) (h.on (same_upd ht)))
theorem DtAll.newL {K : PySem.W.Frag} {H : Hp} {xs ys : List V} {ds es : List PyData} {t : Addr} (D : DtAll K H none xs ds) (ht : H t = none) (h : DtAll K H none ys es) : DtAll K (upd H t (.lst ys)) none (xs ++ [.ref t]) (ds ++ [.list es]) :=
  (D.on (same_upd ht)).snoc (.lst trivial upd_same (h.on (same_upd ht)))
def tagC (k : Str) : Nat := if k = "ticks" then 116 else if k = "position" ∨ k = "count" ∨ k = "keep" then 112 else 120
def formOf (ks : List Str) : Str := ⟨(ks.map tagC).toArray⟩
theorem formOf_len (ks : List Str) : (formOf ks).length = ks.length := by
  show (ks.map tagC).toArray.size = _
  rw [List.size_toArray, List.length_map]
def kindsD : List PyData := actTab.map fun e => .tuple [.str e.1, .str (formOf e.2)]
def spKinds (K : PySem.W.Frag) : Sp := fun vs H Q _ => vs = [] ∧ ∀ H' l xs, Same H H' → H' l = some (.lst xs) → DtAll K H' none xs kindsD → Q (.ref l) H'
def spItem (K : PySem.W.Frag) : Sp := fun vs H Q _ => ∃ c : Int, vs = [.int c] ∧ ∀ H' v d, Same H H' → Dt K H' none v d → noL d = true → Q v H'
def spBuilt (K : PySem.W.Frag) : Sp := fun vs H Q _ => ∃ c : Int, vs = [.int c] ∧ ∀ H' v d, Same H H' → Dt K H' none v d → ActOk d → Q v H'
def spLCell (K : PySem.W.Frag) : Sp := fun vs H Q _ => ∃ (a : Addr) (ns : List Int) (k : Nat), vs = [.ref a, .int k] ∧ SqL K H a (ns.map V.int) ∧ ns.length ≤ 63 ∧ ∀ r : Int, Q (.int r) H
def spSurv : Sp := fun vs H Q _ => ∃ (k : Int) (n : Nat), vs = [.int k, .int n] ∧ n ≤ 100 ∧ ∀ H' r, Same H H' → H r = none → H' r = some (.lst (flagsOf k n)) → Q (.ref r) H'
def spLSurv : Sp := fun vs H Q _ => ∃ (k : Int) (n : Nat), vs = [.int k, .int n] ∧ n ≤ 100 ∧ ∀ H', Same H H' → Q (.bl true) H'
def spDue (K : PySem.W.Frag) : Sp := fun vs H Q _ => ∃ (v : V) (d : PyData), vs = [v] ∧ Dt K H none v d ∧ ActOk d ∧ ∀ H', Same H H' → Q (.str (dAct d)) H'
section
variable {P : Program} {w : World} {K : PySem.W.Frag} {mg : Str → Option Value} {base : Heap}
theorem c_survivors {C_BadSchedule : Addr} {C_ITEMS : Addr} (T : Txt K mg w C_BadSchedule C_ITEMS) : Cal P w K mg base 1 "survivors" spSurv [] := by
  refine cal T.d_survivors sc_survivors (fun vs H Q E h => ?_) (fun f cdv A' outer s H vs Q E hr h => ?_)
  · obtain ⟨k, n, rfl, _⟩ := h; rfl
  obtain ⟨k, n, rfl, hn, q⟩ := h
  refine ⟨_, (pss_cons (ps_set (i := 2) sc_survivors.nd rfl (Or.inl rfl) (pe_lst pa_nil))
      (pss_cons (ps_for PassesOwn.never rfl (pi_range1 (by rfl) T.z_range (pa_cons (pv 1) pa_nil)) (pg_name (i := 3) sc_survivors.nd rfl (Or.inl rfl)) (pss_cons (ps_expr (pe_bm PySem.F.plainAttrs_list PySem.F.slot_list_append PySem.F.type_list_append mt_append (pv 2) (pa_cons (pe_cmpR op_eq (pe_op op_mod (pv 0) pe_int) pe_int (nomark _)) pa_nil)))
      (pss_one (ps_set (i := 0) sc_survivors.nd rfl (Or.inl rfl) (pe_op op_fdiv (pv 0) pe_int)))))
      (pss_one (ps_ret (pv 2))))), ?_⟩
  walk_at "rds"
  intro l hl
  walk_at "rds"
  refine for_it walk_range (Pv := fun i σ' H' => ∃ y3, σ' = [some (.int (sh2 k i)), some (.int n), some (.ref l), y3] ∧ Same H H' ∧ H' l = some (.lst (flagsOf k i))) ⟨none, rfl, same_upd hl, upd_same⟩ (fun _ _ _ _ _ => trivial) (fun i x σ' H5 H6 hi hp' hy => ?_) (fun σ' H5 hp' => ?_)
  · obtain ⟨y3, rfl, s1, e1⟩ := hp'
    obtain ⟨rfl, rfl⟩ := hy
    walk_at "rds"
    refine ⟨.inl ⟨rfl, _, sq e1⟩, ?_⟩
    walk_at "rds"
    refine ⟨l, _, _, rfl, rfl, e1, sz1000' (by rw [flagsOf_len]; omega), ?_⟩
    walk_at "rds"
    refine ⟨_, rfl, same_mut s1 hl, ?_⟩
    rw [upd_same, flagsOf_succ]
  · obtain ⟨y3, rfl, s1, e1⟩ := hp'
    walk_at "rds"
    exact q _ _ s1 hl e1
theorem c__law_survivors {C_BadSchedule : Addr} {C_ITEMS : Addr} (T : Txt K mg w C_BadSchedule C_ITEMS) : Cal P w K mg base 2 "_law_survivors" spLSurv [] := by
  have c_survivors := c_survivors (P := P) (w := w) (base := base) T
  refine cal T.d__law_survivors sc__law_survivors (fun vs H Q E h => ?_) (fun f cdv A' outer s H vs Q E hr h => ?_)
  · obtain ⟨k, n, rfl, _⟩ := h; rfl
  obtain ⟨k, n, rfl, hn, q⟩ := h
  refine ⟨_, (pss_cons (ps_set (i := 2) sc__law_survivors.nd rfl (Or.inl rfl) (pe_c c_survivors hr (by decide) (by rfl) (pa_cons (pv 0) (pa_cons (pv 1) pa_nil))))
      (pss_cons (ps_if (PW.pt (pw_or (pt_not (pt_val (pe_callB (kisi (K := K)) (by rfl) T.z_isinstance (by decide +kernel) (pa_cons (pv 2) (pa_cons (pe_bltn (v := .ty "list") (by rfl) T.z_list (by decide +kernel) rfl) pa_nil))))) (pw_or1 (pt_cmpR op_ne (pe_callB (klen (K := K)) (by rfl) T.z_len (by decide +kernel) (pa_cons (pv 2) pa_nil)) (pv 1) (nomark _))))) (pss_one (ps_ret pe_bl)) pss_nil)
      (pss_cons (ps_set (i := 3) sc__law_survivors.nd rfl (Or.inl rfl) (pv 0))
      (pss_cons (ps_for PassesOwn.never rfl (pi_range1 (by rfl) T.z_range (pa_cons (pv 1) pa_nil)) (pg_name (i := 4) sc__law_survivors.nd rfl (Or.inl rfl)) (pss_cons (ps_if (PW.pt (pw_or (pt_not (pt_val (pe_callB (kisi (K := K)) (by rfl) T.z_isinstance (by decide +kernel) (pa_cons (pe_ix (kixl (K := K)) (pv 2) (pv 4) (fun _ _ => rfl)) (pa_cons (pe_bltn (v := .ty "bool") (by rfl) T.z_bool (by decide +kernel) rfl) pa_nil))))) (pw_or1 (pt_cmpR op_ne (pe_ix (kixl (K := K)) (pv 2) (pv 4) (fun _ _ => rfl)) (pe_cmpR op_eq (pe_op op_mod (pv 3) pe_int) pe_int (nomark _)) (nomark _))))) (pss_one (ps_ret pe_bl)) pss_nil)
      (pss_one (ps_set (i := 3) sc__law_survivors.nd rfl (Or.inl rfl) (pe_op op_fdiv (pv 3) pe_int)))))
      (pss_one (ps_ret pe_bl)))))), ?_⟩
  walk_at "rds"
  refine ⟨k, n, rfl, hn, fun H1 r s1 hr0 hr1 => ?_⟩
  walk_at "rds"
  walk_at "isi"
  walk_at "rds"
  refine ⟨r, _, rfl, .inl (sq hr1), ?_⟩
  walk_at "rds"
  refine ifF (by show (!decide (V.int ((flagsOf k n).length : Int) = V.int (n : Int))) = false; rw [flagsOf_len, decide_eq_true rfl]; rfl) ?_
  walk_at "rds"
  refine for_it walk_range (Pv := fun i σ' H' => H' = H1 ∧ ∃ y4, σ' = [some (.int k), some (.int n), some (.ref r), some (.int (sh2 k i)), y4]) ⟨rfl, none, rfl⟩ (fun _ _ _ _ _ => trivial) (fun i x σ' H5 H6 hi hp' hy => ?_) (fun σ' H5 hp' => ?_)
  · obtain ⟨rfl, y4, rfl⟩ := hp'
    obtain ⟨rfl, rfl⟩ := hy
    have e0 : (0 : Int) + (i : Int) = (i : Int) := by omega
    walk_at "rds"
    refine ⟨r, _, _, _, rfl, rfl, sq hr1, (by show atI _ (0 + (i : Int)) = _; rw [e0]; exact atI_nat (flagsOf_get k (by omega))), ?_⟩
    walk_at "rds"
    walk_at "isi"
    walk_at "rds"
    refine ⟨r, _, _, _, rfl, rfl, sq hr1, (by show atI _ (0 + (i : Int)) = _; rw [e0]; exact atI_nat (flagsOf_get k (by omega))), ?_⟩
    walk_at "rds"
    refine ifF (by show (!decide (V.bl (decide (V.int (sh2 k i % 2) = V.int 1)) = V.bl (decide (V.int (sh2 k i % 2) = V.int 1)))) = false; rw [decide_eq_true rfl]; rfl) ?_
    walk_at "rds"
    exact ⟨rfl, _, rfl⟩
  · obtain ⟨rfl, y4, rfl⟩ := hp'
    walk_at "rds"
    exact q _ s1
theorem c__law_kinds {C_BadSchedule : Addr} {C_ITEMS : Addr} (T : Txt K mg w C_BadSchedule C_ITEMS) : Cal P w K mg base 1 "_law_kinds" (spKinds K) [] := by
  refine cal T.d__law_kinds sc__law_kinds (fun vs H Q E h => ?_) (fun f cdv A' outer s H vs Q E hr h => ?_)
  · obtain ⟨rfl, _⟩ := h; rfl
  obtain ⟨rfl, q⟩ := h
  refine ⟨_, (pss_cons (ps_set (i := 0) sc__law_kinds.nd rfl (Or.inl rfl) (pe_lst (pa_cons (pe_tup (pa_cons pe_str (pa_cons pe_str pa_nil))) (pa_cons (pe_tup (pa_cons pe_str (pa_cons pe_str pa_nil))) (pa_cons (pe_tup (pa_cons pe_str (pa_cons pe_str pa_nil))) (pa_cons (pe_tup (pa_cons pe_str (pa_cons pe_str pa_nil))) (pa_cons (pe_tup (pa_cons pe_str (pa_cons pe_str pa_nil))) (pa_cons (pe_tup (pa_cons pe_str (pa_cons pe_str pa_nil))) pa_nil))))))))
      (pss_cons (ps_set (i := 0) sc__law_kinds.nd rfl (Or.inl rfl) (pe_op op_cat (pv 0) (pe_lst (pa_cons (pe_tup (pa_cons pe_str (pa_cons pe_str pa_nil))) (pa_cons (pe_tup (pa_cons pe_str (pa_cons pe_str pa_nil))) (pa_cons (pe_tup (pa_cons pe_str (pa_cons pe_str pa_nil))) (pa_cons (pe_tup (pa_cons pe_str (pa_cons pe_str pa_nil))) (pa_cons (pe_tup (pa_cons pe_str (pa_cons pe_str pa_nil))) (pa_cons (pe_tup (pa_cons pe_str (pa_cons pe_str pa_nil))) pa_nil)))))))))
      (pss_one (ps_ret (pv 0))))), ?_⟩
  walk_at "rds"
  have D0 : DtAll K H none [] [] := .nil
  have s0 : Same H H := Same.refl H
  intro t0 ht0
  have D1 := D0.pair (z := "tick") (f := "t") ht0 (by decide) (by decide)
  have s1 := s0.trans (same_upd (o := .tup [V.str "tick", .str "t"]) ht0)
  generalize upd H t0 (.tup [V.str "tick", .str "t"]) = H1 at D1 s1
  walk_at "rds"
  intro t1 ht1
  have D2 := D1.pair (z := "submit") (f := "xx") ht1 (by decide) (by decide)
  have s2 := s1.trans (same_upd (o := .tup [V.str "submit", .str "xx"]) ht1)
  generalize upd H1 t1 (.tup [V.str "submit", .str "xx"]) = H2 at D2 s2
  walk_at "rds"
  intro t2 ht2
  have D3 := D2.pair (z := "deliver") (f := "p") ht2 (by decide) (by decide)
  have s3 := s2.trans (same_upd (o := .tup [V.str "deliver", .str "p"]) ht2)
  generalize upd H2 t2 (.tup [V.str "deliver", .str "p"]) = H3 at D3 s3
  walk_at "rds"
  intro t3 ht3
  have D4 := D3.pair (z := "round") (f := "") ht3 (by decide) (by decide)
  have s4 := s3.trans (same_upd (o := .tup [V.str "round", .str ""]) ht3)
  generalize upd H3 t3 (.tup [V.str "round", .str ""]) = H4 at D4 s4
  walk_at "rds"
  intro t4 ht4
  have D5 := D4.pair (z := "calm") (f := "t") ht4 (by decide) (by decide)
  have s5 := s4.trans (same_upd (o := .tup [V.str "calm", .str "t"]) ht4)
  generalize upd H4 t4 (.tup [V.str "calm", .str "t"]) = H5 at D5 s5
  walk_at "rds"
  intro t5 ht5
  have D6 := D5.pair (z := "lose") (f := "p") ht5 (by decide) (by decide)
  have s6 := s5.trans (same_upd (o := .tup [V.str "lose", .str "p"]) ht5)
  generalize upd H5 t5 (.tup [V.str "lose", .str "p"]) = H6 at D6 s6
  walk_at "rds"
  intro l1 hl1
  have E6 := D6.on (same_upd (o := .lst [V.ref t0, .ref t1, .ref t2, .ref t3, .ref t4, .ref t5]) hl1)
  have s7 := s6.trans (same_upd (o := .lst [V.ref t0, .ref t1, .ref t2, .ref t3, .ref t4, .ref t5]) hl1)
  have g1 : upd H6 l1 (.lst [V.ref t0, .ref t1, .ref t2, .ref t3, .ref t4, .ref t5]) l1 = some (.lst [V.ref t0, .ref t1, .ref t2, .ref t3, .ref t4, .ref t5]) := upd_same
  generalize upd H6 l1 (.lst [V.ref t0, .ref t1, .ref t2, .ref t3, .ref t4, .ref t5]) = H7 at E6 s7 g1
  walk_at "rds"
  have D7 := E6
  have r0 : Same H7 H7 := Same.refl H7
  intro u0 hu0
  have D8 := D7.pair (z := "double") (f := "p") hu0 (by decide) (by decide)
  have s8 := s7.trans (same_upd (o := .tup [V.str "double", .str "p"]) hu0)
  have r1 := r0.trans (same_upd (o := .tup [V.str "double", .str "p"]) hu0)
  generalize upd H7 u0 (.tup [V.str "double", .str "p"]) = H8 at D8 s8 r1
  walk_at "rds"
  intro u1 hu1
  have D9 := D8.pair (z := "move") (f := "p") hu1 (by decide) (by decide)
  have s9 := s8.trans (same_upd (o := .tup [V.str "move", .str "p"]) hu1)
  have r2 := r1.trans (same_upd (o := .tup [V.str "move", .str "p"]) hu1)
  generalize upd H8 u1 (.tup [V.str "move", .str "p"]) = H9 at D9 s9 r2
  walk_at "rds"
  intro u2 hu2
  have D10 := D9.pair (z := "say") (f := "xxx") hu2 (by decide) (by decide)
  have s10 := s9.trans (same_upd (o := .tup [V.str "say", .str "xxx"]) hu2)
  have r3 := r2.trans (same_upd (o := .tup [V.str "say", .str "xxx"]) hu2)
  generalize upd H9 u2 (.tup [V.str "say", .str "xxx"]) = H10 at D10 s10 r3
  walk_at "rds"
  intro u3 hu3
  have D11 := D10.pair (z := "arm") (f := "xp") hu3 (by decide) (by decide)
  have s11 := s10.trans (same_upd (o := .tup [V.str "arm", .str "xp"]) hu3)
  have r4 := r3.trans (same_upd (o := .tup [V.str "arm", .str "xp"]) hu3)
  generalize upd H10 u3 (.tup [V.str "arm", .str "xp"]) = H11 at D11 s11 r4
  walk_at "rds"
  intro u4 hu4
  have D12 := D11.pair (z := "crash") (f := "x") hu4 (by decide) (by decide)
  have s12 := s11.trans (same_upd (o := .tup [V.str "crash", .str "x"]) hu4)
  have r5 := r4.trans (same_upd (o := .tup [V.str "crash", .str "x"]) hu4)
  generalize upd H11 u4 (.tup [V.str "crash", .str "x"]) = H12 at D12 s12 r5
  walk_at "rds"
  intro u5 hu5
  have D13 := D12.pair (z := "restart") (f := "xp") hu5 (by decide) (by decide)
  have s13 := s12.trans (same_upd (o := .tup [V.str "restart", .str "xp"]) hu5)
  have r6 := r5.trans (same_upd (o := .tup [V.str "restart", .str "xp"]) hu5)
  generalize upd H12 u5 (.tup [V.str "restart", .str "xp"]) = H13 at D13 s13 r6
  walk_at "rds"
  intro l2 hl2
  walk_at "rds"
  refine ⟨l1, l2, _, _, rfl, rfl, (same_upd hl2) _ _ (r6 _ _ g1), upd_same, sz1000 (by show 12 ≤ 100000; decide), fun l3 hl3 => ?_⟩
  walk_at "rds"
  refine q _ l3 _ ((s13.trans (same_upd hl2)).trans (same_upd hl3)) upd_same ((D13.on (same_upd hl2)).on (same_upd hl3))
theorem c__law_item {C_BadSchedule : Addr} {C_ITEMS : Addr} (T : Txt K mg w C_BadSchedule C_ITEMS) : Cal P w K mg base 1 "_law_item" (spItem K) [] := by
  refine cal T.d__law_item sc__law_item (fun vs H Q E h => ?_) (fun f cdv A' outer s H vs Q E hr h => ?_)
  · obtain ⟨c, rfl, _⟩ := h; rfl
  obtain ⟨c, rfl, q⟩ := h
  refine ⟨_, (pss_cons (ps_set (i := 1) sc__law_item.nd rfl (Or.inl rfl) (pe_lst (pa_cons pe_int (pa_cons pe_int (pa_cons pe_int (pa_cons pe_int (pa_cons pe_int (pa_cons pe_int (pa_cons (pe_op op_pow pe_int pe_int) (pa_cons (pe_op op_add (pe_op op_pow pe_int pe_int) pe_int) (pa_cons (pe_un un_neg pe_int) (pa_cons pe_bl (pa_cons pe_bl (pa_cons pe_non (pa_cons pe_str (pa_cons (pe_tup pa_nil) (pa_cons (pe_tup (pa_cons pe_int pa_nil)) (pa_cons pe_str pa_nil))))))))))))))))))
      (pss_one (ps_ret (pe_ix (kixl (K := K)) (pv 1) (pe_op op_mod (pe_callTy call_int1 (by rfl) T.z_int (by decide +kernel) (pa_cons (pv 0) pa_nil)) pe_int) (fun _ _ => rfl))))), ?_⟩
  walk_at "rds"
  intro t0 ht0
  have s0 := same_upd (o := .tup []) ht0
  have D0 : DtAll K (upd H t0 (.tup [])) none [.ref t0] [.tuple []] := .cons (.tup (.inl upd_same) .nil) .nil
  generalize upd H t0 (.tup []) = H1 at s0 D0
  walk_at "rds"
  intro t1 ht1
  have s1 := s0.trans (same_upd (o := .tup [.int 1]) ht1)
  have D1 := D0.new ht1 (.cons (.int 1) .nil)
  generalize upd H1 t1 (.tup [V.int 1]) = H2 at s1 D1
  walk_at "rds"
  intro L hL
  have h0 : Dt K H2 none (.ref t0) (.tuple []) := by cases D1 with | cons a b => exact a
  have h1 : Dt K H2 none (.ref t1) (.tuple [.int 1]) := by cases D1 with | cons a b => cases b with | cons a b => exact a
  have D3 : DtAll K H2 none [V.int 0, V.int 1, V.int 2, V.int 999, V.int 1000, V.int 1001, V.int (10 ^ Int.toNat 12), V.int (10 ^ Int.toNat 12 + 1), V.int (-1), V.bl true, V.bl false, V.non, V.str "1", V.ref t0, V.ref t1, V.str ""] _ :=
    .cons (.int _) (.cons (.int _) (.cons (.int _) (.cons (.int _) (.cons (.int _) (.cons (.int _) (.cons (.int _) (.cons (.int _) (.cons (.int _) (.cons (.bl _) (.cons (.bl _) (.cons .non (.cons (.str _ (by decide)) (.cons h0 (.cons h1 (.cons (.str _ (by decide)) .nil)))))))))))))))
  have D4 := D3.on (same_upd (o := .lst [V.int 0, V.int 1, V.int 2, V.int 999, V.int 1000, V.int 1001, V.int (10 ^ Int.toNat 12), V.int (10 ^ Int.toNat 12 + 1), V.int (-1), V.bl true, V.bl false, V.non, V.str "1", V.ref t0, V.ref t1, V.str ""]) hL)
  walk_at "rds"
  obtain ⟨v, hv, hat⟩ := atI_lt (xs := [V.int 0, V.int 1, V.int 2, V.int 999, V.int 1000, V.int 1001, V.int (10 ^ Int.toNat 12), V.int (10 ^ Int.toNat 12 + 1), V.int (-1), V.bl true, V.bl false, V.non, V.str "1", V.ref t0, V.ref t1, V.str ""]) (i := c % 16) (by omega) (by show c % 16 < 16; omega)
  obtain ⟨d, hd0, hd⟩ := D4.mem hv
  refine ⟨L, _, _, _, rfl, rfl, sq upd_same, hat, ?_⟩
  exact q _ _ _ (s1.trans (same_upd hL)) hd (noLs_mem rfl hd0)
theorem kinds_mem {d : PyData} (h : d ∈ kindsD) : ∃ z ks, d = .tuple [.str z, .str (formOf ks)] ∧ (z, ks) ∈ actTab := by
  obtain ⟨e, he, rfl⟩ := List.mem_map.mp h
  exact ⟨e.1, e.2, rfl, he⟩
theorem act_len {z : Str} {ks : List Str} (h : (z, ks) ∈ actTab) : ks.length ≤ 3 := by
  simp only [actTab, List.mem_cons, List.not_mem_nil, or_false, Prod.mk.injEq] at h
  rcases h with ⟨rfl, rfl⟩ | ⟨rfl, rfl⟩ | ⟨rfl, rfl⟩ | ⟨rfl, rfl⟩ | ⟨rfl, rfl⟩ | ⟨rfl, rfl⟩ | ⟨rfl, rfl⟩ | ⟨rfl, rfl⟩ | ⟨rfl, rfl⟩ | ⟨rfl, rfl⟩ | ⟨rfl, rfl⟩ | ⟨rfl, rfl⟩ <;> decide
theorem Dt.two_s {H : Hp} {A : Option Addr} {v : V} {z f : Str} (h : Dt K H A v (.tuple [.str z, .str f])) : ∃ t, v = .ref t ∧ TupAt K H t [.str z, .str f] := by
  cases h with
  | tup ha hd =>
    cases hd with
    | cons h1 hd =>
      cases hd with
      | cons h2 hd =>
        cases hd
        cases h1; cases h2
        exact ⟨_, rfl, ha⟩
theorem c__law_built {C_BadSchedule : Addr} {C_ITEMS : Addr} (T : Txt K mg w C_BadSchedule C_ITEMS) : Cal P w K mg base 2 "_law_built" (spBuilt K) [] := by
  have c__law_kinds := c__law_kinds (P := P) (w := w) (base := base) T
  have c__law_item := c__law_item (P := P) (w := w) (base := base) T
  refine cal T.d__law_built sc__law_built (fun vs H Q E h => ?_) (fun f cdv A' outer s H vs Q E hr h => ?_)
  · obtain ⟨c, rfl, _⟩ := h; rfl
  obtain ⟨c, rfl, q⟩ := h
  refine ⟨_, (pss_cons (ps_asg (pe_ix (kixl (K := K)) (pe_c0 c__law_kinds hr (by decide) (by rfl)) (pe_op op_mod (pv 0) pe_int) (fun _ _ => rfl)) (pg_tup (by rfl) (pgs_cons (pg_name (i := 1) sc__law_built.nd rfl (Or.inl rfl)) (pgs_cons (pg_name (i := 2) sc__law_built.nd rfl (Or.inl rfl)) pgs_nil))))
      (pss_cons (ps_set (i := 3) sc__law_built.nd rfl (Or.inr rfl) (pe_op op_fdiv (pv 0) pe_int))
      (pss_cons (ps_set (i := 4) sc__law_built.nd rfl (Or.inl rfl) (pe_callB call_len_str (by rfl) T.z_len (by decide +kernel) (pa_cons (pv 2) pa_nil)))
      (pss_cut (ps_if (pt_cmpR op_eq (pe_op op_mod (pv 3) pe_int) pe_int (nomark _)) (pss_one (ps_set (i := 4) sc__law_built.nd rfl (Or.inl rfl) (pe_callB (call_max2 rfl) (by rfl) T.z_max (by decide +kernel) (pa_cons pe_int (pa_cons (pe_op op_add (pe_op op_sub (pv 4) pe_int) (pe_op op_mod (pe_op op_fdiv (pv 3) pe_int) pe_int)) pa_nil))))) pss_nil)
      (pss_cons (ps_setLc (i := 5) (own := [("k", 6)]) (g := gName 6) rfl sc__law_built.nd rfl rfl (sw_true rfl rfl rfl (by decide +kernel)) (pi_range1 (by rfl) T.z_range (pa_cons (pv 4) pa_nil)) (blkOk_by (own := [("k", 6)]) (N := ["rich", "kind", "forms", "rest", "size", "items", "k"]) (sc := defScope s__law_built) (by decide +kernel)) (fun _ _ _ _ _ => pg_name (i := 6) sc__law_built.nd rfl (Or.inl rfl)) (fun _ _ _ _ _ => pts_nil) (fun _ _ _ _ _ => (pe_c c__law_item hr (by decide) (by rfl) (pa_cons (pe_op op_add (pe_op op_fdiv (pv 3) pe_int) (pe_op op_mul (pe_op op_mul pe_int (pv 6)) (pe_op op_fdiv (pv 3) pe_int))) pa_nil))))
      (pss_cut (ps_if (pt_cmpR op_eq (pe_op op_mod (pv 3) pe_int) pe_int (nomark _)) (pss_one (ps_set (i := 1) sc__law_built.nd rfl (Or.inl rfl) (pe_ix (kixl (K := K)) (pe_lst (pa_cons pe_str (pa_cons pe_str (pa_cons pe_str (pa_cons pe_str pa_nil))))) (pe_op op_mod (pe_op op_fdiv (pv 3) pe_int) pe_int) (fun _ _ => rfl)))) pss_nil)
      (pss_cons (ps_if (pt_cmpR op_eq (pe_op op_mod (pv 3) pe_int) pe_int (nomark _)) (pss_one (ps_ret (pe_ix (kixl (K := K)) (pe_lst (pa_cons (pe_lst pa_nil) (pa_cons pe_str (pa_cons pe_non (pa_cons (pe_tup pa_nil) (pa_cons (pe_tup (pa_cons pe_int (pa_cons pe_int pa_nil))) (pa_cons (pe_tup (pa_cons pe_str pa_nil)) (pa_cons (pe_tup (pa_cons pe_non (pa_cons pe_int pa_nil))) (pa_cons (pe_lst (pa_cons pe_str (pa_cons pe_int pa_nil))) pa_nil))))))))) (pe_op op_mod (pe_op op_fdiv (pv 3) pe_int) pe_int) (fun _ _ => rfl)))) pss_nil)
      (pss_one (ps_ret (pe_callTy call_tuple_of (by rfl) T.z_tuple (by decide +kernel) (pa_cons (pe_op op_cat (pe_lst (pa_cons (pv 1) pa_nil)) (pv 5)) pa_nil))))))))))), ?_⟩
  walk_at "rds"
  refine ⟨rfl, fun H1 l xs s1 hl D => ?_⟩
  walk_at "rds"
  have hxl : xs.length = 12 := D.length
  obtain ⟨v, hv, hat⟩ := atI_lt (xs := xs) (i := c % 12) (by omega) (by rw [hxl]; show c % 12 < 12; omega)
  obtain ⟨d, hd, hdv⟩ := D.mem hv
  obtain ⟨z, ks, rfl, hm⟩ := kinds_mem hd
  obtain ⟨t, rfl, ht⟩ := hdv.two_s
  refine ⟨l, _, _, _, rfl, rfl, sq hl, hat, ?_⟩
  refine ⟨t, _, rfl, ht.sq, rfl, _, _, rfl, _, _, rfl, rfl, ?_⟩
  have hks := act_len hm
  have hfl : (formOf ks).length = ks.length := formOf_len ks
  walk_at "rds"
  refine ⟨fun σ' H' => H' = H1 ∧ ∃ m : Nat, m ≤ 10 ∧ σ' = [some (.int c), some (.str z), some (.str (formOf ks)), some (.int (c / 12)), some (.int m), none, none], ?_, ?_⟩
  · walk_at "rds"
    refine ite2 (fun _ => ?_) (fun _ => ?_)
    · walk_at "rds"
      refine ⟨_, _, rfl, ?_⟩
      obtain ⟨n, hn⟩ : ∃ n : Nat, (if ((formOf ks).length : Int) - 1 + c / 12 / 4 % 3 > 0 then ((formOf ks).length : Int) - 1 + c / 12 / 4 % 3 else 0) = n := Int.eq_ofNat_of_zero_le (by split <;> omega)
      refine ⟨rfl, n, ?_, ?_⟩
      · have : (n : Int) ≤ 10 := by rw [← hn]; split <;> omega
        omega
      · rw [← hn]; rfl
    · exact ⟨rfl, (formOf ks).length, by omega, rfl⟩
  rintro σ' H2 ⟨rfl, m, hm1, rfl⟩
  walk_at "rds"
  intro L hL
  refine lc_it walk_range (Pv := fun i H' => ∃ ys ds, Same H2 H' ∧ H' L = some (.lst ys) ∧ DtAll K H' none ys ds ∧ noLs ds = true ∧ ys.length = i) ⟨[], [], same_upd hL, upd_same, .nil, rfl, rfl⟩ (fun _ _ _ _ => trivial) (fun i x H6 H7 hi hp hy => ?_) (fun H6 hp => ?_)
  · obtain ⟨ys, ds, s6, hL6, hD6, hN6, hy6⟩ := hp
    obtain ⟨rfl, rfl⟩ := hy
    refine ⟨rfl, tyes ?_⟩
    walk_at "rds"
    intro H8 v d s8 hd hn
    have hL8 := s8 _ _ hL6
    have nl := hN6
    refine ⟨ys, hL8, sz1000' (by omega), ys ++ [v], ds ++ [d], same_mut (s6.trans s8) hL, upd_same, ?_, ?_, by rw [List.length_append, List.length_singleton, hy6]⟩
    · have nn : noLs (ds ++ [d]) = true := noLs_all fun e he => by
        rcases List.mem_append.mp he with he | he
        · exact noLs_mem nl he
        · rw [List.mem_singleton.mp he]; exact hn
      exact DtAll.keep (A := none) (tp_put hL8) _ _ nn ((hD6.on s8).snoc hd)
    · exact noLs_all fun e he => by
        rcases List.mem_append.mp he with he | he
        · exact noLs_mem nl he
        · rw [List.mem_singleton.mp he]; exact hn
  · obtain ⟨ys, ds, s6, hL6, hD6, hN6, hy6⟩ := hp
    walk_at "rds"
    refine ⟨fun σ' H' => Same H6 H' ∧ ∃ z : Str, (z ∈ actTab.map (·.1) ∨ z ∈ actMiss) ∧ σ' = [some (.int c), some (.str z), some (.str (formOf ks)), some (.int (c / 12)), some (.int m), some (.ref L), none], ?_, ?_⟩
    · walk_at "rds"
      refine ite2 (fun _ => ?_) (fun _ => ?_)
      · walk_at "rds"
        intro L2 hL2
        walk_at "rds"
        obtain ⟨v, hv, hat⟩ := atI_lt (xs := [V.str "Tick", .str "", .str "world", .str "ticks"]) (i := c / 12 / 8 % 4) (by omega) (by show c / 12 / 8 % 4 < 4; omega)
        refine ⟨L2, _, _, _, rfl, rfl, sq upd_same, hat, ?_⟩
        refine ⟨same_upd hL2, ?_⟩
        simp only [List.mem_cons, List.not_mem_nil, or_false] at hv
        rcases hv with rfl | rfl | rfl | rfl
        · exact ⟨_, .inr (by simp [actMiss]), rfl⟩
        · exact ⟨_, .inr (by simp [actMiss]), rfl⟩
        · exact ⟨_, .inr (by simp [actMiss]), rfl⟩
        · exact ⟨_, .inr (by simp [actMiss]), rfl⟩
      · exact ⟨Same.refl _, z, .inl (List.mem_map_of_mem (f := (·.1)) hm), rfl⟩
    rintro σ' H8 ⟨s8, z', hz', rfl⟩
    have sA := (s1.trans s6).trans s8
    have hL8 := s8 _ _ hL6
    have hD8 := hD6.on s8
    clear s6 hL6 hD6
    walk_at "rds"
    refine ite2 (fun _ => ?_) (fun _ => ?_)
    · have D0 : DtAll K H8 none [] [] := .nil
      walk_at "rds"
      intro p0 hp0
      have D1 := D0.newL hp0 .nil
      have sA := sA.trans (same_upd (o := .lst []) hp0)
      generalize upd H8 p0 (.lst []) = G1 at D1 sA
      walk_at "rds"
      intro p3 hp3
      have D2 := D1.new hp3 .nil
      have sA := sA.trans (same_upd (o := .tup []) hp3)
      generalize upd G1 p3 (.tup []) = G2 at D2 sA
      walk_at "rds"
      intro p4 hp4
      have D3 := D2.new hp4 (.cons (.int 1) (.cons (.int 2) .nil))
      have sA := sA.trans (same_upd (o := .tup [V.int 1, .int 2]) hp4)
      generalize upd G2 p4 (.tup [V.int 1, .int 2]) = G3 at D3 sA
      walk_at "rds"
      intro p5 hp5
      have D4 := D3.new hp5 (.cons (.str "tick" (by decide)) .nil)
      have sA := sA.trans (same_upd (o := .tup [V.str "tick"]) hp5)
      generalize upd G3 p5 (.tup [V.str "tick"]) = G4 at D4 sA
      walk_at "rds"
      intro p6 hp6
      have D5 := D4.new hp6 (.cons .non (.cons (.int 1) .nil))
      have sA := sA.trans (same_upd (o := .tup [V.non, .int 1]) hp6)
      generalize upd G4 p6 (.tup [V.non, .int 1]) = G5 at D5 sA
      walk_at "rds"
      intro p7 hp7
      have D6 := D5.newL hp7 (.cons (.str "tick" (by decide)) (.cons (.int 1) .nil))
      have sA := sA.trans (same_upd (o := .lst [V.str "tick", .int 1]) hp7)
      generalize upd G5 p7 (.lst [V.str "tick", .int 1]) = G6 at D6 sA
      walk_at "rds"
      intro L3 hL3
      have D7 : DtAll K G6 none [V.ref p0, .str "tick", .non, .ref p3, .ref p4, .ref p5, .ref p6, .ref p7] [.list [], .str "tick", .none, .tuple [], .tuple [.int 1, .int 2], .tuple [.str "tick"], .tuple [.none, .int 1], .list [.str "tick", .int 1]] :=
        .cons (D6.at_ (i := 0) rfl rfl) (.cons (.str _ (by decide)) (.cons .non (.cons (D6.at_ (i := 1) rfl rfl) (.cons (D6.at_ (i := 2) rfl rfl) (.cons (D6.at_ (i := 3) rfl rfl) (.cons (D6.at_ (i := 4) rfl rfl) (.cons (D6.at_ (i := 5) rfl rfl) .nil)))))))
      have D8 := D7.on (same_upd (o := .lst [V.ref p0, .str "tick", .non, .ref p3, .ref p4, .ref p5, .ref p6, .ref p7]) hL3)
      walk_at "rds"
      obtain ⟨v, hv, hat⟩ := atI_lt (xs := [V.ref p0, .str "tick", .non, .ref p3, .ref p4, .ref p5, .ref p6, .ref p7]) (i := c / 12 / 32 % 8) (by omega) (by show c / 12 / 32 % 8 < 8; omega)
      obtain ⟨d, hd0, hd⟩ := D8.mem hv
      refine ⟨L3, _, _, _, rfl, rfl, sq upd_same, hat, ?_⟩
      refine q _ _ _ (sA.trans (same_upd hL3)) hd ?_
      simp only [List.mem_cons, List.not_mem_nil, or_false] at hd0
      rcases hd0 with rfl | rfl | rfl | rfl | rfl | rfl | rfl | rfl
      · trivial
      · trivial
      · trivial
      · trivial
      · trivial
      · exact .inl (by simp [actTab])
      · trivial
      · trivial
    · walk_at "rds"
      intro L3 hL3
      have hL9 := (same_upd (o := .lst [V.str z']) hL3) _ _ hL8
      walk_at "rds"
      refine ⟨L3, L, _, _, rfl, rfl, upd_same, hL9, sz1000 (by rw [List.length_singleton]; omega), fun L4 hL4 => ?_⟩
      walk_at "rds"
      refine ⟨L4, _, rfl, .inl ⟨sq upd_same, fun t9 ht9 => ?_⟩⟩
      have sB := ((sA.trans (same_upd (o := .lst [V.str z']) hL3)).trans (same_upd (o := .lst ([V.str z'] ++ ys)) hL4)).trans (same_upd (o := .tup ([V.str z'] ++ ys)) ht9)
      have hz9 : z'.length ≤ 1000000 := by
        rcases hz' with h | h
        · simp only [actTab, List.map_cons, List.map_nil, List.mem_cons, List.not_mem_nil, or_false] at h
          rcases h with rfl | rfl | rfl | rfl | rfl | rfl | rfl | rfl | rfl | rfl | rfl | rfl <;> decide
        · simp only [actMiss, List.mem_cons, List.not_mem_nil, or_false] at h
          rcases h with rfl | rfl | rfl | rfl <;> decide
      refine q _ _ (.tuple (.str z' :: ds)) sB (.tup (.inl upd_same) (.cons (.str _ hz9) ?_)) hz'
      exact ((hD8.on (same_upd hL3)).on (same_upd hL4)).on (same_upd ht9)
theorem c__law_is_int {C_BadSchedule : Addr} {C_ITEMS : Addr} (T : Txt K mg w C_BadSchedule C_ITEMS) : Cal P w K mg base 1 "_law_is_int" (spInt K) [] := by
  refine cal T.d__law_is_int sc__law_is_int (fun vs H Q E h => ?_) (fun f cdv A outer s H vs Q E hr h => ?_)
  · obtain ⟨v, lo, hi, rfl, _⟩ := h; rfl
  obtain ⟨v, lo, hi, rfl, h⟩ := h
  refine ⟨_, (pss_one (ps_ret (pe_and (pe_callB (kisi (K := K)) (by rfl) T.z_isinstance (by decide +kernel) (pa_cons (pv 0) (pa_cons (pe_bltn (v := .ty "int") (by rfl) T.z_int (by decide +kernel) rfl) pa_nil))) (pe_and (pe_not (pe_callB (kisi (K := K)) (by rfl) T.z_isinstance (by decide +kernel) (pa_cons (pv 0) (pa_cons (pe_bltn (v := .ty "bool") (by rfl) T.z_bool (by decide +kernel) rfl) pa_nil)))) (pe_and (pe_cmpR op_le (pv 1) (pv 0) (nomark _)) (pe_one (pe_cmpR op_le (pv 0) (pv 2) (nomark _)))))))), ?_⟩
  rcases h with ⟨i, rfl, q⟩ | ⟨⟨T, ty, hk⟩, q⟩
  · walk_at "rds"
    walk_at "isi"
    walk_at "rds"
    walk_at "isi"
    walk_at "rds"
    refine ite2 (fun e => ?_) (fun e => ?_)
    · have e := of_decide_eq_true e
      walk_at "rds"
      have e2 : decide (lo ≤ i ∧ i ≤ hi) = decide (i ≤ hi) := by simp [e]
      rw [e2] at q
      exact q
    · have e : ¬ lo ≤ i := fun z => e (decide_eq_true z)
      have e2 : decide (lo ≤ i ∧ i ≤ hi) = false := by simp [e]
      rw [e2] at q
      exact q
  · walk_at "rds"
    rcases hk with hk | ⟨hk, hb⟩
    · refine ⟨_, .ty _, _, _, false, rfl, .ty _, ty, kit_ty hk, ?_⟩
      walk_at "rds"
      exact q
    · refine ⟨_, .ty _, _, _, true, rfl, .ty _, ty, kit_ty hk, ?_⟩
      walk_at "rds"
      refine ⟨_, .ty _, _, _, true, rfl, .ty _, ty, kit_ty hb, ?_⟩
      walk_at "rds"
      exact q
theorem act_lookup {z : Str} {ks : List Str} (h : (z, ks) ∈ actTab) : actTab.lookup z = some ks := by
  simp only [actTab, List.mem_cons, List.not_mem_nil, or_false, Prod.mk.injEq] at h
  rcases h with ⟨rfl, rfl⟩ | ⟨rfl, rfl⟩ | ⟨rfl, rfl⟩ | ⟨rfl, rfl⟩ | ⟨rfl, rfl⟩ | ⟨rfl, rfl⟩ | ⟨rfl, rfl⟩ | ⟨rfl, rfl⟩ | ⟨rfl, rfl⟩ | ⟨rfl, rfl⟩ | ⟨rfl, rfl⟩ | ⟨rfl, rfl⟩ <;> decide +kernel
theorem formOf_get {ks : List Str} {i : Nat} {k : Str} (h : ks[i]? = some k) : atI (formOf ks).cps.toList (i : Int) = some (tagC k) := by
  refine atI_nat ?_
  show ((ks.map tagC).toArray.toList)[i]? = _
  rw [List.getElem?_map, h]; rfl
theorem tag_t {k : Str} : (V.str ⟨#[tagC k]⟩ = V.str "t") ↔ k = "ticks" := by
  unfold tagC
  constructor
  · intro h
    split at h
    · assumption
    · split at h
      · exact absurd h (by decide +kernel)
      · exact absurd h (by decide +kernel)
  · intro h
    rw [if_pos h]
    decide +kernel
theorem tag_p {k : Str} (n : k ≠ "ticks") : (V.str ⟨#[tagC k]⟩ = V.str "p") ↔ (k = "position" ∨ k = "count" ∨ k = "keep") := by
  unfold tagC
  rw [if_neg n]
  constructor
  · intro h
    split at h
    · assumption
    · exact absurd h (by decide +kernel)
  · intro h
    rw [if_pos h]
    decide +kernel
theorem c__law_due {C_BadSchedule : Addr} {C_ITEMS : Addr} (T : Txt K mg w C_BadSchedule C_ITEMS) : Cal P w K mg base 2 "_law_due" (spDue K) [] := by
  have c__law_kinds := c__law_kinds (P := P) (w := w) (base := base) T
  have c__law_is_int := c__law_is_int (P := P) (w := w) (base := base) T
  refine cal T.d__law_due sc__law_due (fun vs H Q E h => ?_) (fun f cdv A' outer s H vs Q E hr h => ?_)
  · obtain ⟨v, d, rfl, _⟩ := h; rfl
  obtain ⟨v, d, rfl, hd, ok, q⟩ := h
  have fin : ∀ {z : Str} {H'}, dAct d = z → Same H H' → Q (.str z) H' := fun e s => by rw [← e]; exact q _ s
  refine ⟨_, (pss_cons (ps_if (PW.pt (pw_or (pt_not (pt_val (pe_callB (kisi (K := K)) (by rfl) T.z_isinstance (by decide +kernel) (pa_cons (pv 0) (pa_cons (pe_bltn (v := .ty "tuple") (by rfl) T.z_tuple (by decide +kernel) rfl) pa_nil))))) (pw_or (pt_cmpR op_eq (pe_callB (klen (K := K)) (by rfl) T.z_len (by decide +kernel) (pa_cons (pv 0) pa_nil)) pe_int (nomark _)) (pw_or1 (pt_not (pt_val (pe_callB (kisi (K := K)) (by rfl) T.z_isinstance (by decide +kernel) (pa_cons (pe_ix (kixt (K := K)) (pv 0) pe_int (fun _ _ => rfl)) (pa_cons (pe_bltn (v := .ty "str") (by rfl) T.z_str (by decide +kernel) rfl) pa_nil))))))))) (pss_one (ps_ret pe_str)) pss_nil)
      (pss_cons (ps_for PassesOwn.never rfl (pi_list (pe_c0 c__law_kinds hr (by decide) (by rfl))) (pg_tup (by rfl) (pgs_cons (pg_name (i := 1) sc__law_due.nd rfl (Or.inl rfl)) (pgs_cons (pg_name (i := 2) sc__law_due.nd rfl (Or.inl rfl)) pgs_nil))) (pss_one (ps_if (pt_cmpR op_eq (pv 1) (pe_ix (kixt (K := K)) (pv 0) pe_int (fun _ _ => rfl)) (nomark _)) (pss_cons (ps_if (pt_cmpR op_ne (pe_callB (klen (K := K)) (by rfl) T.z_len (by decide +kernel) (pa_cons (pv 0) pa_nil)) (pe_op op_add (pe_callB call_len_str (by rfl) T.z_len (by decide +kernel) (pa_cons (pv 2) pa_nil)) pe_int) (nomark _)) (pss_one (ps_ret pe_str)) pss_nil)
      (pss_cons (ps_for PassesOwn.never rfl (pi_range1 (by rfl) T.z_range (pa_cons (pe_callB call_len_str (by rfl) T.z_len (by decide +kernel) (pa_cons (pv 2) pa_nil)) pa_nil)) (pg_name (i := 3) sc__law_due.nd rfl (Or.inl rfl)) (pss_cons (ps_if (PW.pt (pw_and (pt_cmpR op_eq (pe_ix ix_str (pv 2) (pv 3) (fun _ _ => rfl)) pe_str (nomark _)) (pw_and1 (pt_not (pt_val (pe_c c__law_is_int hr (by decide) (by rfl) (pa_cons (pe_ix (kixt (K := K)) (pv 0) (pe_op op_add (pv 3) pe_int) (fun _ _ => rfl)) (pa_cons pe_int (pa_cons pe_int pa_nil))))))))) (pss_one (ps_ret pe_str)) pss_nil)
      (pss_one (ps_if (PW.pt (pw_and (pt_cmpR op_eq (pe_ix ix_str (pv 2) (pv 3) (fun _ _ => rfl)) pe_str (nomark _)) (pw_and1 (pt_not (pt_val (pe_c c__law_is_int hr (by decide) (by rfl) (pa_cons (pe_ix (kixt (K := K)) (pv 0) (pe_op op_add (pv 3) pe_int) (fun _ _ => rfl)) (pa_cons pe_int (pa_cons (pe_op op_pow pe_int pe_int) pa_nil))))))))) (pss_one (ps_ret pe_str)) pss_nil))))
      (pss_one (ps_ret pe_str)))) pss_nil)))
      (pss_one (ps_ret pe_str)))), ?_⟩
  walk_at "rds"
  rcases hd.two with ⟨a, xs, ds, rfl, rfl, ha, hx⟩ | ⟨t, ty, kk, nt⟩
  rotate_left
  · refine ⟨_, .ty _, _, _, false, rfl, .ty _, ty, kit_ty kk, ?_⟩
    walk_at "rds"
    refine fin ?_ (Same.refl H)
    unfold dAct
    split
    · exact absurd rfl (nt _)
    · rfl
  refine ⟨_, .ty _, _, _, true, rfl, .ty _, ha.ty, kit_ty (by decide +kernel), ?_⟩
  walk_at "rds"
  refine ⟨a, xs, rfl, .inr ha.sq, ?_⟩
  walk_at "rds"
  match xs, ds, hx with
  | [], [], .nil =>
    refine ifT rfl ?_
    walk_at "rds"
    exact fin rfl (Same.refl H)
  | x :: xs, d :: ds, .cons h1 h2 =>
    refine ifF (by show decide (V.int ((x :: xs).length : Int) = V.int 0) = false; rw [List.length_cons]; exact decide_eq_false (by intro z; cases z)) ?_
    walk_at "rds"
    refine ⟨a, _, 0, _, rfl, rfl, ha.sq, atI_nat (j := 0) rfl, ?_⟩
    walk_at "rds"
    rcases h1.strOr with ⟨z, rfl, rfl⟩ | ⟨t, ty, kk, nt⟩
    rotate_left
    · refine ⟨_, .ty _, _, _, false, rfl, .ty _, ty, kit_ty kk, ?_⟩
      walk_at "rds"
      refine fin ?_ (Same.refl H)
      unfold dAct
      split
      · rename_i e; cases e; exact absurd rfl (nt _)
      · rfl
    refine ⟨_, .ty _, _, _, true, rfl, .ty _, .base (.str z), kit_ty (by decide +kernel), ?_⟩
    walk_at "rds"
    refine ⟨rfl, fun H1 l ys s1 hl D => ?_⟩
    have hyl : ys.length = 12 := D.length
    have hxl := h2.length
    have ha1 := ha.same s1
    have h2 := h2.on s1
    walk_at "rds"
    refine ⟨⟨_, sq hl⟩, ?_⟩
    refine for_it (walk_list (K := K) (a := l) (xs := ys)) (Pv := fun i σ' H' => H' = H1 ∧ (∀ e, e ∈ actTab.take i → e.1 ≠ z) ∧ ∃ y1 y2 y3, σ' = [some (.ref a), y1, y2, y3]) ⟨rfl, (fun _ m => nomatch m), none, none, none, rfl⟩ (fun _ _ _ _ h => by rw [h.1]; exact sq hl) (fun i x' σ' H5 H6 hi hp' hy => ?_) (fun σ' H5 hp' => ?_)
    · obtain ⟨rfl, hne, y1, y2, y3, rfl⟩ := hp'
      obtain ⟨rfl, gx⟩ := hy
      obtain ⟨dd, gd, hdd⟩ := D.get gx
      unfold kindsD at gd
      rw [List.getElem?_map, Option.map_eq_some_iff] at gd
      obtain ⟨e, ge, rfl⟩ := gd
      obtain ⟨z', ks⟩ := e
      have hm : (z', ks) ∈ actTab := List.mem_of_getElem? ge
      have hdd : Dt K H6 none x' (.tuple [.str z', .str (formOf ks)]) := hdd
      obtain ⟨t, rfl, ht⟩ := hdd.two_s
      refine ⟨t, _, rfl, ht.sq, rfl, _, _, rfl, _, _, rfl, rfl, ?_⟩
      walk_at "rds"
      refine ⟨a, _, 0, _, rfl, rfl, ha1.sq, atI_nat (j := 0) rfl, ?_⟩
      walk_at "rds"
      refine ite2 (fun ez => ?_) (fun ez => ?_)
      · obtain rfl : z' = z := V.str.inj (of_decide_eq_true ez)
        have hl := act_lookup hm
        have hks := act_len hm
        have hfl := formOf_len ks
        walk_at "rds"
        refine ⟨a, _, rfl, .inr ha1.sq, ?_⟩
        walk_at "rds"
        have eA : dAct (.tuple (.str z' :: ds)) = if ds.length = ks.length then (if okItems ks ds = true then Str.ofString "" else Str.ofString "number") else Str.ofString "act" := by rw [dAct_str, hl]
        have hxl' : (V.str z' :: xs).length = ds.length + 1 := by rw [List.length_cons, hxl]
        refine ite2 (fun e => ?_) (fun e => ?_)
        · have e : ds.length ≠ ks.length := fun z => by
            have : (!decide (V.int ((V.str z' :: xs).length : Int) = V.int (((formOf ks).length : Int) + 1))) = true := e
            rw [decide_eq_true (by rw [hxl', hfl, z]; rfl)] at this
            cases this
          walk_at "rds"
          exact fin (by rw [eA]; exact if_neg e) s1
        · have e : ds.length = ks.length := by
            have : ¬ (!decide (V.int ((V.str z' :: xs).length : Int) = V.int (((formOf ks).length : Int) + 1))) = true := e
            by_cases h : V.int ((V.str z' :: xs).length : Int) = V.int (((formOf ks).length : Int) + 1)
            · have h := V.int.inj h; omega
            · rw [decide_eq_false h] at this; exact absurd rfl this
          rw [if_pos e] at eA
          walk_at "rds"
          refine for_it walk_range (Pv := fun i σ' H' => H' = H6 ∧ (∀ (j : Nat) (k : Str) (d : PyData), j < i → ks[j]? = some k → ds[j]? = some d → okItem k d = true) ∧ ∃ y3, σ' = [some (.ref a), some (.str z'), some (.str (formOf ks)), y3]) ⟨rfl, (fun _ _ _ z => absurd z (Nat.not_lt_zero _)), _, rfl⟩ (fun _ _ _ _ _ => trivial) (fun j x σ' H7 H8 hj hp' hy => ?_) (fun σ' H7 hp' => ?_)
          · obtain ⟨rfl, hall, y3, rfl⟩ := hp'
            obtain ⟨rfl, rfl⟩ := hy
            have hj : j < ks.length := by omega
            obtain ⟨k, gk⟩ : ∃ k, ks[j]? = some k := ⟨_, List.getElem?_eq_getElem hj⟩
            obtain ⟨d, gd⟩ : ∃ d, ds[j]? = some d := ⟨_, List.getElem?_eq_getElem (by omega)⟩
            obtain ⟨y, gy, hdy⟩ := h2.getD gd
            have e0 : (0 : Int) + (j : Int) = (j : Int) := by omega
            have gf : atI (formOf ks).cps.toList (0 + (j : Int)) = some (tagC k) := by rw [e0]; exact formOf_get gk
            have gi : atI (V.str z' :: xs) (0 + (j : Int) + 1) = some y := by rw [e0]; exact atI_nat (j := j + 1) gy
            walk_at "rds"
            have i_at : okItem k d = true → ∀ (j' : Nat) (k : Str) (d : PyData), j' < j + 1 → ks[j']? = some k → ds[j']? = some d → okItem k d = true := fun ho j' k' d' hj' g1 g2 => by
              rcases Nat.lt_or_ge j' j with h | h
              · exact hall j' k' d' h g1 g2
              · obtain rfl : j' = j := by omega
                rw [gk] at g1; rw [gd] at g2
                cases g1; cases g2; exact ho
            have bad2 : okItem k d = false → dAct (.tuple (.str z' :: ds)) = "number" := fun ho => by rw [eA, if_neg (by rw [okItems_not gk gd ho]; decide)]
            refine ⟨formOf ks, _, _, rfl, rfl, sz1000 (by omega), gf, ?_⟩
            walk_at "rds"
            by_cases ek : k = "ticks"
            · refine ite2 (fun _ => ?_) (fun z => absurd (by exact decide_eq_true (tag_t.mpr ek)) z)
              walk_at "rds"
              refine ⟨a, _, _, _, rfl, rfl, ha1.sq, gi, ?_⟩
              walk_at "rds"
              have eo : okItem k d = dInt 1 1000 d := by unfold okItem; rw [if_pos ek]
              refine ⟨_, _, _, rfl, int_or hdy (fun i' ei => ?_) (fun e0 => ?_)⟩
              rotate_left
              · walk_at "rds"
                exact fin (bad2 (by rw [eo, e0])) s1
              have ho : dInt 1 1000 d = decide (1 ≤ i' ∧ i' ≤ 1000) := by rw [ei]; rfl
              by_cases hi : 1 ≤ i' ∧ i' ≤ 1000
              rotate_left
              · rw [decide_eq_false hi]
                walk_at "rds"
                exact fin (bad2 (by rw [eo, ho, decide_eq_false hi])) s1
              rw [decide_eq_true hi]
              have ho := ho.trans (decide_eq_true hi)
              walk_at "rds"
              refine ⟨formOf ks, _, _, rfl, rfl, sz1000 (by omega), gf, ?_⟩
              walk_at "rds"
              refine ite2 (fun z => absurd (of_decide_eq_true z) (by rw [ek]; decide +kernel)) (fun _ => ?_)
              walk_at "rds"
              exact ⟨rfl, i_at (by rw [eo, ho]), _, rfl⟩
            · refine ite2 (fun z => absurd (tag_t.mp (of_decide_eq_true z)) ek) (fun _ => ?_)
              walk_at "rds"
              refine ⟨formOf ks, _, _, rfl, rfl, sz1000 (by omega), gf, ?_⟩
              walk_at "rds"
              by_cases ep : k = "position" ∨ k = "count" ∨ k = "keep"
              · refine ite2 (fun _ => ?_) (fun z => absurd (by exact decide_eq_true ((tag_p ek).mpr ep)) z)
                walk_at "rds"
                refine ⟨a, _, _, _, rfl, rfl, ha1.sq, gi, ?_⟩
                walk_at "rds"
                have eo : okItem k d = dInt 0 1000000000000 d := by unfold okItem; rw [if_neg ek, if_pos ep]
                refine ⟨_, _, _, rfl, int_or hdy (fun i' ei => ?_) (fun e0 => ?_)⟩
                rotate_left
                · walk_at "rds"
                  exact fin (bad2 (by rw [eo, e0])) s1
                have ho : dInt 0 1000000000000 d = decide (0 ≤ i' ∧ i' ≤ 10 ^ Int.toNat 12) := by rw [ei]; rfl
                by_cases hi : 0 ≤ i' ∧ i' ≤ 10 ^ Int.toNat 12
                rotate_left
                · rw [decide_eq_false hi]
                  walk_at "rds"
                  exact fin (bad2 (by rw [eo, ho, decide_eq_false hi])) s1
                rw [decide_eq_true hi]
                have ho := ho.trans (decide_eq_true hi)
                walk_at "rds"
                exact ⟨rfl, i_at (by rw [eo, ho]), _, rfl⟩
              · refine ite2 (fun z => absurd ((tag_p ek).mp (of_decide_eq_true z)) ep) (fun _ => ?_)
                walk_at "rds"
                exact ⟨rfl, i_at (by unfold okItem; rw [if_neg ek, if_neg ep]), _, rfl⟩
          · obtain ⟨rfl, hall, y3, rfl⟩ := hp'
            walk_at "rds"
            refine fin ?_ s1
            rw [eA, if_pos (okItems_of fun i k d g1 g2 => hall i k d (by have := (List.getElem?_eq_some_iff.mp g1).1; omega) g1 g2)]
      · have ez : z' ≠ z := fun h => ez (decide_eq_true (by rw [h]))
        refine ⟨rfl, fun e he => ?_, _, _, _, rfl⟩
        rw [List.take_add_one, ge] at he
        rcases List.mem_append.mp he with he | he
        · exact hne e he
        · have he : e = (z', ks) := by simpa using he
          rw [he]; exact ez
    · obtain ⟨rfl, hne, y1, y2, y3, rfl⟩ := hp'
      walk_at "rds"
      rw [List.take_of_length_le (by show 12 ≤ _; omega)] at hne
      refine fin ?_ s1
      rw [dAct_str]
      cases hl : actTab.lookup z with
      | none => rfl
      | some ks => exact absurd rfl (hne _ (lookup_mem hl))
def spOut (K : PySem.W.Frag) : Sp := spDue K
theorem c__law_outcome {C_BadSchedule : Addr} {C_ITEMS : Addr} (T : Txt K mg w C_BadSchedule C_ITEMS) : Cal P w K mg base 4 "_law_outcome" (spOut K) [] := by
  have c_check_act := c_check_act (P := P) (w := w) (base := base) T
  refine cal T.d__law_outcome sc__law_outcome (fun vs H Q E h => ?_) (fun f cdv A' outer s H vs Q E hr h => ?_)
  · obtain ⟨v, d, rfl, _⟩ := h; rfl
  obtain ⟨v, d, rfl, hd, ok, q⟩ := h
  refine ⟨_, (pss_one (ps_try_as (i := 1) (Wout := fun _ _ _ _ => False) rfl rfl sc__law_outcome.nd rfl rfl ⟨by rfl, by decide, .inl T.x_BadSchedule.g⟩ takes0 (fun W pn xe tk po => (pss_one (ps_ret (pe_ifExp (pt_cmpR op_isN (pe_cX c_check_act hr (by decide) (by rfl) (fun σ => passAt tk σ) (pa_cons (pv 0) pa_nil)) pe_non (nomark _)) pe_str pe_str)))) (fun a oe cls d pn hz hf => (pss_one (ps_ret (pe_ifExp (pt_cmpR op_eq (pe_xf T.x_BadSchedule.xf T.xn_BadSchedule_line hz hf (pv 1)) pe_int (nomark _)) (pe_xf T.x_BadSchedule.xf T.xn_BadSchedule_reason hz hf (pv 1)) pe_str)))))), ?_⟩
  walk_at "rds"
  refine ⟨v, d, rfl, hd, ok, fun e H' s1 => ?_, fun e H' d1 s1 he => ?_⟩
  · walk_at "rds"
    have q := q _ s1
    rw [e] at q
    exact q
  · refine ⟨true, T.x_BadSchedule.exm T.u_BadSchedule_BadSchedule, fun _ b hb => ?_, fun z => nomatch z⟩
    walk_at "rds"
    refine ⟨rfl, rfl, d1, _, _, rfl, he, rfl, ?_⟩
    walk_at "rds"
    refine ⟨rfl, rfl, d1, _, _, rfl, he, rfl, ?_⟩
    exact q _ s1
theorem c__law_cell {C_BadSchedule : Addr} {C_ITEMS : Addr} (T : Txt K mg w C_BadSchedule C_ITEMS) : Cal P w K mg base 1 "_law_cell" (spLCell K) [] := by
  refine cal T.d__law_cell sc__law_cell (fun vs H Q E h => ?_) (fun f cdv A' outer s H vs Q E hr h => ?_)
  · obtain ⟨a, ns, k, rfl, _⟩ := h; rfl
  obtain ⟨a, ns, k, rfl, hS, hl, q⟩ := h
  refine ⟨_, (pss_cons (ps_if (pt_cmpR op_lt (pv 1) (pe_callB (klen (K := K)) (by rfl) T.z_len (by decide +kernel) (pa_cons (pv 0) pa_nil)) (nomark _)) (pss_one (ps_ret (pe_callTy call_int1 (by rfl) T.z_int (by decide +kernel) (pa_cons (pe_ix (kixl (K := K)) (pv 0) (pv 1) (fun _ _ => rfl)) pa_nil)))) pss_nil)
      (pss_one (ps_ret pe_int))), ?_⟩
  walk_at "rds"
  refine ⟨a, _, rfl, .inl hS, ?_⟩
  walk_at "rds"
  rw [List.length_map]
  refine ite2 (fun e => ?_) (fun e => ?_)
  · have e : k < ns.length := Int.ofNat_lt.mp (of_decide_eq_true e)
    have g : (ns.map V.int)[k]? = some (.int ns[k]) := by
      rw [List.getElem?_map, List.getElem?_eq_getElem e]; rfl
    walk_at "rds"
    refine ⟨a, _, _, _, rfl, rfl, hS, atI_nat g, ?_⟩
    walk_at "rds"
    exact q _
  · exact q 0
theorem ok_law {C_BadSchedule : Addr} {C_ITEMS : Addr} {f : Addr} {fd : FuncData} (F : L2.Fun K "law" "law" s_law f fd) (T : Txt K mg w C_BadSchedule C_ITEMS) : FnOk P w K mg base L2.CX0 6 f fd ["script"] (spLaw K) := by
  have c__law_rich := c__law_rich (P := P) (w := w) (base := base) T
  have c__law_cell := c__law_cell (P := P) (w := w) (base := base) T
  have c__law_built := c__law_built (P := P) (w := w) (base := base) T
  have c__law_due := c__law_due (P := P) (w := w) (base := base) T
  have c__law_outcome := c__law_outcome (P := P) (w := w) (base := base) T
  have c__law_survivors := c__law_survivors (P := P) (w := w) (base := base) T
  refine F.ok sc_law (fun vs H Q E h => ?_) (fun cdv A outer s H vs Q E hr h => ?_)
  · obtain ⟨a, ns, rfl, _⟩ := h; rfl
  obtain ⟨a, ns, rfl, hS, hlen, q⟩ := h
  refine ⟨_, (pss_cons (ps_set (i := 1) sc_law.nd rfl (Or.inl rfl) (pe_op op_mod (pe_c c__law_cell hr (by decide) (by rfl) (pa_cons (pv 0) (pa_cons pe_int pa_nil))) pe_int))
      (pss_cut (ps_if (pt_cmpR op_eq (pe_op op_mod (pe_c c__law_cell hr (by decide) (by rfl) (pa_cons (pv 0) (pa_cons pe_int pa_nil))) pe_int) pe_int (nomark _)) (pss_one (ps_set (i := 1) sc_law.nd rfl (Or.inl rfl) (pe_op op_mod (pe_c c__law_rich hr (by decide) (by rfl) (pa_cons (pe_c c__law_cell hr (by decide) (by rfl) (pa_cons (pv 0) (pa_cons pe_int pa_nil))) (pa_cons pe_int pa_nil))) (pe_op op_add (pe_op op_pow pe_int pe_int) pe_int)))) pss_nil)
      (pss_cons (ps_if (PW.pt (pw_or (pt_cmpR op_ne (pe_gc (by rfl) T.c_MOST_TICKS) pe_int (nomark _)) (pw_or1 (pt_not (pt_val (pe_c c__law_survivors hr (by decide) (by rfl) (pa_cons (pv 1) (pa_cons (pe_op op_mod (pe_op op_fdiv (pe_c c__law_cell hr (by decide) (by rfl) (pa_cons (pv 0) (pa_cons pe_int pa_nil))) pe_int) pe_int) pa_nil)))))))) (pss_one (ps_ret pe_bl)) pss_nil)
      (pss_cons (ps_for PassesOwn.never rfl (pi_range2 (by rfl) T.z_range (pa_cons pe_int (pa_cons (pe_op op_add pe_int (pe_callB (call_max2 rfl) (by rfl) T.z_max (by decide +kernel) (pa_cons pe_int (pa_cons (pe_op op_sub (pe_callB (klen (K := K)) (by rfl) T.z_len (by decide +kernel) (pa_cons (pv 0) pa_nil)) pe_int) pa_nil)))) pa_nil))) (pg_name (i := 2) sc_law.nd rfl (Or.inl rfl)) (pss_cons (ps_set (i := 3) sc_law.nd rfl (Or.inl rfl) (pe_c c__law_built hr (by decide) (by rfl) (pa_cons (pe_c c__law_rich hr (by decide) (by rfl) (pa_cons (pe_c c__law_cell hr (by decide) (by rfl) (pa_cons (pv 0) (pa_cons (pv 2) pa_nil))) (pa_cons (pv 2) pa_nil))) pa_nil)))
      (pss_one (ps_if (pt_cmpR op_ne (pe_c c__law_outcome hr (by decide) (by rfl) (pa_cons (pv 3) pa_nil)) (pe_c c__law_due hr (by decide) (by rfl) (pa_cons (pv 3) pa_nil)) (nomark _)) (pss_one (ps_ret pe_bl)) pss_nil))))
      (pss_one (ps_ret pe_bl)))))), ?_⟩
  walk_at "rds"
  refine ⟨a, ns, 0, rfl, hS, hlen, fun c0 => ?_⟩
  walk_at "rds"
  refine ⟨fun σ' H' => H' = H ∧ ∃ m : Int, σ' = [some (.ref a), some (.int m), none, none], ?_, ?_⟩
  · walk_at "rds"
    refine ⟨a, ns, 1, rfl, hS, hlen, fun c1 => ?_⟩
    walk_at "rds"
    refine ite2 (fun _ => ?_) (fun _ => ?_)
    · walk_at "rds"
      refine ⟨a, ns, 0, rfl, hS, hlen, fun c2 => ?_⟩
      walk_at "rds"
      refine ⟨_, _, rfl, by omega, by omega, fun r => ?_⟩
      walk_at "rds"
      refine ⟨(by show (0 : Int) < 10 ^ Int.toNat 12 + 1; decide), ?_⟩
      exact ⟨rfl, _, rfl⟩
    · exact ⟨rfl, _, rfl⟩
  rintro σ' H1 ⟨rfl, m, rfl⟩
  walk_at "rds"
  refine ⟨a, ns, 1, rfl, hS, hlen, fun c1 => ?_⟩
  walk_at "rds"
  obtain ⟨n, hn⟩ := Int.eq_ofNat_of_zero_le (show 0 ≤ c1 / 3 % 61 by omega)
  refine ⟨m, n, by show [V.int m, V.int (c1 / 3 % 61)] = _; rw [hn], by omega, fun H2 s2 => ?_⟩
  walk_at "rds"
  refine ⟨a, _, rfl, .inl (s2.seq hS), ?_⟩
  walk_at "rds"
  refine ⟨_, _, rfl, ?_⟩
  rw [List.length_map]
  obtain ⟨N, hN⟩ : ∃ N : Nat, (if (ns.length : Int) - 2 > 1 then (ns.length : Int) - 2 else 1) = N := Int.eq_ofNat_of_zero_le (by split <;> omega)
  have hN1 : N ≤ 63 := by have : (N : Int) ≤ 63 := by rw [← hN]; split <;> omega
                          omega
  rw [hN]
  walk_at "rds"
  refine ⟨_, _, rfl, ⟨by omega, by omega, by omega, by omega⟩, ?_⟩
  refine for_it walk_range (Pv := fun i σ' H' => Same H1 H' ∧ ∃ y2 y3, σ' = [some (.ref a), some (.int m), y2, y3]) ⟨s2, none, none, rfl⟩ (fun _ _ _ _ _ => trivial) (fun i x σ' H5 H6 hi hp' hy => ?_) (fun σ' H5 hp' => ?_)
  · obtain ⟨s5, y2, y3, rfl⟩ := hp'
    obtain ⟨rfl, rfl⟩ := hy
    have hi : i < 63 := by omega
    walk_at "rds"
    refine ⟨a, ns, i + 2, by show [V.ref a, V.int (2 + (i : Int))] = [V.ref a, V.int ((i + 2 : Nat) : Int)]; rw [show 2 + (i : Int) = ((i + 2 : Nat) : Int) by omega], s5.seq hS, hlen, fun c2 => ?_⟩
    walk_at "rds"
    refine ⟨_, _, rfl, by omega, by omega, fun r => ?_⟩
    walk_at "rds"
    intro H7 v d s7 hd ok
    walk_at "rds"
    refine ⟨v, d, rfl, hd, ok, fun H8 s8 => ?_⟩
    walk_at "rds"
    refine ⟨v, d, rfl, hd.on s8, ok, fun H9 s9 => ?_⟩
    walk_at "rds"
    refine ifF (by show (!decide (V.str (dAct d) = V.str (dAct d))) = false; rw [decide_eq_true rfl]; rfl) ?_
    exact ⟨((s5.trans s7).trans s8).trans s9, _, _, rfl⟩
  · obtain ⟨s5, y2, y3, rfl⟩ := hp'
    walk_at "rds"
    exact q _
end

theorem fin {C_BadSchedule : Addr} {C_ITEMS : Addr} {P : Program} {w : World} {K : PySem.W.Frag} {mg : Str → Option Value} {fa : Addr} (hfa : mg "law" = some (.ref fa)) (T : Txt K mg w C_BadSchedule C_ITEMS) :
    ∃ fd : FuncData, (∀ (s : Shared) (u : Value), BindsTo s fd ⟨[u], []⟩ [("script", u)]) ∧ ∀ base : Heap, K.In base → base.Ns mainGlobals mg → FnOk P w K mg base L2.CX0 6 fa fd ["script"] (spLaw K) := by
  obtain ⟨f, fd, F, hm, b⟩ := T.d_law.ex
  cases hfa.symm.trans hm
  refine ⟨fd, fun s u => ?_, fun base _ _ => ok_law F T⟩
  obtain ⟨oc, od, kV, doc, pm, an, cdv, ct, osl, rfl, l, _⟩ := F.ex
  exact .of_eq rfl

theorem all_mk {K : PySem.W.Frag} {h : Heap} {mg : Str → Option Value} {w : World} (X : K.In h) (G : h.Ns mainGlobals mg)
    {f_is_integer : Addr} {od_is_integer an_is_integer : Option Addr} {sl_is_integer : Array (Option Value)} {oc_is_integer kV_is_integer dc_is_integer pm_is_integer cd_is_integer ct_is_integer : Value}
    {f_check_act : Addr} {od_check_act an_check_act : Option Addr} {sl_check_act : Array (Option Value)} {oc_check_act kV_check_act dc_check_act pm_check_act cd_check_act ct_check_act : Value}
    {f_survivors : Addr} {od_survivors an_survivors : Option Addr} {sl_survivors : Array (Option Value)} {oc_survivors kV_survivors dc_survivors pm_survivors cd_survivors ct_survivors : Value}
    {f__law_cell : Addr} {od__law_cell an__law_cell : Option Addr} {sl__law_cell : Array (Option Value)} {oc__law_cell kV__law_cell dc__law_cell pm__law_cell cd__law_cell ct__law_cell : Value}
    {f__law_rich : Addr} {od__law_rich an__law_rich : Option Addr} {sl__law_rich : Array (Option Value)} {oc__law_rich kV__law_rich dc__law_rich pm__law_rich cd__law_rich ct__law_rich : Value}
    {f__law_survivors : Addr} {od__law_survivors an__law_survivors : Option Addr} {sl__law_survivors : Array (Option Value)} {oc__law_survivors kV__law_survivors dc__law_survivors pm__law_survivors cd__law_survivors ct__law_survivors : Value}
    {f__law_kinds : Addr} {od__law_kinds an__law_kinds : Option Addr} {sl__law_kinds : Array (Option Value)} {oc__law_kinds kV__law_kinds dc__law_kinds pm__law_kinds cd__law_kinds ct__law_kinds : Value}
    {f__law_item : Addr} {od__law_item an__law_item : Option Addr} {sl__law_item : Array (Option Value)} {oc__law_item kV__law_item dc__law_item pm__law_item cd__law_item ct__law_item : Value}
    {f__law_built : Addr} {od__law_built an__law_built : Option Addr} {sl__law_built : Array (Option Value)} {oc__law_built kV__law_built dc__law_built pm__law_built cd__law_built ct__law_built : Value}
    {f__law_is_int : Addr} {od__law_is_int an__law_is_int : Option Addr} {sl__law_is_int : Array (Option Value)} {oc__law_is_int kV__law_is_int dc__law_is_int pm__law_is_int cd__law_is_int ct__law_is_int : Value}
    {f__law_due : Addr} {od__law_due an__law_due : Option Addr} {sl__law_due : Array (Option Value)} {oc__law_due kV__law_due dc__law_due pm__law_due cd__law_due ct__law_due : Value}
    {f__law_outcome : Addr} {od__law_outcome an__law_outcome : Option Addr} {sl__law_outcome : Array (Option Value)} {oc__law_outcome kV__law_outcome dc__law_outcome pm__law_outcome cd__law_outcome ct__law_outcome : Value}
    {f_law : Addr} {od_law an_law : Option Addr} {sl_law : Array (Option Value)} {oc_law kV_law dc_law pm_law cd_law ct_law : Value}
    {C_BadSchedule : Addr} {nm_BadSchedule qn_BadSchedule : Str} {NN_BadSchedule : Addr} {bs_BadSchedule bm_BadSchedule sub_BadSchedule : List Value} {sn_BadSchedule : List Str} {ab_BadSchedule : Bool} {col_BadSchedule : Option Bool} {dd_BadSchedule : Option Addr} {m0_BadSchedule m1_BadSchedule m2_BadSchedule m3_BadSchedule m5_BadSchedule : Option Value}
    {f_BadSchedule____init__ : Addr} {od_BadSchedule____init__ an_BadSchedule____init__ : Option Addr} {sl_BadSchedule____init__ : Array (Option Value)} {oc_BadSchedule____init__ kV_BadSchedule____init__ dc_BadSchedule____init__ pm_BadSchedule____init__ cd_BadSchedule____init__ ct_BadSchedule____init__ : Value}
    {C_ITEMS : Addr} {es_ITEMS : Array DictEntry} {n_ITEMS : Nat}
    {c_ITEMS_0 : Addr} {od_ITEMS_0 : Option Addr} {sl_ITEMS_0 : Array (Option Value)} {n_ITEMS_0 : Nat} {t_ITEMS_0_0 : Tok}
    {c_ITEMS_1 : Addr} {od_ITEMS_1 : Option Addr} {sl_ITEMS_1 : Array (Option Value)} {n_ITEMS_1 : Nat} {t_ITEMS_1_0 : Tok} {t_ITEMS_1_1 : Tok}
    {c_ITEMS_2 : Addr} {od_ITEMS_2 : Option Addr} {sl_ITEMS_2 : Array (Option Value)} {n_ITEMS_2 : Nat} {t_ITEMS_2_0 : Tok}
    {c_ITEMS_3 : Addr} {od_ITEMS_3 : Option Addr} {sl_ITEMS_3 : Array (Option Value)} {n_ITEMS_3 : Nat}
    {c_ITEMS_4 : Addr} {od_ITEMS_4 : Option Addr} {sl_ITEMS_4 : Array (Option Value)} {n_ITEMS_4 : Nat} {t_ITEMS_4_0 : Tok}
    {c_ITEMS_5 : Addr} {od_ITEMS_5 : Option Addr} {sl_ITEMS_5 : Array (Option Value)} {n_ITEMS_5 : Nat} {t_ITEMS_5_0 : Tok}
    {c_ITEMS_6 : Addr} {od_ITEMS_6 : Option Addr} {sl_ITEMS_6 : Array (Option Value)} {n_ITEMS_6 : Nat} {t_ITEMS_6_0 : Tok}
    {c_ITEMS_7 : Addr} {od_ITEMS_7 : Option Addr} {sl_ITEMS_7 : Array (Option Value)} {n_ITEMS_7 : Nat} {t_ITEMS_7_0 : Tok}
    {c_ITEMS_8 : Addr} {od_ITEMS_8 : Option Addr} {sl_ITEMS_8 : Array (Option Value)} {n_ITEMS_8 : Nat} {t_ITEMS_8_0 : Tok} {t_ITEMS_8_1 : Tok} {t_ITEMS_8_2 : Tok}
    {c_ITEMS_9 : Addr} {od_ITEMS_9 : Option Addr} {sl_ITEMS_9 : Array (Option Value)} {n_ITEMS_9 : Nat} {t_ITEMS_9_0 : Tok} {t_ITEMS_9_1 : Tok}
    {c_ITEMS_10 : Addr} {od_ITEMS_10 : Option Addr} {sl_ITEMS_10 : Array (Option Value)} {n_ITEMS_10 : Nat} {t_ITEMS_10_0 : Tok}
    {c_ITEMS_11 : Addr} {od_ITEMS_11 : Option Addr} {sl_ITEMS_11 : Array (Option Value)} {n_ITEMS_11 : Nat} {t_ITEMS_11_0 : Tok} {t_ITEMS_11_1 : Tok}
    {t_MOST_NUMBER : Tok}
    {t_MOST_TICKS : Tok}
    (a_is_integer : PySem.W.nsIn K mainGlobals "is_integer" = some (some (.ref f_is_integer)))
    (l_is_integer : K.lookup f_is_integer = some ⟨oc_is_integer, od_is_integer, .func (PySem.W.fnOf "is_integer" "is_integer" (defArgs s_is_integer) (defBody s_is_integer) (defScope s_is_integer) .none kV_is_integer dc_is_integer pm_is_integer an_is_integer cd_is_integer ct_is_integer), sl_is_integer⟩)
    (e_is_integer : PySem.W.codeIn K cd_is_integer "is_integer" = true)
    (k_is_integer : PySem.W.keepIn K (.ref f_is_integer) = true)
    (a_check_act : PySem.W.nsIn K mainGlobals "check_act" = some (some (.ref f_check_act)))
    (l_check_act : K.lookup f_check_act = some ⟨oc_check_act, od_check_act, .func (PySem.W.fnOf "check_act" "check_act" (defArgs s_check_act) (defBody s_check_act) (defScope s_check_act) .none kV_check_act dc_check_act pm_check_act an_check_act cd_check_act ct_check_act), sl_check_act⟩)
    (e_check_act : PySem.W.codeIn K cd_check_act "check_act" = true)
    (k_check_act : PySem.W.keepIn K (.ref f_check_act) = true)
    (a_survivors : PySem.W.nsIn K mainGlobals "survivors" = some (some (.ref f_survivors)))
    (l_survivors : K.lookup f_survivors = some ⟨oc_survivors, od_survivors, .func (PySem.W.fnOf "survivors" "survivors" (defArgs s_survivors) (defBody s_survivors) (defScope s_survivors) .none kV_survivors dc_survivors pm_survivors an_survivors cd_survivors ct_survivors), sl_survivors⟩)
    (e_survivors : PySem.W.codeIn K cd_survivors "survivors" = true)
    (k_survivors : PySem.W.keepIn K (.ref f_survivors) = true)
    (a__law_cell : PySem.W.nsIn K mainGlobals "_law_cell" = some (some (.ref f__law_cell)))
    (l__law_cell : K.lookup f__law_cell = some ⟨oc__law_cell, od__law_cell, .func (PySem.W.fnOf "_law_cell" "_law_cell" (defArgs s__law_cell) (defBody s__law_cell) (defScope s__law_cell) .none kV__law_cell dc__law_cell pm__law_cell an__law_cell cd__law_cell ct__law_cell), sl__law_cell⟩)
    (e__law_cell : PySem.W.codeIn K cd__law_cell "_law_cell" = true)
    (k__law_cell : PySem.W.keepIn K (.ref f__law_cell) = true)
    (a__law_rich : PySem.W.nsIn K mainGlobals "_law_rich" = some (some (.ref f__law_rich)))
    (l__law_rich : K.lookup f__law_rich = some ⟨oc__law_rich, od__law_rich, .func (PySem.W.fnOf "_law_rich" "_law_rich" (defArgs s__law_rich) (defBody s__law_rich) (defScope s__law_rich) .none kV__law_rich dc__law_rich pm__law_rich an__law_rich cd__law_rich ct__law_rich), sl__law_rich⟩)
    (e__law_rich : PySem.W.codeIn K cd__law_rich "_law_rich" = true)
    (k__law_rich : PySem.W.keepIn K (.ref f__law_rich) = true)
    (a__law_survivors : PySem.W.nsIn K mainGlobals "_law_survivors" = some (some (.ref f__law_survivors)))
    (l__law_survivors : K.lookup f__law_survivors = some ⟨oc__law_survivors, od__law_survivors, .func (PySem.W.fnOf "_law_survivors" "_law_survivors" (defArgs s__law_survivors) (defBody s__law_survivors) (defScope s__law_survivors) .none kV__law_survivors dc__law_survivors pm__law_survivors an__law_survivors cd__law_survivors ct__law_survivors), sl__law_survivors⟩)
    (e__law_survivors : PySem.W.codeIn K cd__law_survivors "_law_survivors" = true)
    (k__law_survivors : PySem.W.keepIn K (.ref f__law_survivors) = true)
    (a__law_kinds : PySem.W.nsIn K mainGlobals "_law_kinds" = some (some (.ref f__law_kinds)))
    (l__law_kinds : K.lookup f__law_kinds = some ⟨oc__law_kinds, od__law_kinds, .func (PySem.W.fnOf "_law_kinds" "_law_kinds" (defArgs s__law_kinds) (defBody s__law_kinds) (defScope s__law_kinds) .none kV__law_kinds dc__law_kinds pm__law_kinds an__law_kinds cd__law_kinds ct__law_kinds), sl__law_kinds⟩)
    (e__law_kinds : PySem.W.codeIn K cd__law_kinds "_law_kinds" = true)
    (k__law_kinds : PySem.W.keepIn K (.ref f__law_kinds) = true)
    (a__law_item : PySem.W.nsIn K mainGlobals "_law_item" = some (some (.ref f__law_item)))
    (l__law_item : K.lookup f__law_item = some ⟨oc__law_item, od__law_item, .func (PySem.W.fnOf "_law_item" "_law_item" (defArgs s__law_item) (defBody s__law_item) (defScope s__law_item) .none kV__law_item dc__law_item pm__law_item an__law_item cd__law_item ct__law_item), sl__law_item⟩)
    (e__law_item : PySem.W.codeIn K cd__law_item "_law_item" = true)
    (k__law_item : PySem.W.keepIn K (.ref f__law_item) = true)
    (a__law_built : PySem.W.nsIn K mainGlobals "_law_built" = some (some (.ref f__law_built)))
    (l__law_built : K.lookup f__law_built = some ⟨oc__law_built, od__law_built, .func (PySem.W.fnOf "_law_built" "_law_built" (defArgs s__law_built) (defBody s__law_built) (defScope s__law_built) .none kV__law_built dc__law_built pm__law_built an__law_built cd__law_built ct__law_built), sl__law_built⟩)
    (e__law_built : PySem.W.codeIn K cd__law_built "_law_built" = true)
    (k__law_built : PySem.W.keepIn K (.ref f__law_built) = true)
    (a__law_is_int : PySem.W.nsIn K mainGlobals "_law_is_int" = some (some (.ref f__law_is_int)))
    (l__law_is_int : K.lookup f__law_is_int = some ⟨oc__law_is_int, od__law_is_int, .func (PySem.W.fnOf "_law_is_int" "_law_is_int" (defArgs s__law_is_int) (defBody s__law_is_int) (defScope s__law_is_int) .none kV__law_is_int dc__law_is_int pm__law_is_int an__law_is_int cd__law_is_int ct__law_is_int), sl__law_is_int⟩)
    (e__law_is_int : PySem.W.codeIn K cd__law_is_int "_law_is_int" = true)
    (k__law_is_int : PySem.W.keepIn K (.ref f__law_is_int) = true)
    (a__law_due : PySem.W.nsIn K mainGlobals "_law_due" = some (some (.ref f__law_due)))
    (l__law_due : K.lookup f__law_due = some ⟨oc__law_due, od__law_due, .func (PySem.W.fnOf "_law_due" "_law_due" (defArgs s__law_due) (defBody s__law_due) (defScope s__law_due) .none kV__law_due dc__law_due pm__law_due an__law_due cd__law_due ct__law_due), sl__law_due⟩)
    (e__law_due : PySem.W.codeIn K cd__law_due "_law_due" = true)
    (k__law_due : PySem.W.keepIn K (.ref f__law_due) = true)
    (a__law_outcome : PySem.W.nsIn K mainGlobals "_law_outcome" = some (some (.ref f__law_outcome)))
    (l__law_outcome : K.lookup f__law_outcome = some ⟨oc__law_outcome, od__law_outcome, .func (PySem.W.fnOf "_law_outcome" "_law_outcome" (defArgs s__law_outcome) (defBody s__law_outcome) (defScope s__law_outcome) .none kV__law_outcome dc__law_outcome pm__law_outcome an__law_outcome cd__law_outcome ct__law_outcome), sl__law_outcome⟩)
    (e__law_outcome : PySem.W.codeIn K cd__law_outcome "_law_outcome" = true)
    (k__law_outcome : PySem.W.keepIn K (.ref f__law_outcome) = true)
    (a_law : PySem.W.nsIn K mainGlobals "law" = some (some (.ref f_law)))
    (l_law : K.lookup f_law = some ⟨oc_law, od_law, .func (PySem.W.fnOf "law" "law" (defArgs s_law) (defBody s_law) (defScope s_law) .none kV_law dc_law pm_law an_law cd_law ct_law), sl_law⟩)
    (e_law : PySem.W.codeIn K cd_law "law" = true)
    (k_law : PySem.W.keepIn K (.ref f_law) = true)
    (xa_BadSchedule : PySem.W.nsIn K mainGlobals "BadSchedule" = some (some (.ref C_BadSchedule)))
    (xl_BadSchedule : K.lookup C_BadSchedule = some (excClassObj nm_BadSchedule qn_BadSchedule C_BadSchedule NN_BadSchedule bs_BadSchedule bm_BadSchedule true sn_BadSchedule sub_BadSchedule ab_BadSchedule col_BadSchedule dd_BadSchedule m0_BadSchedule m1_BadSchedule m2_BadSchedule m3_BadSchedule m5_BadSchedule "ValueError.__new__"))
    (xr_BadSchedule : PySem.HandSPX.refsVE bm_BadSchedule = true)
    (xs_BadSchedule : PySem.W.findIn K (.ref C_BadSchedule) "__setattr__" = some (some (.builtin "object.__setattr__")))
    (xk_BadSchedule : PySem.W.keepIn K (.ref C_BadSchedule) = true)
    (xb_BadSchedule : PySem.W.subIn K (.ref C_BadSchedule) (.type "BaseException") = some true)
    (xt_BadSchedule : PySem.W.typeIn K (.ref C_BadSchedule) = some (.type "type"))
    (xh_BadSchedule : PySem.W.hasDictIn K C_BadSchedule = true)
    (xg_BadSchedule : PySem.W.findIn K (.ref C_BadSchedule) "__getattribute__" = some (some (.builtin "BaseException.__getattribute__")))
    (xq_BadSchedule : PySem.W.findIn K (.ref C_BadSchedule) "__getattr__" = some none)
    (xn_BadSchedule_line : PySem.W.findIn K (.ref C_BadSchedule) "line" = some none)
    (xn_BadSchedule_reason : PySem.W.findIn K (.ref C_BadSchedule) "reason" = some none)
    (a_BadSchedule____init__ : PySem.W.findIn K (.ref C_BadSchedule) "__init__" = some (some (.ref f_BadSchedule____init__)))
    (ty_BadSchedule____init__ : PySem.W.typeIn K (.ref f_BadSchedule____init__) = some (.type "function"))
    (l_BadSchedule____init__ : K.lookup f_BadSchedule____init__ = some ⟨oc_BadSchedule____init__, od_BadSchedule____init__, .func (PySem.W.fnOf "__init__" "BadSchedule.__init__" (defArgs s_BadSchedule____init__) (defBody s_BadSchedule____init__) (defScope s_BadSchedule____init__) .none kV_BadSchedule____init__ dc_BadSchedule____init__ pm_BadSchedule____init__ an_BadSchedule____init__ cd_BadSchedule____init__ ct_BadSchedule____init__), sl_BadSchedule____init__⟩)
    (e_BadSchedule____init__ : PySem.W.codeIn K cd_BadSchedule____init__ "BadSchedule.__init__" = true)
    (k_BadSchedule____init__ : PySem.W.keepIn K (.ref f_BadSchedule____init__) = true)
    (a_ITEMS : PySem.W.nsIn K mainGlobals "ITEMS" = some (some (.ref C_ITEMS)))
    (l_ITEMS : K.lookup C_ITEMS = some ⟨.type "dict", none, .dict es_ITEMS n_ITEMS, #[]⟩)
    (kl_ITEMS : PySem.W.KeysLit w.params es_ITEMS.toList)
    (lo_ITEMS : (C_ITEMS == sysModules) = false)
    (v_ITEMS_0 : PySem.W.nsIn K C_ITEMS "tick" = some (some (.ref c_ITEMS_0)))
    (l_ITEMS_0 : K.lookup c_ITEMS_0 = some ⟨.type "tuple", od_ITEMS_0, .seq #[.str "ticks" t_ITEMS_0_0] n_ITEMS_0, sl_ITEMS_0⟩)
    (v_ITEMS_1 : PySem.W.nsIn K C_ITEMS "submit" = some (some (.ref c_ITEMS_1)))
    (l_ITEMS_1 : K.lookup c_ITEMS_1 = some ⟨.type "tuple", od_ITEMS_1, .seq #[.str "client" t_ITEMS_1_0, .str "text" t_ITEMS_1_1] n_ITEMS_1, sl_ITEMS_1⟩)
    (v_ITEMS_2 : PySem.W.nsIn K C_ITEMS "deliver" = some (some (.ref c_ITEMS_2)))
    (l_ITEMS_2 : K.lookup c_ITEMS_2 = some ⟨.type "tuple", od_ITEMS_2, .seq #[.str "position" t_ITEMS_2_0] n_ITEMS_2, sl_ITEMS_2⟩)
    (v_ITEMS_3 : PySem.W.nsIn K C_ITEMS "round" = some (some (.ref c_ITEMS_3)))
    (l_ITEMS_3 : K.lookup c_ITEMS_3 = some ⟨.type "tuple", od_ITEMS_3, .seq #[] n_ITEMS_3, sl_ITEMS_3⟩)
    (v_ITEMS_4 : PySem.W.nsIn K C_ITEMS "calm" = some (some (.ref c_ITEMS_4)))
    (l_ITEMS_4 : K.lookup c_ITEMS_4 = some ⟨.type "tuple", od_ITEMS_4, .seq #[.str "ticks" t_ITEMS_4_0] n_ITEMS_4, sl_ITEMS_4⟩)
    (v_ITEMS_5 : PySem.W.nsIn K C_ITEMS "lose" = some (some (.ref c_ITEMS_5)))
    (l_ITEMS_5 : K.lookup c_ITEMS_5 = some ⟨.type "tuple", od_ITEMS_5, .seq #[.str "position" t_ITEMS_5_0] n_ITEMS_5, sl_ITEMS_5⟩)
    (v_ITEMS_6 : PySem.W.nsIn K C_ITEMS "double" = some (some (.ref c_ITEMS_6)))
    (l_ITEMS_6 : K.lookup c_ITEMS_6 = some ⟨.type "tuple", od_ITEMS_6, .seq #[.str "position" t_ITEMS_6_0] n_ITEMS_6, sl_ITEMS_6⟩)
    (v_ITEMS_7 : PySem.W.nsIn K C_ITEMS "move" = some (some (.ref c_ITEMS_7)))
    (l_ITEMS_7 : K.lookup c_ITEMS_7 = some ⟨.type "tuple", od_ITEMS_7, .seq #[.str "position" t_ITEMS_7_0] n_ITEMS_7, sl_ITEMS_7⟩)
    (v_ITEMS_8 : PySem.W.nsIn K C_ITEMS "say" = some (some (.ref c_ITEMS_8)))
    (l_ITEMS_8 : K.lookup c_ITEMS_8 = some ⟨.type "tuple", od_ITEMS_8, .seq #[.str "sender" t_ITEMS_8_0, .str "receiver" t_ITEMS_8_1, .str "letter" t_ITEMS_8_2] n_ITEMS_8, sl_ITEMS_8⟩)
    (v_ITEMS_9 : PySem.W.nsIn K C_ITEMS "arm" = some (some (.ref c_ITEMS_9)))
    (l_ITEMS_9 : K.lookup c_ITEMS_9 = some ⟨.type "tuple", od_ITEMS_9, .seq #[.str "machine" t_ITEMS_9_0, .str "count" t_ITEMS_9_1] n_ITEMS_9, sl_ITEMS_9⟩)
    (v_ITEMS_10 : PySem.W.nsIn K C_ITEMS "crash" = some (some (.ref c_ITEMS_10)))
    (l_ITEMS_10 : K.lookup c_ITEMS_10 = some ⟨.type "tuple", od_ITEMS_10, .seq #[.str "machine" t_ITEMS_10_0] n_ITEMS_10, sl_ITEMS_10⟩)
    (v_ITEMS_11 : PySem.W.nsIn K C_ITEMS "restart" = some (some (.ref c_ITEMS_11)))
    (l_ITEMS_11 : K.lookup c_ITEMS_11 = some ⟨.type "tuple", od_ITEMS_11, .seq #[.str "machine" t_ITEMS_11_0, .str "keep" t_ITEMS_11_1] n_ITEMS_11, sl_ITEMS_11⟩)
    (m_ITEMS_0 : PySem.W.nsIn K C_ITEMS "Tick" = some none)
    (m_ITEMS_1 : PySem.W.nsIn K C_ITEMS "" = some none)
    (m_ITEMS_2 : PySem.W.nsIn K C_ITEMS "world" = some none)
    (m_ITEMS_3 : PySem.W.nsIn K C_ITEMS "ticks" = some none)
    (u_BadSchedule_BadSchedule : PySem.W.subIn K (.ref C_BadSchedule) (.ref C_BadSchedule) = some true)
    (a_MOST_NUMBER : PySem.W.nsIn K mainGlobals "MOST_NUMBER" = some (some (.int 1000000000000 t_MOST_NUMBER)))
    (a_MOST_TICKS : PySem.W.nsIn K mainGlobals "MOST_TICKS" = some (some (.int 1000 t_MOST_TICKS)))
    (z_bool : PySem.W.nsIn K mainGlobals "bool" = some none)
    (z_int : PySem.W.nsIn K mainGlobals "int" = some none)
    (z_isinstance : PySem.W.nsIn K mainGlobals "isinstance" = some none)
    (z_len : PySem.W.nsIn K mainGlobals "len" = some none)
    (z_list : PySem.W.nsIn K mainGlobals "list" = some none)
    (z_max : PySem.W.nsIn K mainGlobals "max" = some none)
    (z_range : PySem.W.nsIn K mainGlobals "range" = some none)
    (z_str : PySem.W.nsIn K mainGlobals "str" = some none)
    (z_tuple : PySem.W.nsIn K mainGlobals "tuple" = some none)
    (z_zip : PySem.W.nsIn K mainGlobals "zip" = some none) : Txt K mg w C_BadSchedule C_ITEMS :=
  { d_is_integer := ⟨_, _, (fun_mk l_is_integer e_is_integer k_is_integer), PySem.W.mg_of X G a_is_integer, ((fun_mk (st := s_is_integer) l_is_integer e_is_integer k_is_integer).binds (ps := ["value", "least", "greatest"]) fun _ _ _ _ _ _ us hl => match us, hl with | [_, _, _], _ => rfl)⟩,
    d_check_act := ⟨_, _, (fun_mk l_check_act e_check_act k_check_act), PySem.W.mg_of X G a_check_act, ((fun_mk (st := s_check_act) l_check_act e_check_act k_check_act).binds (ps := ["act"]) fun _ _ _ _ _ _ us hl => match us, hl with | [_], _ => rfl)⟩,
    d_survivors := ⟨_, _, (fun_mk l_survivors e_survivors k_survivors), PySem.W.mg_of X G a_survivors, ((fun_mk (st := s_survivors) l_survivors e_survivors k_survivors).binds (ps := ["keep", "count"]) fun _ _ _ _ _ _ us hl => match us, hl with | [_, _], _ => rfl)⟩,
    d__law_cell := ⟨_, _, (fun_mk l__law_cell e__law_cell k__law_cell), PySem.W.mg_of X G a__law_cell, ((fun_mk (st := s__law_cell) l__law_cell e__law_cell k__law_cell).binds (ps := ["script", "k"]) fun _ _ _ _ _ _ us hl => match us, hl with | [_, _], _ => rfl)⟩,
    d__law_rich := ⟨_, _, (fun_mk l__law_rich e__law_rich k__law_rich), PySem.W.mg_of X G a__law_rich, ((fun_mk (st := s__law_rich) l__law_rich e__law_rich k__law_rich).binds (ps := ["cell", "k"]) fun _ _ _ _ _ _ us hl => match us, hl with | [_, _], _ => rfl)⟩,
    d__law_survivors := ⟨_, _, (fun_mk l__law_survivors e__law_survivors k__law_survivors), PySem.W.mg_of X G a__law_survivors, ((fun_mk (st := s__law_survivors) l__law_survivors e__law_survivors k__law_survivors).binds (ps := ["keep", "count"]) fun _ _ _ _ _ _ us hl => match us, hl with | [_, _], _ => rfl)⟩,
    d__law_kinds := ⟨_, _, (fun_mk l__law_kinds e__law_kinds k__law_kinds), PySem.W.mg_of X G a__law_kinds, ((fun_mk (st := s__law_kinds) l__law_kinds e__law_kinds k__law_kinds).binds (ps := []) fun _ _ _ _ _ _ us hl => match us, hl with | [], _ => rfl)⟩,
    d__law_item := ⟨_, _, (fun_mk l__law_item e__law_item k__law_item), PySem.W.mg_of X G a__law_item, ((fun_mk (st := s__law_item) l__law_item e__law_item k__law_item).binds (ps := ["cell"]) fun _ _ _ _ _ _ us hl => match us, hl with | [_], _ => rfl)⟩,
    d__law_built := ⟨_, _, (fun_mk l__law_built e__law_built k__law_built), PySem.W.mg_of X G a__law_built, ((fun_mk (st := s__law_built) l__law_built e__law_built k__law_built).binds (ps := ["rich"]) fun _ _ _ _ _ _ us hl => match us, hl with | [_], _ => rfl)⟩,
    d__law_is_int := ⟨_, _, (fun_mk l__law_is_int e__law_is_int k__law_is_int), PySem.W.mg_of X G a__law_is_int, ((fun_mk (st := s__law_is_int) l__law_is_int e__law_is_int k__law_is_int).binds (ps := ["value", "least", "most"]) fun _ _ _ _ _ _ us hl => match us, hl with | [_, _, _], _ => rfl)⟩,
    d__law_due := ⟨_, _, (fun_mk l__law_due e__law_due k__law_due), PySem.W.mg_of X G a__law_due, ((fun_mk (st := s__law_due) l__law_due e__law_due k__law_due).binds (ps := ["act"]) fun _ _ _ _ _ _ us hl => match us, hl with | [_], _ => rfl)⟩,
    d__law_outcome := ⟨_, _, (fun_mk l__law_outcome e__law_outcome k__law_outcome), PySem.W.mg_of X G a__law_outcome, ((fun_mk (st := s__law_outcome) l__law_outcome e__law_outcome k__law_outcome).binds (ps := ["act"]) fun _ _ _ _ _ _ us hl => match us, hl with | [_], _ => rfl)⟩,
    d_law := ⟨_, _, (fun_mk l_law e_law k_law), PySem.W.mg_of X G a_law, ((fun_mk (st := s_law) l_law e_law k_law).binds (ps := ["script"]) fun _ _ _ _ _ _ us hl => match us, hl with | [_], _ => rfl)⟩,
    x_BadSchedule := ⟨PySem.W.mg_of X G xa_BadSchedule, ⟨⟨_, _, _, _, _, _, _, _, _, _, _, _, _, _, _, xl_BadSchedule, xr_BadSchedule⟩, xs_BadSchedule, xb_BadSchedule, xt_BadSchedule, xk_BadSchedule⟩, ⟨xg_BadSchedule, xq_BadSchedule, xb_BadSchedule, xh_BadSchedule⟩⟩,
    xn_BadSchedule_line := xn_BadSchedule_line,
    xn_BadSchedule_reason := xn_BadSchedule_reason,
    ei_BadSchedule := ⟨_, _, a_BadSchedule____init__, ty_BadSchedule____init__, (fun_mk l_BadSchedule____init__ e_BadSchedule____init__ k_BadSchedule____init__), ((fun_mk (st := s_BadSchedule____init__) l_BadSchedule____init__ e_BadSchedule____init__ k_BadSchedule____init__).binds (ps := ["self", "line", "reason"]) fun _ _ _ _ _ _ us hl => match us, hl with | [_, _, _], _ => rfl)⟩,
    g_ITEMS := PySem.W.mg_of X G a_ITEMS,
    kd_ITEMS := ⟨_, _, ⟨l_ITEMS, kl_ITEMS, lo_ITEMS⟩⟩,
    ki_ITEMS_0 := ⟨_, ⟨_, _, _, l_ITEMS, kl_ITEMS, v_ITEMS_0, rfl⟩, ⟨_, _, _, l_ITEMS_0, rfl, rfl, sz1000 (Nat.le_of_ble_eq_true rfl), (.cons ⟨_, rfl⟩ .nil)⟩⟩,
    ki_ITEMS_1 := ⟨_, ⟨_, _, _, l_ITEMS, kl_ITEMS, v_ITEMS_1, rfl⟩, ⟨_, _, _, l_ITEMS_1, rfl, rfl, sz1000 (Nat.le_of_ble_eq_true rfl), (.cons ⟨_, rfl⟩ (.cons ⟨_, rfl⟩ .nil))⟩⟩,
    ki_ITEMS_2 := ⟨_, ⟨_, _, _, l_ITEMS, kl_ITEMS, v_ITEMS_2, rfl⟩, ⟨_, _, _, l_ITEMS_2, rfl, rfl, sz1000 (Nat.le_of_ble_eq_true rfl), (.cons ⟨_, rfl⟩ .nil)⟩⟩,
    ki_ITEMS_3 := ⟨_, ⟨_, _, _, l_ITEMS, kl_ITEMS, v_ITEMS_3, rfl⟩, ⟨_, _, _, l_ITEMS_3, rfl, rfl, sz1000 (Nat.le_of_ble_eq_true rfl), .nil⟩⟩,
    ki_ITEMS_4 := ⟨_, ⟨_, _, _, l_ITEMS, kl_ITEMS, v_ITEMS_4, rfl⟩, ⟨_, _, _, l_ITEMS_4, rfl, rfl, sz1000 (Nat.le_of_ble_eq_true rfl), (.cons ⟨_, rfl⟩ .nil)⟩⟩,
    ki_ITEMS_5 := ⟨_, ⟨_, _, _, l_ITEMS, kl_ITEMS, v_ITEMS_5, rfl⟩, ⟨_, _, _, l_ITEMS_5, rfl, rfl, sz1000 (Nat.le_of_ble_eq_true rfl), (.cons ⟨_, rfl⟩ .nil)⟩⟩,
    ki_ITEMS_6 := ⟨_, ⟨_, _, _, l_ITEMS, kl_ITEMS, v_ITEMS_6, rfl⟩, ⟨_, _, _, l_ITEMS_6, rfl, rfl, sz1000 (Nat.le_of_ble_eq_true rfl), (.cons ⟨_, rfl⟩ .nil)⟩⟩,
    ki_ITEMS_7 := ⟨_, ⟨_, _, _, l_ITEMS, kl_ITEMS, v_ITEMS_7, rfl⟩, ⟨_, _, _, l_ITEMS_7, rfl, rfl, sz1000 (Nat.le_of_ble_eq_true rfl), (.cons ⟨_, rfl⟩ .nil)⟩⟩,
    ki_ITEMS_8 := ⟨_, ⟨_, _, _, l_ITEMS, kl_ITEMS, v_ITEMS_8, rfl⟩, ⟨_, _, _, l_ITEMS_8, rfl, rfl, sz1000 (Nat.le_of_ble_eq_true rfl), (.cons ⟨_, rfl⟩ (.cons ⟨_, rfl⟩ (.cons ⟨_, rfl⟩ .nil)))⟩⟩,
    ki_ITEMS_9 := ⟨_, ⟨_, _, _, l_ITEMS, kl_ITEMS, v_ITEMS_9, rfl⟩, ⟨_, _, _, l_ITEMS_9, rfl, rfl, sz1000 (Nat.le_of_ble_eq_true rfl), (.cons ⟨_, rfl⟩ (.cons ⟨_, rfl⟩ .nil))⟩⟩,
    ki_ITEMS_10 := ⟨_, ⟨_, _, _, l_ITEMS, kl_ITEMS, v_ITEMS_10, rfl⟩, ⟨_, _, _, l_ITEMS_10, rfl, rfl, sz1000 (Nat.le_of_ble_eq_true rfl), (.cons ⟨_, rfl⟩ .nil)⟩⟩,
    ki_ITEMS_11 := ⟨_, ⟨_, _, _, l_ITEMS, kl_ITEMS, v_ITEMS_11, rfl⟩, ⟨_, _, _, l_ITEMS_11, rfl, rfl, sz1000 (Nat.le_of_ble_eq_true rfl), (.cons ⟨_, rfl⟩ (.cons ⟨_, rfl⟩ .nil))⟩⟩,
    km_ITEMS_0 := m_ITEMS_0,
    km_ITEMS_1 := m_ITEMS_1,
    km_ITEMS_2 := m_ITEMS_2,
    km_ITEMS_3 := m_ITEMS_3,
    u_BadSchedule_BadSchedule := u_BadSchedule_BadSchedule,
    c_MOST_NUMBER := ⟨_, PySem.W.mg_of X G a_MOST_NUMBER, _, rfl⟩,
    c_MOST_TICKS := ⟨_, PySem.W.mg_of X G a_MOST_TICKS, _, rfl⟩,
    z_bool := PySem.W.mg_none_of X G z_bool,
    z_int := PySem.W.mg_none_of X G z_int,
    z_isinstance := PySem.W.mg_none_of X G z_isinstance,
    z_len := PySem.W.mg_none_of X G z_len,
    z_list := PySem.W.mg_none_of X G z_list,
    z_max := PySem.W.mg_none_of X G z_max,
    z_range := PySem.W.mg_none_of X G z_range,
    z_str := PySem.W.mg_none_of X G z_str,
    z_tuple := PySem.W.mg_none_of X G z_tuple,
    z_zip := PySem.W.mg_none_of X G z_zip }
end Law
open PySem PySem.W PyProof.Rows
set_option maxRecDepth 100000 in
set_option maxHeartbeats 0 in
theorem PySem.Challenge.cw_oathledger_k71_survivors_and_acts_holds : PySem.Challenge.rw_oathledger_k71_survivors_and_acts.Holds := by
  w_on; o_law; k_head; (case hw => w_witness2)
  k_fill
  refine L2.walk_of (l := PySem.Challenge.rw_oathledger_k71_survivors_and_acts) (n := 63) (k := 6) (x := "script") (CX := fun _ => L2.CX0) (sp := fun w => Law.spLaw _) rfl (by decide) rfl ⟨rfl, by decide, by decide⟩ (fun w h Y => PySem.W.kIn_of Y) ?F (fun _ _ a ns hl _ hS => ⟨a, ns, rfl, hS, hl, fun _ => rfl⟩) (fun _ _ _ _ _ h => h)
  case F =>
    intro w mg fa h KX G hmg
    refine' Law.fin hmg (Law.all_mk KX G ?a_is_integer ?l_is_integer ?e_is_integer ?k_is_integer ?a_check_act ?l_check_act ?e_check_act ?k_check_act ?a_survivors ?l_survivors ?e_survivors ?k_survivors ?a__law_cell ?l__law_cell ?e__law_cell ?k__law_cell ?a__law_rich ?l__law_rich ?e__law_rich ?k__law_rich ?a__law_survivors ?l__law_survivors ?e__law_survivors ?k__law_survivors ?a__law_kinds ?l__law_kinds ?e__law_kinds ?k__law_kinds ?a__law_item ?l__law_item ?e__law_item ?k__law_item ?a__law_built ?l__law_built ?e__law_built ?k__law_built ?a__law_is_int ?l__law_is_int ?e__law_is_int ?k__law_is_int ?a__law_due ?l__law_due ?e__law_due ?k__law_due ?a__law_outcome ?l__law_outcome ?e__law_outcome ?k__law_outcome ?a_law ?l_law ?e_law ?k_law ?xa_BadSchedule ?xl_BadSchedule ?xr_BadSchedule ?xs_BadSchedule ?xk_BadSchedule ?xb_BadSchedule ?xt_BadSchedule ?xh_BadSchedule ?xg_BadSchedule ?xq_BadSchedule ?xn_BadSchedule_line ?xn_BadSchedule_reason ?a_BadSchedule____init__ ?ty_BadSchedule____init__ ?l_BadSchedule____init__ ?e_BadSchedule____init__ ?k_BadSchedule____init__ ?a_ITEMS ?l_ITEMS ?kl_ITEMS ?lo_ITEMS ?v_ITEMS_0 ?l_ITEMS_0 ?v_ITEMS_1 ?l_ITEMS_1 ?v_ITEMS_2 ?l_ITEMS_2 ?v_ITEMS_3 ?l_ITEMS_3 ?v_ITEMS_4 ?l_ITEMS_4 ?v_ITEMS_5 ?l_ITEMS_5 ?v_ITEMS_6 ?l_ITEMS_6 ?v_ITEMS_7 ?l_ITEMS_7 ?v_ITEMS_8 ?l_ITEMS_8 ?v_ITEMS_9 ?l_ITEMS_9 ?v_ITEMS_10 ?l_ITEMS_10 ?v_ITEMS_11 ?l_ITEMS_11 ?m_ITEMS_0 ?m_ITEMS_1 ?m_ITEMS_2 ?m_ITEMS_3 ?u_BadSchedule_BadSchedule ?a_MOST_NUMBER ?a_MOST_TICKS ?z_bool ?z_int ?z_isinstance ?z_len ?z_list ?z_max ?z_range ?z_str ?z_tuple ?z_zip)
    (case a_is_integer => k_is)
    (case l_is_integer => k_is)
    (case e_is_integer => k_is)
    (case k_is_integer => k_is)
    (case a_check_act => k_is)
    (case l_check_act => k_is)
    (case e_check_act => k_is)
    (case k_check_act => k_is)
    (case a_survivors => k_is)
    (case l_survivors => k_is)
    (case e_survivors => k_is)
    (case k_survivors => k_is)
    (case a__law_cell => k_is)
    (case l__law_cell => k_is)
    (case e__law_cell => k_is)
    (case k__law_cell => k_is)
    (case a__law_rich => k_is)
    (case l__law_rich => k_is)
    (case e__law_rich => k_is)
    (case k__law_rich => k_is)
    (case a__law_survivors => k_is)
    (case l__law_survivors => k_is)
    (case e__law_survivors => k_is)
    (case k__law_survivors => k_is)
    (case a__law_kinds => k_is)
    (case l__law_kinds => k_is)
    (case e__law_kinds => k_is)
    (case k__law_kinds => k_is)
    (case a__law_item => k_is)
    (case l__law_item => k_is)
    (case e__law_item => k_is)
    (case k__law_item => k_is)
    (case a__law_built => k_is)
    (case l__law_built => k_is)
    (case e__law_built => k_is)
    (case k__law_built => k_is)
    (case a__law_is_int => k_is)
    (case l__law_is_int => k_is)
    (case e__law_is_int => k_is)
    (case k__law_is_int => k_is)
    (case a__law_due => k_is)
    (case l__law_due => k_is)
    (case e__law_due => k_is)
    (case k__law_due => k_is)
    (case a__law_outcome => k_is)
    (case l__law_outcome => k_is)
    (case e__law_outcome => k_is)
    (case k__law_outcome => k_is)
    (case a_law => k_is)
    (case l_law => k_is)
    (case e_law => k_is)
    (case k_law => k_is)
    (case xa_BadSchedule => k_is)
    (case xl_BadSchedule => k_is)
    (case xr_BadSchedule => decide +kernel)
    (case xs_BadSchedule => k_is)
    (case xk_BadSchedule => k_is)
    (case xb_BadSchedule => k_is)
    (case xt_BadSchedule => k_is)
    (case xh_BadSchedule => k_is)
    (case xg_BadSchedule => k_is)
    (case xq_BadSchedule => k_is)
    (case xn_BadSchedule_line => k_is)
    (case xn_BadSchedule_reason => k_is)
    (case a_BadSchedule____init__ => k_is)
    (case ty_BadSchedule____init__ => k_is)
    (case l_BadSchedule____init__ => k_is)
    (case e_BadSchedule____init__ => k_is)
    (case k_BadSchedule____init__ => k_is)
    (case a_ITEMS => k_is)
    (case l_ITEMS => k_is)
    (case kl_ITEMS => k_keys)
    (case lo_ITEMS => decide)
    (case v_ITEMS_0 => k_is)
    (case l_ITEMS_0 => k_is)
    (case v_ITEMS_1 => k_is)
    (case l_ITEMS_1 => k_is)
    (case v_ITEMS_2 => k_is)
    (case l_ITEMS_2 => k_is)
    (case v_ITEMS_3 => k_is)
    (case l_ITEMS_3 => k_is)
    (case v_ITEMS_4 => k_is)
    (case l_ITEMS_4 => k_is)
    (case v_ITEMS_5 => k_is)
    (case l_ITEMS_5 => k_is)
    (case v_ITEMS_6 => k_is)
    (case l_ITEMS_6 => k_is)
    (case v_ITEMS_7 => k_is)
    (case l_ITEMS_7 => k_is)
    (case v_ITEMS_8 => k_is)
    (case l_ITEMS_8 => k_is)
    (case v_ITEMS_9 => k_is)
    (case l_ITEMS_9 => k_is)
    (case v_ITEMS_10 => k_is)
    (case l_ITEMS_10 => k_is)
    (case v_ITEMS_11 => k_is)
    (case l_ITEMS_11 => k_is)
    (case m_ITEMS_0 => k_is)
    (case m_ITEMS_1 => k_is)
    (case m_ITEMS_2 => k_is)
    (case m_ITEMS_3 => k_is)
    (case u_BadSchedule_BadSchedule => k_is)
    (case a_MOST_NUMBER => k_is)
    (case a_MOST_TICKS => k_is)
    (case z_bool => k_is)
    (case z_int => k_is)
    (case z_isinstance => k_is)
    (case z_len => k_is)
    (case z_list => k_is)
    (case z_max => k_is)
    (case z_range => k_is)
    (case z_str => k_is)
    (case z_tuple => k_is)
    (case z_zip => k_is)

