import PyProof.Rows.All
import Wide.All
import OpenK.AllK
import Wide.FinOn
import HandS.ForMost
import HandS.Walk
import HandS.Flow
import HandS.Codes
import HandS.IsInst
import HandS.Conv
import HandS.StrMore
import PyProof.MeetsSeq2
import PyProof.DictTable
import HandS.Wide
import HandS.TupAny
import HandS.More
import HandS.Dict
import HandS.ForExc
import HandS.ExcIs
import HandS.ExcField
import HandS.DeepEq
import HandS.TupLe
import HandS.Steps
import HandS.ExcInit
import HandS.SortRule
import HandS.RaiseMore
import PySem.Challenge.RW_oathledger_k01_groups
set_option Elab.async false
set_option linter.all false
set_option maxRecDepth 100000
set_option maxHeartbeats 4000000
namespace Law
open PySem PySem.Spec PyProof.Rows L2
open C8 (Cal Met Mak pe_c pe_mk pe_mt pe_mt0 pe_gc pss_cut tCut)
/-! ### a def of the top, by its name -/
structure DefOk (K : PySem.W.Frag) (mg : Str → Option Value) (x : Str) (st : Stmt) (ps : List Str) : Prop where
  ex : ∃ (f : Addr) (fd : FuncData), L2.Fun K x x st f fd ∧ mg x = some (.ref f) ∧ Binds K fd ps []
section
variable {P : Program} {w : World} {K : PySem.W.Frag} {mg : Str → Option Value} {base : Heap}
/-- a def's promise, by its body -/
theorem cal {x : Str} {st : Stmt} {N ps : List Str} {k : Nat} {sp : Sp} (D : DefOk K mg x st ps) (S : FnScope N ps (defScope st)) (len : ∀ vs H Q E, sp vs H Q E → vs.length = ps.length)
    (hbody : ∀ (f : Addr) (cdv : Value) (A : Around) (outer : List Env) (s : Shared) (H : Hp) (vs : List V) (Q : VK) (E : XK), Room k (A.deeper (envOfC x (defScope st) s.heap.objs.size f cdv)) → sp vs H Q E →
      ∃ t, PSs (cxOf L2.CX0 P w K mg base N x (defScope st) f cdv A outer s H E).nox (defBody st) t ∧ t { nx := fun _ H' => Q .non H', rt := Q } (start N vs) H) : Cal P w K mg base (k + 1) x sp [] := by
  obtain ⟨f, fd, F, hm, b⟩ := D.ex
  exact ⟨f, fd, ps, [], F.ok S len (fun cdv A outer s H vs Q E hr h => hbody f cdv A outer s H vs Q E hr h), hm, F.kp, b, .nil⟩
/-- a call without arguments -/
theorem pe_c0 {X : Cx} {k j : Nat} {x : Str} {sp : Sp} {dvs : List V} {p pos : Pos} (c : Cal X.prog X.w X.K X.mg X.base k x sp dvs) (hr : Room j X.A) (hk : k ≤ j) (hg : Gl X x)
    (hdb : (x == ("__debug__" : Str)) = false := by decide) : PE X (.Call (.Name x p) [] [] pos) (tCall sp dvs L2.E0 tNil) := by
  obtain ⟨f, fd, ps, ds, F, hm, kp, b, d⟩ := c.ex
  exact pe_call0 F (hr.mono hk) hg hm kp b d pass0 hdb
end
/-! ### small things -/
theorem same_upd {H : Hp} {p : Addr} {o : HO} (h : H p = none) : Same H (upd H p o) := fun b x e => by
  rw [upd_ne (ne_of_none e h)]
  exact e
theorem same_mut {H H' : Hp} {p : Addr} {o : HO} (s : Same H H') (h : H p = none) : Same H (upd H' p o) := fun b x e => by
  rw [upd_ne (ne_of_none e h)]
  exact s b x e
theorem sz1000 {n : Nat} (h : n ≤ 100000) : n ≤ sizeLine := Nat.le_trans h (by decide)
theorem sz1000' {n : Nat} (h : n < 100000) : n < sizeLine := Nat.lt_of_lt_of_le h (by decide)
theorem sz1000'' {n : Nat} (h : n ≤ 16777216) : n ≤ sizeLine := by rw [sizeLine_eq]; exact h
theorem sq {K : PySem.W.Frag} {H : Hp} {a : Addr} {xs : List V} (h : H a = some (.lst xs)) : SqL K H a xs := .inl (.inl h)
def spLaw (K : PySem.W.Frag) : Sp := fun vs H Q _ => ∃ (a : Addr) (ns : List Int), vs = [.ref a] ∧ SqL K H a (ns.map V.int) ∧ ns.length ≤ 63 ∧ ∀ H', Q (.bl true) H'
/-! ### the reading, step by step -/
local macro_rules | `(tactic| walk_at "sd") => `(tactic| first
  | omega
  | decide
  | assumption
  | (show _ ∨ _; exact Or.inl ⟨by omega, by omega⟩)
  | (show _ ∨ _; exact Or.inr ⟨by omega, by omega⟩)
  | (show _ ∧ _; exact ⟨by omega, by omega⟩)
  | (show _ ∧ _; exact ⟨by decide, by decide⟩)
  | exact sz1000 (by omega)
  | exact sz1000' (by omega))
local macro_rules | `(tactic| walk_at "sz") => `(tactic| first
  | exact sz1000 (Nat.le_of_ble_eq_true rfl)
  | exact sz1000 (by omega)
  | exact sz1000'' (by omega)
  | assumption)
/-- one step of a reading: a slot, an operator upon numbers, a call upon values -/
local macro_rules | `(tactic| walk_at "rd") => `(tactic| first
  | refine ⟨_, (rfl : (_ : List (Option V))[_]? = some (some _)), ?_⟩
  | refine ⟨_, _, (rfl : (_ : V) = _), (rfl : (_ : V) = _), (by walk_at "sd" : (_ : Prop)), ?_⟩
  | refine ⟨_, _, (rfl : (_ : V) = _), (rfl : (_ : V) = _), ?_⟩
  | refine ⟨_, (rfl : (_ : List V) = _), (by walk_at "sd" : (_ : Prop)), (by walk_at "sd" : (_ : Prop)), ?_⟩
  | refine ⟨_, (rfl : (_ : List V) = _), ?_⟩
  | refine ⟨_, (rfl : (_ : V) = _), ?_⟩
  | refine .inl ⟨_, (rfl : (_ : List V) = _), ?_⟩
  | refine ⟨⟨_, (rfl : (_ : V) = _)⟩, ?_⟩
  | refine ⟨(rfl : scal _ _ = true), ?_⟩
  | refine ⟨(rfl : V.non = V.non), ?_⟩
  | refine ⟨(by walk_at "sz" : (_ ≤ sizeLine)), ?_⟩)
local macro_rules | `(tactic| walk_at "rds") => `(tactic| repeat walk_at "rd")
theorem tyes {σ : L2.St} {H : Hp} {A B : Hp → Prop} (h : A H) : tYes σ H (fun b H3 => if b = true then A H3 else B H3) := by
  show (if true = true then A H else B H)
  rw [if_pos rfl]
  exact h
theorem sum_ones {ys : List Str} (h : ∀ y ∈ ys, y.length = 1) : (ys.map (fun x => x.length)).sum = ys.length := by
  induction ys with
  | nil => rfl
  | cons y r ih =>
    rw [List.map_cons, List.sum_cons, ih (fun z hz => h z (List.mem_cons_of_mem _ hz)), h y List.mem_cons_self, List.length_cons]
    omega
theorem chr_at {z : Str} {i : Int} (h0 : 0 ≤ i) (h1 : i < z.length) : ∃ c, atI z.cps.toList i = some c := by
  obtain ⟨j, rfl⟩ := Int.eq_ofNat_of_zero_le h0
  have hj : j < z.cps.toList.length := by
    rw [Array.length_toList]
    exact Int.ofNat_lt.mp h1
  exact ⟨z.cps.toList[j], atI_nat (List.getElem?_eq_getElem hj)⟩
/-- what an append to a tracked new list leaves -/
theorem lst_app {α : Type} {H : Hp} {D : Addr} {f : α → V} {ys : List α} {y : α} : upd H D (.lst (ys.map f ++ [f y])) D = some (.lst ((ys ++ [y]).map f)) := by
  rw [upd_same, List.map_append]
  rfl
theorem rg40 {n : Nat} (h : n ≤ 100000) : RgC 0 n 40 ((n + 39) / 40) := by
  have e : Builtin.Range.rangeSize 0 (n : Int) 40 = (((n + 39) / 40 : Nat) : Int) := by
    rw [rangeSize_pos (by decide) (by omega)]
    omega
  refine ⟨by decide, by decide, ?_, e⟩
  unfold Builtin.Range.small
  rw [e]
  unfold Builtin.Range.rangeFitsLong
  simp
  omega
theorem isi {K : PySem.W.Frag} {H : Hp} {x : V} {T1 T2 : String} {b : Bool} {Q : VK} (ty : TyX K H x (.type T1)) (e : kitB T1 T2 = some b) (q : Q (.bl b) H) : rIsi K [x, .ty T2] H Q :=
  ⟨x, .ty T2, _, _, b, rfl, .ty _, ty, kit_ty e, q⟩
theorem ifT {c : Bool} {A B : Prop} (hc : c = true) (h : A) : if c = true then A else B := by
  rw [if_pos hc]
  exact h
theorem ifF {c : Bool} {A B : Prop} (hc : c = false) (h : B) : if c = true then A else B := by
  rw [if_neg (by rw [hc]; decide)]
  exact h
local macro_rules | `(tactic| walk_at "isk") => `(tactic| first
  | exact .base (.int _) | exact .base (.str _) | exact .base (.bl _) | exact .base .non
  | exact .base (.lst (by assumption)) | exact .base (.tup (by assumption)) | exact .base (.dK (by assumption)))
/-- isinstance(x, T) with a built-in T; the object's fact stands in the context -/
local macro_rules | `(tactic| walk_at "isi") => `(tactic| first
  | refine ⟨_, .ty _, _, _, true, (rfl : (_ : List V) = _), .ty _, (by walk_at "isk"), kit_ty (by decide +kernel), ?_⟩
  | refine ⟨_, .ty _, _, _, false, (rfl : (_ : List V) = _), .ty _, (by walk_at "isk"), kit_ty (by decide +kernel), ?_⟩)
/-! ### classes of the top -/
structure MethOk (K : PySem.W.Frag) (C : Addr) (m qual : Str) (st : Stmt) (ps : List Str) : Prop where
  ex : ∃ (f : Addr) (fd : FuncData), Meth K C m f ∧ L2.Fun K m qual st f fd ∧ Binds K fd ps []
structure MakOk (K : PySem.W.Frag) (C : Addr) (qual : Str) (st : Stmt) (ps : List Str) : Prop where
  ex : ∃ (f : Addr) (fd : FuncData), Mk K C f ∧ L2.Fun K "__init__" qual st f fd ∧ Binds K fd ps []
section
variable {P : Program} {w : World} {K : PySem.W.Frag} {mg : Str → Option Value} {base : Heap}
theorem met {C : Addr} {m qual : Str} {st : Stmt} {N ps : List Str} {k : Nat} {sp : Sp} (c : Cls K C) (D : MethOk K C m qual st ps) (S : FnScope N ps (defScope st)) (len : ∀ vs H Q E, sp vs H Q E → vs.length = ps.length)
    (hbody : ∀ (f : Addr) (cdv : Value) (A : Around) (outer : List Env) (s : Shared) (H : Hp) (vs : List V) (Q : VK) (E : XK), Room k (A.deeper (envOfC qual (defScope st) s.heap.objs.size f cdv)) → sp vs H Q E →
      ∃ t, PSs (cxOf L2.CX0 P w K mg base N qual (defScope st) f cdv A outer s H E).nox (defBody st) t ∧ t { nx := fun _ H' => Q .non H', rt := Q } (start N vs) H) : Met P w K mg base (k + 1) C m sp [] := by
  obtain ⟨f, fd, M, F, b⟩ := D.ex
  exact ⟨f, fd, ps, [], c, M, F.ok S len (fun cdv A outer s H vs Q E hr h => hbody f cdv A outer s H vs Q E hr h), b, .nil⟩
theorem mak {C : Addr} {x qual : Str} {st : Stmt} {N ps : List Str} {k : Nat} {sp : Sp} (hm : mg x = some (.ref C)) (D : MakOk K C qual st ps) (S : FnScope N ps (defScope st)) (len : ∀ vs H Q E, sp vs H Q E → vs.length = ps.length)
    (hbody : ∀ (f : Addr) (cdv : Value) (A : Around) (outer : List Env) (s : Shared) (H : Hp) (vs : List V) (Q : VK) (E : XK), Room k (A.deeper (envOfC qual (defScope st) s.heap.objs.size f cdv)) → sp vs H Q E →
      ∃ t, PSs (cxOf L2.CX0 P w K mg base N qual (defScope st) f cdv A outer s H E).nox (defBody st) t ∧ t { nx := fun _ H' => Q .non H', rt := Q } (start N vs) H) : Mak P w K mg base (k + 1) x C sp [] := by
  obtain ⟨f, fd, M, F, b⟩ := D.ex
  exact ⟨f, fd, ps, [], M, F.ok S len (fun cdv A outer s H vs Q E hr h => hbody f cdv A outer s H vs Q E hr h), hm, b, .nil⟩
end
/-- a tuple of the top, in the written part -/
def KTup (K : PySem.W.Frag) (a : Addr) (xs : List V) : Prop := ∃ o its n, K.lookup a = some o ∧ o.cls = Value.type "tuple" ∧ o.data = Data.seq its n ∧ its.size ≤ sizeLine ∧ Vals xs its.toList
theorem pe_mk0 {X : Cx} {k j : Nat} {x : Str} {C : Addr} {sp : Sp} {dvs : List V} {p pos : Pos} (c : Mak X.prog X.w X.K X.mg X.base k x C sp dvs) (hr : Room j X.A) (hk : k + 1 ≤ j) (hg : Gl X x)
    (hdb : (x == ("__debug__" : Str)) = false := by decide) : PE X (.Call (.Name x p) [] [] pos) (tMake C sp dvs L2.E0 tNil) := by
  obtain ⟨f, fd, ps, ds, M, F, hm, b, d⟩ := c.ex
  exact pe_make0 M F (hr.mono hk) hg hm b d pass0 hdb
/-! ### rules whose written part is named K (a comprehension's context is another one) -/
section
variable {X : Cx} {K : PySem.W.Frag}
theorem kin (h : X.K = K := by rfl) : OpR X (compareOp .In) (rIn K false) := by subst h; exact op_in_seq
theorem knin (h : X.K = K := by rfl) : OpR X (compareOp .NotIn) (rIn K true) := by subst h; exact op_notIn_seq
theorem kixl (h : X.K = K := by rfl) : IxR X (rIxL K) := by subst h; exact ix_list
theorem kixt (h : X.K = K := by rfl) : IxR X (rIxT K) := by subst h; exact ix_tup
theorem ksll (h : X.K = K := by rfl) : SlR X (rSlL K) := by subst h; exact sl_list
theorem kisi (h : X.K = K := by rfl) : CallR X (.builtin "isinstance") (rIsi K) := by subst h; exact call_isi
theorem kfld {o : Expr} {f : Str} {pos : Pos} {ta : TE} (he : PE X o ta) (hb : attributeBase o f X.env (eval o X.env) = eval o X.env := by rfl) (h : X.K = K := by rfl) : PE X (.Attribute o f pos) (tFld K ta f) := by subst h; exact pe_fld he hb
def rLenK (K : PySem.W.Frag) : List V → Hp → VK → Prop := fun xs H Q => ∃ p ys, xs = [.ref p] ∧ (SqL K H p ys ∨ SqT K H p ys) ∧ Q (.int ys.length) H
theorem klen (h : X.K = K := by rfl) : CallR X (.builtin "len") (rLenK K) := by subst h; exact call_len_seq
end
theorem hu1 {k : Nat} {A : Around} (hr : Room k A) : A.units + 1 < cLine := by have := hr.units; omega

/-! ### defs that raise own exceptions -/
theorem kit_own {K : PySem.W.Frag} {B C : Addr} (h1 : PySem.W.subIn K (.ref C) (.type "BaseException") = some true) (h2 : PySem.W.typeIn K (.ref C) = some (.type "type")) (h3 : PySem.W.subIn K (.ref B) (.ref C) = some true) : PySem.W.kitOne K (.ref B) (.ref C) = some true := by
  have h0 : (PySem.W.clsIn K C).isSome = true := by
    have h1 : PySem.W.mroIn K C (.type "BaseException") = some true := h1
    unfold PySem.W.mroIn at h1
    cases e : PySem.W.clsIn K C with
    | some _ => rfl
    | none => rw [e] at h1; cases h1
  unfold PySem.W.kitOne
  split
  · rfl
  · show (if ((PySem.W.clsIn K C).isSome && PySem.W.typeIn K (.ref C) == some (.type "type")) = true then PySem.W.subIn K (.ref B) (.ref C) else none) = some true
    rw [h0, h2, h3]
    rfl
section
variable {X : Cx}
/-- C() of an own exception class without an __init__ of its own -/
theorem pmk_own0 {x : Str} {C : Addr} {bmB : List Value} {B newId initId : String} {p pos : Pos} (F : ExcBaseFacts B newId initId bmB) (q : PySem.W.excIn X.K C bmB newId = true) (gC : X.mg x = some (.ref C)) (kC : PySem.W.keepIn X.K (.ref C) = true) (r : Raises X (.ref C)) (hg : Gl X x)
    (hdb : (x == ("__debug__" : Str)) = false := by decide) : PMk X (.Call (.Name x p) [] [] pos) (fun _ H Q => Q (.ref C) none H) := by
  intro pins s σ H Q I h
  refine wpAny_Call_Name_kw (ld_glob I hg gC ?_ hdb)
  refine PySem.W.callWith_K0 I.kIn kC ?_
  show wpAny _ _ (call (.ref C) []) _ _ _
  obtain ⟨bm, N, nm, qn, bs, hdct, sn, sub, ab, col, dd, k0, k1, k2, k3, k5, mN, hC, hN, hni, T⟩ := exc_obj I.kIn q
  refine wpAny_call_exc_subT F T hC hN hni (fun h' e hm => ?_) (Nat.zero_le _)
  exact mk_of I hm r h (I.hok.gone hm.new)
end
/-- an own exception class over ValueError -/
structure ExOk (K : PySem.W.Frag) (mg : Str → Option Value) (x : Str) (C : Addr) : Prop where
  ex : PySem.W.excIn K C [.type "ValueError", .type "Exception", .type "BaseException", .type "object"] "ValueError.__new__" = true
  g : mg x = some (.ref C)
  kp : PySem.W.keepIn K (.ref C) = true
  bp : PySem.W.subIn K (.ref C) (.type "BaseException") = some true
  tp : PySem.W.typeIn K (.ref C) = some (.type "type")
  hd : PySem.W.hasDictIn K C = true
theorem ExOk.exm {K : PySem.W.Frag} {mg : Str → Option Value} {x : Str} {C : Addr} {cls : Value} {b : Bool} (e : ExOk K mg x C) (h : PySem.W.subIn K cls (.ref C) = some b) : PySem.W.exmOne K cls (.ref C) = some b := PySem.W.exm_ref e.bp e.hd e.tp h
theorem pmk_ok {X : Cx} {x : Str} {C : Addr} {p pos : Pos} (e : ExOk X.K X.mg x C) (hg : Gl X x) (hdb : (x == ("__debug__" : Str)) = false := by decide) : PMk X (.Call (.Name x p) [] [] pos) (fun _ H Q => Q (.ref C) none H) :=
  pmk_own0 PySem.F.excBase_ValueError e.ex e.g e.kp (raises_own e.bp e.tp) hg hdb
/-! the promises of such defs -/
structure CalX (P : Program) (w : World) (K : PySem.W.Frag) (mg : Str → Option Value) (base : Heap) (k : Nat) (x : Str) (sp : Sp) : Prop where
  ex : ∃ (f : Addr) (fd : FuncData) (ps : List Str), FnOk P w K mg base (L2.CX P w) k f fd ps sp ∧ mg x = some (.ref f) ∧ PySem.W.keepIn K (.ref f) = true ∧ Binds K fd ps []
structure MetX (P : Program) (w : World) (K : PySem.W.Frag) (mg : Str → Option Value) (base : Heap) (k : Nat) (C : Addr) (m : Str) (sp : Sp) : Prop where
  ex : ∃ (f : Addr) (fd : FuncData) (ps : List Str), Cls K C ∧ Meth K C m f ∧ FnOk P w K mg base (L2.CX P w) k f fd ps sp ∧ Binds K fd ps []
structure MakX (P : Program) (w : World) (K : PySem.W.Frag) (mg : Str → Option Value) (base : Heap) (k : Nat) (x : Str) (C : Addr) (sp : Sp) : Prop where
  ex : ∃ (f : Addr) (fd : FuncData) (ps : List Str), Mk K C f ∧ FnOk P w K mg base (L2.CX P w) k f fd ps sp ∧ mg x = some (.ref C) ∧ Binds K fd ps []
section
variable {P : Program} {w : World} {K : PySem.W.Frag} {mg : Str → Option Value} {base : Heap}
theorem calX {x : Str} {st : Stmt} {N ps : List Str} {k : Nat} {sp : Sp} (D : DefOk K mg x st ps) (S : FnScope N ps (defScope st)) (len : ∀ vs H Q E, sp vs H Q E → vs.length = ps.length)
    (hbody : ∀ (f : Addr) (cdv : Value) (A : Around) (outer : List Env) (s : Shared) (H : Hp) (vs : List V) (Q : VK) (E : XK), Room k (A.deeper (envOfC x (defScope st) s.heap.objs.size f cdv)) → sp vs H Q E →
      ∃ t, PSs (cxOf (L2.CX P w) P w K mg base N x (defScope st) f cdv A outer s H E) (defBody st) t ∧ t { nx := fun _ H' => Q .non H', rt := Q } (start N vs) H) : CalX P w K mg base (k + 1) x sp := by
  obtain ⟨f, fd, F, hm, b⟩ := D.ex
  exact ⟨f, fd, ps, F.okX S len (fun cdv A outer s H vs Q E hr h => hbody f cdv A outer s H vs Q E hr h), hm, F.kp, b⟩
theorem metX {C : Addr} {m qual : Str} {st : Stmt} {N ps : List Str} {k : Nat} {sp : Sp} (c : Cls K C) (D : MethOk K C m qual st ps) (S : FnScope N ps (defScope st)) (len : ∀ vs H Q E, sp vs H Q E → vs.length = ps.length)
    (hbody : ∀ (f : Addr) (cdv : Value) (A : Around) (outer : List Env) (s : Shared) (H : Hp) (vs : List V) (Q : VK) (E : XK), Room k (A.deeper (envOfC qual (defScope st) s.heap.objs.size f cdv)) → sp vs H Q E →
      ∃ t, PSs (cxOf (L2.CX P w) P w K mg base N qual (defScope st) f cdv A outer s H E) (defBody st) t ∧ t { nx := fun _ H' => Q .non H', rt := Q } (start N vs) H) : MetX P w K mg base (k + 1) C m sp := by
  obtain ⟨f, fd, M, F, b⟩ := D.ex
  exact ⟨f, fd, ps, c, M, F.okX S len (fun cdv A outer s H vs Q E hr h => hbody f cdv A outer s H vs Q E hr h), b⟩
theorem makX {C : Addr} {x qual : Str} {st : Stmt} {N ps : List Str} {k : Nat} {sp : Sp} (hm : mg x = some (.ref C)) (D : MakOk K C qual st ps) (S : FnScope N ps (defScope st)) (len : ∀ vs H Q E, sp vs H Q E → vs.length = ps.length)
    (hbody : ∀ (f : Addr) (cdv : Value) (A : Around) (outer : List Env) (s : Shared) (H : Hp) (vs : List V) (Q : VK) (E : XK), Room k (A.deeper (envOfC qual (defScope st) s.heap.objs.size f cdv)) → sp vs H Q E →
      ∃ t, PSs (cxOf (L2.CX P w) P w K mg base N qual (defScope st) f cdv A outer s H E) (defBody st) t ∧ t { nx := fun _ H' => Q .non H', rt := Q } (start N vs) H) : MakX P w K mg base (k + 1) x C sp := by
  obtain ⟨f, fd, M, F, b⟩ := D.ex
  exact ⟨f, fd, ps, M, F.okX S len (fun cdv A outer s H vs Q E hr h => hbody f cdv A outer s H vs Q E hr h), hm, b⟩
end
/-! their calls: E tells at the slots what is wished of an error -/
section
variable {X : Cx} {k j : Nat} {C : Addr} {x m : Str} {sp : Sp} {p pos apos : Pos} {e o : Expr} {es : List Expr} {ta : TE} {t : TA} {E : L2.St → XK}
theorem pe_cX (c : CalX X.prog X.w X.K X.mg X.base k x sp) (hr : Room j X.A) (hk : k ≤ j) (hg : Gl X x) (hx : ∀ σ, PassesAt (L2.CX X.prog X.w) X σ (E σ)) (ha : PA X (e :: es) t)
    (hdb : (x == ("__debug__" : Str)) = false := by decide) (he : starEach (e :: es) X.env = (false, eval e X.env) :: starEach es X.env := by rfl) (hpl : (backTo pos (starEach es X.env)).any (·.1) = false := by rfl) :
    PE X (.Call (.Name x p) (e :: es) [] pos) (tCallS sp E t) := by
  obtain ⟨f, fd, ps, F, hm, kp, b⟩ := c.ex
  exact pe_callS F (hr.mono hk) hg hm kp b hx ha hdb he hpl
/-- where nothing is raised -/
theorem pe_cXn (c : CalX X.prog X.w X.K X.mg X.base k x sp) (hr : Room j X.A) (hk : k ≤ j) (hg : Gl X x) (ha : PA X (e :: es) t)
    (hdb : (x == ("__debug__" : Str)) = false := by decide) (he : starEach (e :: es) X.env = (false, eval e X.env) :: starEach es X.env := by rfl) (hpl : (backTo pos (starEach es X.env)).any (·.1) = false := by rfl) :
    PE X (.Call (.Name x p) (e :: es) [] pos) (tCall sp [] L2.E0 t) := by
  obtain ⟨f, fd, ps, F, hm, kp, b⟩ := c.ex
  exact pe_call F (hr.mono hk) hg hm kp b .nil passL ha hdb he hpl
def tMethX (C : Addr) (m : Str) (sp : Sp) (E : L2.St → XK) (ta : TE) (t : TA) : TE := fun σ H Q => ta σ H fun x H1 => ∃ a dx fs, x = .ref a ∧ H1 a = some (.ins C dx fs) ∧ fs.lookup m = none ∧ t σ H1 fun vs H2 => sp (.ref a :: vs) H2 Q (E σ)
theorem pe_mtX {pl : Sem Bool} (c : MetX X.prog X.w X.K X.mg X.base k C m sp) (hr : Room j X.A) (hk : k ≤ j) (hx : ∀ σ, PassesAt (L2.CX X.prog X.w) X σ (E σ)) (he : PE X o ta) (ha : PA X (e :: es) t)
    (hst : starEach (e :: es) X.env = (false, eval e X.env) :: starEach es X.env := by rfl) (hpl : (backTo pos (starEach es X.env)).any (·.1) = false := by rfl)
    (ht : eval (.Call (.Attribute o m apos) (e :: es) [] pos) X.env = (do
      let ov ← eval o X.env
      standAt apos.atName
      let (f, first) ← holding [ov] (getMethod ov m pl)
      callWith pos f first (backTo pos (starEach (e :: es) X.env)) (backToKw pos (keywordEach [] X.env))) := by rfl) :
    PE X (.Call (.Attribute o m apos) (e :: es) [] pos) (tMethX C m sp E ta t) := by
  obtain ⟨f, fd, ps, hc, hm, F, b⟩ := c.ex
  refine ⟨fun pins s σ H Q I h => ?_⟩
  refine PySem.W.methodCall_KW (pl := pl) (thn (he.run pins s σ H _ I h) fun u s1 ⟨x, H1, I1, rx, a, dx, fs, ex, ea, l, q⟩ => ?_) ht
  subst ex
  obtain rfl : u = Value.ref a := rx
  refine getmeth_ok I1 ea hc hm l ?_
  refine PySem.W.callWith_K (first := [.ref a]) (h₀ := X.base) I.ok.mod.kin hm.kp (thn (ha.run pos pins s1 σ H1 _ I1 q) fun us s2 ⟨vs, H2, I2, r, q2⟩ => ⟨I2.kIn, ?_⟩) hst hpl
  exact run_fnS (us := .ref a :: us) (vs := .ref a :: vs) F (hr.mono hk) b (hx σ) I2 (.cons rfl r) q2
theorem pe_mtX0 {pl : Sem Bool} (c : MetX X.prog X.w X.K X.mg X.base k C m sp) (hr : Room j X.A) (hk : k ≤ j) (hx : ∀ σ, PassesAt (L2.CX X.prog X.w) X σ (E σ)) (he : PE X o ta)
    (ht : eval (.Call (.Attribute o m apos) [] [] pos) X.env = (do
      let ov ← eval o X.env
      standAt apos.atName
      let (f, first) ← holding [ov] (getMethod ov m pl)
      callWith pos f first (backTo pos (starEach [] X.env)) (backToKw pos (keywordEach [] X.env))) := by rfl) :
    PE X (.Call (.Attribute o m apos) [] [] pos) (tMethX C m sp E ta tNil) := by
  obtain ⟨f, fd, ps, hc, hm, F, b⟩ := c.ex
  refine ⟨fun pins s σ H Q I h => ?_⟩
  refine PySem.W.methodCall_KW (pl := pl) (thn (he.run pins s σ H _ I h) fun u s1 ⟨x, H1, I1, rx, a, dx, fs, ex, ea, l, q⟩ => ?_) ht
  subst ex
  obtain rfl : u = Value.ref a := rx
  refine getmeth_ok I1 ea hc hm l ?_
  exact PySem.W.callWith_K0 (first := [.ref a]) I1.kIn hm.kp (run_fnS (us := [.ref a]) (vs := [.ref a]) F (hr.mono hk) b (hx σ) I1 (.cons rfl .nil) q)
def tMakeX (C : Addr) (sp : Sp) (E : L2.St → XK) (t : TA) : TE := fun σ H Q => t σ H fun vs H1 => ∀ x dx, H1 x = none → H1 dx = none → dx ≠ x → sp (.ref x :: vs) (upd (upd H1 dx (.own x)) x (.ins C dx [])) (fun v H2 => v = .non ∧ Q (.ref x) H2) (E σ)
theorem run_makeX {CX : CXT} {f : Addr} {fd : FuncData} {ps : List Str} {pins : List (Addr × Obj)} {σ : L2.St} {H : Hp} {s : Shared} {Q : VK} {us : List Value} {vs : List V} {Eσ : XK} (M : Mk X.K C f) (F : FnOk X.prog X.w X.K X.mg X.base CX k f fd ps sp) (hr : Room (k + 1) X.A) (hb : Binds X.K fd ps [])
    (hx : PassesAt CX X σ Eσ) (I : Inv X pins σ H s) (r : Vals vs us)
    (h : ∀ x dx, H x = none → H dx = none → dx ≠ x → sp (.ref x :: vs) (upd (upd H dx (.own x)) x (.ins C dx [])) (fun v H2 => v = .non ∧ Q (.ref x) H2) Eσ) :
    wpAny (model X.prog X.w) X.A (call (.ref C) us) (EP X pins σ Q) X.xe s := by
  have hq := h (s.heap.objs.size + 1) s.heap.objs.size (I.hok.fresh (Nat.le_succ _)) (I.hok.fresh (Nat.le_refl _)) (Nat.ne_of_lt (Nat.lt_succ_self _))
  have I2 := Inv.made (C := C) I
  have r2 : Vals (V.ref (s.heap.objs.size + 1) :: vs) (Value.ref (s.heap.objs.size + 1) :: us) := .cons rfl r
  have hl : (Value.ref (s.heap.objs.size + 1) :: us ++ ([] : List Value)).length = ps.length := by
    have e := r2.length
    rw [F.len _ _ _ _ hq] at e
    rw [List.append_nil]
    exact e.symm
  have hb' := hb _ (Value.ref (s.heap.objs.size + 1) :: us) I2.kIn hl
  rw [List.append_nil] at hb'
  refine wpAny_call (make_map (f := f) I.kIn M.makes M.init (beq_iff_eq.mp M.fn) (codeAny_mono (F.run _ X.stack _ _ ⟨Value.ref (s.heap.objs.size + 1) :: us, []⟩ (Value.ref (s.heap.objs.size + 1) :: us) _ _ Eσ (hr.make C us [])
    (I2.env0.make C us []) hb' r2 hq) fun r s' hq' => ?_))
  cases r with
  | error e => exact hx pins _ _ e s' I2 hq'
  | ok fl =>
    cases fl with
    | ret u =>
      obtain ⟨v, H', I3, rv, ev, q3⟩ := I2.after hq'
      subst ev
      exact ⟨rv, ⟨V.ref (s.heap.objs.size + 1), H', I3, rfl, q3⟩⟩
    | next => exact False.elim hq'
    | brk => exact False.elim hq'
    | cont => exact False.elim hq'
theorem pe_mkX (c : MakX X.prog X.w X.K X.mg X.base k x C sp) (hr : Room j X.A) (hk : k + 1 ≤ j) (hg : Gl X x) (hx : ∀ σ, PassesAt (L2.CX X.prog X.w) X σ (E σ)) (ha : PA X (e :: es) t)
    (hdb : (x == ("__debug__" : Str)) = false := by decide) (he : starEach (e :: es) X.env = (false, eval e X.env) :: starEach es X.env := by rfl) (hpl : (backTo pos (starEach es X.env)).any (·.1) = false := by rfl) :
    PE X (.Call (.Name x p) (e :: es) [] pos) (tMakeX C sp E t) := by
  obtain ⟨f, fd, ps, M, F, hm, b⟩ := c.ex
  refine ⟨fun pins s σ H Q I h => ?_⟩
  refine wpAny_Call_Name_kw (ld_glob I hg hm ?_ hdb)
  refine PySem.W.callWith_K (h₀ := X.base) I.ok.mod.kin M.kp (thn (ha.run pos pins s σ H _ I h) fun us s1 ⟨vs, H1, I1, r, q⟩ => ⟨I1.kIn, ?_⟩) he hpl
  exact run_makeX M F (hr.mono hk) b (hx σ) I1 r q
/-- where nothing is let out: for the calls above in a def without errors -/
theorem no_pass : ∀ σ : L2.St, PassesAt (L2.CX X.prog X.w) X σ ((fun _ => L2.E0) σ) := fun σ pins H s e s' I c => passL pins σ H s e s' I c
end

def topS (i : Nat) : Stmt := PySem.Challenge.pw_oathledger_k01_groups.main.body.getD i (.Pass ⟨0, 0, 0, 0⟩)
abbrev s_is_integer : Stmt := topS 8
theorem sc_is_integer : FnScope ["value", "least", "greatest"] ["value", "least", "greatest"] (defScope s_is_integer) := ⟨rfl, rfl, rfl, by decide +kernel, rfl, by decide +kernel, by decide +kernel⟩
abbrev s_Group____init__ : Stmt := inClass (topS 10) 0
theorem sc_Group____init__ : FnScope ["self", "faults"] ["self", "faults"] (defScope s_Group____init__) := ⟨rfl, rfl, rfl, by decide +kernel, rfl, by decide +kernel, by decide +kernel⟩
abbrev s_Group__members : Stmt := inClass (topS 10) 1
theorem sc_Group__members : FnScope ["self"] ["self"] (defScope s_Group__members) := ⟨rfl, rfl, rfl, by decide +kernel, rfl, by decide +kernel, by decide +kernel⟩
abbrev s_Group__is_member : Stmt := inClass (topS 10) 2
theorem sc_Group__is_member : FnScope ["self", "value"] ["self", "value"] (defScope s_Group__is_member) := ⟨rfl, rfl, rfl, by decide +kernel, rfl, by decide +kernel, by decide +kernel⟩
abbrev s_Group__leader : Stmt := inClass (topS 10) 3
theorem sc_Group__leader : FnScope ["self", "epoch"] ["self", "epoch"] (defScope s_Group__leader) := ⟨rfl, rfl, rfl, by decide +kernel, rfl, by decide +kernel, by decide +kernel⟩
abbrev s_epoch_of : Stmt := topS 11
theorem sc_epoch_of : FnScope ["time"] ["time"] (defScope s_epoch_of) := ⟨rfl, rfl, rfl, by decide +kernel, rfl, by decide +kernel, by decide +kernel⟩
abbrev s_first_tick : Stmt := topS 12
theorem sc_first_tick : FnScope ["epoch"] ["epoch"] (defScope s_first_tick) := ⟨rfl, rfl, rfl, by decide +kernel, rfl, by decide +kernel, by decide +kernel⟩
abbrev s_check_number : Stmt := topS 13
theorem sc_check_number : FnScope ["value"] ["value"] (defScope s_check_number) := ⟨rfl, rfl, rfl, by decide +kernel, rfl, by decide +kernel, by decide +kernel⟩
abbrev s__law_draws : Stmt := topS 15
theorem sc__law_draws : FnScope ["script", "draws", "k", "cell", "step", "mixed"] ["script"] (defScope s__law_draws) := ⟨rfl, rfl, rfl, by decide +kernel, rfl, by decide +kernel, by decide +kernel⟩
abbrev s__law_next : Stmt := topS 16
theorem sc__law_next : FnScope ["draws", "at", "many", "index"] ["draws", "at", "many"] (defScope s__law_next) := ⟨rfl, rfl, rfl, by decide +kernel, rfl, by decide +kernel, by decide +kernel⟩
abbrev s__law_big : Stmt := topS 17
theorem sc__law_big : FnScope ["draws", "at", "many", "number", "k"] ["draws", "at", "many"] (defScope s__law_big) := ⟨rfl, rfl, rfl, by decide +kernel, rfl, by decide +kernel, by decide +kernel⟩
abbrev s__law_is : Stmt := topS 18
theorem sc__law_is : FnScope ["actual", "expected"] ["actual", "expected"] (defScope s__law_is) := ⟨rfl, rfl, rfl, by decide +kernel, rfl, by decide +kernel, by decide +kernel⟩
abbrev s__law_truth : Stmt := topS 19
theorem sc__law_truth : FnScope ["actual", "expected"] ["actual", "expected"] (defScope s__law_truth) := ⟨rfl, rfl, rfl, by decide +kernel, rfl, by decide +kernel, by decide +kernel⟩
abbrev s__law_odd : Stmt := topS 20
theorem sc__law_odd : FnScope ["number", "odd"] ["number"] (defScope s__law_odd) := ⟨rfl, rfl, rfl, by decide +kernel, rfl, by decide +kernel, by decide +kernel⟩
abbrev s__law_refused : Stmt := topS 21
theorem sc__law_refused : FnScope ["which", "value"] ["which", "value"] (defScope s__law_refused) := ⟨rfl, rfl, rfl, by decide +kernel, rfl, by decide +kernel, by decide +kernel⟩
abbrev s__law_wrong : Stmt := topS 22
theorem sc__law_wrong : FnScope ["which", "value"] ["which", "value"] (defScope s__law_wrong) := ⟨rfl, rfl, rfl, by decide +kernel, rfl, by decide +kernel, by decide +kernel⟩
abbrev s__law_members : Stmt := topS 23
theorem sc__law_members : FnScope ["group", "machines", "members", "k"] ["group", "machines"] (defScope s__law_members) := ⟨rfl, rfl, rfl, by decide +kernel, rfl, by decide +kernel, by decide +kernel⟩
abbrev s__law_group : Stmt := topS 24
theorem sc__law_group : FnScope ["group", "faults", "draws", "at", "machines", "number", "value", "epoch", "leader"] ["group", "faults", "draws", "at"] (defScope s__law_group) := ⟨rfl, rfl, rfl, by decide +kernel, rfl, by decide +kernel, by decide +kernel⟩
abbrev s__law_times : Stmt := topS 25
theorem sc__law_times : FnScope ["draws", "at", "time"] ["draws", "at"] (defScope s__law_times) := ⟨rfl, rfl, rfl, by decide +kernel, rfl, by decide +kernel, by decide +kernel⟩
abbrev s_law : Stmt := topS 26
theorem sc_law : FnScope ["script", "draws", "at", "turn", "faults", "group", "other", "value", "large", "which"] ["script"] (defScope s_law) := ⟨rfl, rfl, rfl, by decide +kernel, rfl, by decide +kernel, by decide +kernel⟩
structure Txt (K : PySem.W.Frag) (mg : Str → Option Value) (C_Group : Addr) (C_BadGroup : Addr) : Prop where
  d_is_integer : DefOk K mg "is_integer" s_is_integer ["value", "least", "greatest"]
  d_epoch_of : DefOk K mg "epoch_of" s_epoch_of ["time"]
  d_first_tick : DefOk K mg "first_tick" s_first_tick ["epoch"]
  d_check_number : DefOk K mg "check_number" s_check_number ["value"]
  d__law_draws : DefOk K mg "_law_draws" s__law_draws ["script"]
  d__law_next : DefOk K mg "_law_next" s__law_next ["draws", "at", "many"]
  d__law_big : DefOk K mg "_law_big" s__law_big ["draws", "at", "many"]
  d__law_is : DefOk K mg "_law_is" s__law_is ["actual", "expected"]
  d__law_truth : DefOk K mg "_law_truth" s__law_truth ["actual", "expected"]
  d__law_odd : DefOk K mg "_law_odd" s__law_odd ["number"]
  d__law_refused : DefOk K mg "_law_refused" s__law_refused ["which", "value"]
  d__law_wrong : DefOk K mg "_law_wrong" s__law_wrong ["which", "value"]
  d__law_members : DefOk K mg "_law_members" s__law_members ["group", "machines"]
  d__law_group : DefOk K mg "_law_group" s__law_group ["group", "faults", "draws", "at"]
  d__law_times : DefOk K mg "_law_times" s__law_times ["draws", "at"]
  d_law : DefOk K mg "law" s_law ["script"]
  cl_Group : Cls K C_Group
  g_Group : mg "Group" = some (.ref C_Group)
  na_Group_faults : NoAttr K C_Group "faults"
  na_Group_machines : NoAttr K C_Group "machines"
  na_Group_quorum : NoAttr K C_Group "quorum"
  na_Group_blocking : NoAttr K C_Group "blocking"
  mk_Group : MakOk K C_Group "Group.__init__" s_Group____init__ ["self", "faults"]
  me_Group__members : MethOk K C_Group "members" "Group.members" s_Group__members ["self"]
  me_Group__is_member : MethOk K C_Group "is_member" "Group.is_member" s_Group__is_member ["self", "value"]
  me_Group__leader : MethOk K C_Group "leader" "Group.leader" s_Group__leader ["self", "epoch"]
  x_BadGroup : ExOk K mg "BadGroup" C_BadGroup
  u_BadGroup_BadGroup : PySem.W.subIn K (.ref C_BadGroup) (.ref C_BadGroup) = some true
  c_MOST_FAULTS : ∃ u, mg "MOST_FAULTS" = some u ∧ RelV (.int 10) u
  c_MOST_NUMBER : ∃ u, mg "MOST_NUMBER" = some u ∧ RelV (.int 1000000000000) u
  c_SPAN : ∃ u, mg "SPAN" = some u ∧ RelV (.int 5) u
  c_STINT : ∃ u, mg "STINT" = some u ∧ RelV (.int 5) u
  z_abs : mg "abs" = none
  z_bool : mg "bool" = none
  z_int : mg "int" = none
  z_isinstance : mg "isinstance" = none
  z_len : mg "len" = none
  z_list : mg "list" = none
  z_range : mg "range" = none
set_option pp.maxSteps 150
/-! ### the draws of a script -/
def Dr (H : Hp) (D A : Addr) : Prop := D ≠ A ∧ ∃ (ds : List Int) (n : Nat), H D = some (.lst (ds.map V.int)) ∧ H A = some (.lst [.int n]) ∧ (∀ d ∈ ds, 0 ≤ d ∧ d < 1000) ∧ ds.length ≤ 2520
/-- all that was tracked but A is as it was -/
def Mod (A : Addr) (H H' : Hp) : Prop := ∀ b o, b ≠ A → H b = some o → H' b = some o
theorem Mod.refl {A : Addr} {H : Hp} : Mod A H H := fun _ _ _ h => h
theorem Mod.trans {A : Addr} {H H1 H2 : Hp} (a : Mod A H H1) (b : Mod A H1 H2) : Mod A H H2 := fun c o n h => b c o n (a c o n h)
theorem Same.mod {A : Addr} {H H' : Hp} (s : Same H H') : Mod A H H' := fun b o _ h => s b o h
theorem Mod.new {A p : Addr} {o : HO} {H H' : Hp} (s : Mod A H H') (h : H' p = none) : Mod A H (upd H' p o) := fun b u n e => by
  rw [upd_ne (ne_of_none (s b u n e) h)]
  exact s b u n e
theorem Dr.new {D A p : Addr} {o : HO} {H : Hp} (d : Dr H D A) (h : H p = none) : Dr (upd H p o) D A := by
  obtain ⟨ne, ds, n, h1, h2, h3⟩ := d
  exact ⟨ne, ds, n, by rw [upd_ne (ne_of_none h1 h)]; exact h1, by rw [upd_ne (ne_of_none h2 h)]; exact h2, h3⟩
theorem Dr.same {D A : Addr} {H H' : Hp} (d : Dr H D A) (s : Same H H') : Dr H' D A := by
  obtain ⟨ne, ds, n, h1, h2, h3⟩ := d
  exact ⟨ne, ds, n, s _ _ h1, s _ _ h2, h3⟩
/-- an object that is neither D nor A is changed -/
theorem Dr.put {D A p : Addr} {o : HO} {H : Hp} (d : Dr H D A) (h1 : p ≠ D) (h2 : p ≠ A) : Dr (upd H p o) D A := by
  obtain ⟨ne, ds, n, e1, e2, h3⟩ := d
  exact ⟨ne, ds, n, by rw [upd_ne h1.symm]; exact e1, by rw [upd_ne h2.symm]; exact e2, h3⟩
theorem Dr.freshA {D A p : Addr} {H : Hp} (d : Dr H D A) (h : H p = none) : p ≠ A := by
  obtain ⟨_, _, _, _, e, _⟩ := d
  exact (ne_of_none e h).symm
theorem Dr.freshD {D A p : Addr} {H : Hp} (d : Dr H D A) (h : H p = none) : p ≠ D := by
  obtain ⟨_, _, _, e, _⟩ := d
  exact (ne_of_none e h).symm
theorem Mod.free {A p : Addr} {H H' : Hp} (s : Mod A H H') (d : ∃ o, H' A = some o) (h : H' p = none) : H p = none := by
  cases e : H p with
  | none => rfl
  | some o =>
    by_cases hp : p = A
    · subst hp
      obtain ⟨o', e'⟩ := d
      rw [e'] at h; cases h
    · rw [s p o hp e] at h; cases h
theorem Dr.A_in {D A : Addr} {H : Hp} (d : Dr H D A) : ∃ o, H A = some o := by
  obtain ⟨_, _, _, _, e, _⟩ := d
  exact ⟨_, e⟩
theorem rng_app {ds : List Int} {x : Int} (h : ∀ d ∈ ds, 0 ≤ d ∧ d < 1000) (h0 : 0 ≤ x) (h1 : x < 1000) : ∀ d ∈ ds ++ [x], 0 ≤ d ∧ d < 1000 := fun d hd => by
  rcases List.mem_append.mp hd with hd | hd
  · exact h d hd
  · rw [List.mem_singleton.mp hd]; exact ⟨h0, h1⟩

def spDraws (K : PySem.W.Frag) : Sp := fun vs H Q _ => ∃ (a : Addr) (ns : List Int), vs = [.ref a] ∧ SqL K H a (ns.map V.int) ∧ ns.length ≤ 63 ∧
  ∀ (H' : Hp) (D : Addr) (ds : List Int), Same H H' → H D = none → H' D = some (.lst (ds.map V.int)) → (∀ d ∈ ds, 0 ≤ d ∧ d < 1000) → ds.length ≤ 2520 → Q (.ref D) H'
def spNext : Sp := fun vs H Q _ => ∃ (D A : Addr) (m : Int), vs = [.ref D, .ref A, .int m] ∧ Dr H D A ∧ 1 ≤ m ∧
  ∀ (H' : Hp) (r : Int), 0 ≤ r → r < m → Mod A H H' → Dr H' D A → Q (.int r) H'
section
variable {P : Program} {w : World} {K : PySem.W.Frag} {mg : Str → Option Value} {base : Heap}
theorem c__law_next {C_Group : Addr} {C_BadGroup : Addr} (T : Txt K mg C_Group C_BadGroup) : Cal P w K mg base 1 "_law_next" spNext [] := by
  refine cal T.d__law_next sc__law_next (fun vs H Q E h => ?_) (fun f cdv A outer s H vs Q E hr h => ?_)
  · obtain ⟨D, A, m, rfl, _⟩ := h; rfl
  obtain ⟨D, A, m, rfl, dr, hm, q⟩ := h
  obtain ⟨ne, ds, n, hD, hA, hrg, hle⟩ := id dr
  refine ⟨_, (pss_cons (ps_set (i := 3) sc__law_next.nd rfl (Or.inl rfl) (pe_ix (kixl (K := K)) (pv 1) pe_int (fun _ _ => rfl)))
      (pss_cons (ps_asg (pe_op op_add (pv 3) pe_int) (pg_sub (pv 1) pe_int set_list))
      (pss_cons (ps_if (pt_cmpR op_lt (pv 3) (pe_callB (klen (K := K)) (by rfl) T.z_len (by decide +kernel) (pa_cons (pv 0) pa_nil)) (nomark _)) (pss_one (ps_ret (pe_op op_mod (pe_callTy call_int1 (by rfl) T.z_int (by decide +kernel) (pa_cons (pe_ix (kixl (K := K)) (pv 0) (pv 3) (fun _ _ => rfl)) pa_nil)) (pv 2)))) pss_nil)
      (pss_one (ps_ret pe_int))))), ?_⟩
  walk_at "rds"
  refine ⟨A, _, (0 : Int), _, rfl, rfl, sq hA, atI_nat (j := 0) rfl, ?_⟩
  walk_at "rds"
  refine ⟨A, _, (0 : Int), 0, rfl, rfl, hA, rfl, ?_⟩
  have hD' : (upd H A (.lst [.int ((n : Int) + 1)])) D = some (.lst (ds.map V.int)) := by rw [upd_ne ne]; exact hD
  have md : Mod A H (upd H A (.lst [.int ((n : Int) + 1)])) := fun b o hb e => by rw [upd_ne hb]; exact e
  have dr' : Dr (upd H A (.lst [.int ((n : Int) + 1)])) D A := ⟨ne, ds, n + 1, hD', upd_same, hrg, hle⟩
  walk_at "rds"
  refine ⟨D, _, rfl, .inl (sq hD'), ?_⟩
  walk_at "rds"
  refine ite2 (fun e => ?_) (fun e => ?_)
  · have e := of_decide_eq_true e
    rw [List.length_map] at e
    have e1 : n < ds.length := by omega
    have g : (ds.map V.int)[n]? = some (.int ds[n]) := by
      rw [List.getElem?_map, List.getElem?_eq_getElem e1]; rfl
    walk_at "rds"
    refine ⟨D, _, (n : Int), _, rfl, rfl, sq hD', atI_nat g, ?_⟩
    walk_at "rds"
    exact q _ _ (Int.emod_nonneg _ (by omega)) (Int.emod_lt_of_pos _ (by omega)) md dr'
  · exact q _ _ (by omega) (by omega) md dr'
theorem c__law_draws {C_Group : Addr} {C_BadGroup : Addr} (T : Txt K mg C_Group C_BadGroup) : Cal P w K mg base 1 "_law_draws" (spDraws K) [] := by
  refine cal T.d__law_draws sc__law_draws (fun vs H Q E h => ?_) (fun f cdv A outer s H vs Q E hr h => ?_)
  · obtain ⟨a, ns, rfl, _⟩ := h; rfl
  obtain ⟨a, ns, rfl, hS, hlen, q⟩ := h
  refine ⟨_, (pss_cons (ps_set (i := 1) sc__law_draws.nd rfl (Or.inl rfl) (pe_lst pa_nil))
      (pss_cons (ps_for PassesOwn.never rfl (pi_range1 (by rfl) T.z_range (pa_cons (pe_callB (klen (K := K)) (by rfl) T.z_len (by decide +kernel) (pa_cons (pv 0) pa_nil)) pa_nil)) (pg_name (i := 2) sc__law_draws.nd rfl (Or.inl rfl)) (pss_cons (ps_set (i := 3) sc__law_draws.nd rfl (Or.inl rfl) (pe_callB call_abs (by rfl) T.z_abs (by decide +kernel) (pa_cons (pe_ix (kixl (K := K)) (pv 0) (pv 2) (fun _ _ => rfl)) pa_nil)))
      (pss_one (ps_if (pt_cmpR op_ge (pv 3) (pe_op op_pow pe_int pe_int) (nomark _)) (pss_one (ps_for PassesOwn.never rfl (pi_range1 (by rfl) T.z_range (pa_cons pe_int pa_nil)) (pg_name (i := 4) sc__law_draws.nd rfl (Or.inl rfl)) (pss_cons (ps_expr (pe_bm PySem.F.plainAttrs_list PySem.F.slot_list_append PySem.F.type_list_append mt_append (pv 1) (pa_cons (pe_op op_mod (pe_callTy call_int1 (by rfl) T.z_int (by decide +kernel) (pa_cons (pv 3) pa_nil)) pe_int) pa_nil)))
      (pss_one (ps_set (i := 3) sc__law_draws.nd rfl (Or.inl rfl) (pe_op op_fdiv (pv 3) pe_int)))))) (pss_cons (ps_set (i := 5) sc__law_draws.nd rfl (Or.inl rfl) (pe_op op_add (pv 3) pe_int))
      (pss_one (ps_for PassesOwn.never rfl (pi_range1 (by rfl) T.z_range (pa_cons pe_int pa_nil)) (pg_name (i := 4) sc__law_draws.nd rfl (Or.inl rfl)) (pss_cons (ps_set (i := 5) sc__law_draws.nd rfl (Or.inl rfl) (pe_op op_mod (pe_callTy call_int1 (by rfl) T.z_int (by decide +kernel) (pa_cons (pe_op op_add (pe_op op_add (pe_op op_mul (pv 5) pe_int) (pe_op op_mul pe_int (pe_op op_add (pv 2) (pv 4)))) pe_int) pa_nil)) pe_int))
      (pss_cons (ps_set (i := 5) sc__law_draws.nd rfl (Or.inl rfl) (pe_op op_mod (pe_callTy call_int1 (by rfl) T.z_int (by decide +kernel) (pa_cons (pe_op op_add (pe_op op_mul (pv 5) pe_int) pe_int) pa_nil)) pe_int))
      (pss_one (ps_expr (pe_bm PySem.F.plainAttrs_list PySem.F.slot_list_append PySem.F.type_list_append mt_append (pv 1) (pa_cons (pe_op op_mod (pe_callTy call_int1 (by rfl) T.z_int (by decide +kernel) (pa_cons (pe_op op_fdiv (pv 5) pe_int) pa_nil)) pe_int) pa_nil)))))))))))))
      (pss_one (ps_ret (pv 1))))), ?_⟩
  refine ⟨by decide, fun D hD => ?_⟩
  walk_at "rds"
  refine ⟨a, _, rfl, .inl ((same_upd hD).seq hS), ?_⟩
  refine ⟨_, rfl, by rw [List.length_map]; omega, by rw [List.length_map]; omega, ?_⟩
  refine for_it walk_range (Pv := fun i σ H' => ∃ y2 y3 y4 y5 ds, σ = [some (.ref a), some (.ref D), y2, y3, y4, y5] ∧ Same H H' ∧ H' D = some (.lst (ds.map V.int)) ∧ (∀ d ∈ ds, 0 ≤ d ∧ d < 1000) ∧ ds.length ≤ 40 * i) ⟨none, none, none, none, [], rfl, same_upd hD, upd_same, by simp, by simp⟩ (fun _ _ _ _ _ => trivial) (fun i x σ H1 H2 hi hp hy => ?_) (fun σ H1 hp => ?_)
  · obtain ⟨y2, y3, y4, y5, ds, rfl, sm, hd, hrg, hl⟩ := hp
    obtain ⟨rfl, rfl⟩ := hy
    have hi' : i < ns.length := by rw [List.length_map] at hi; omega
    have g : (ns.map V.int)[i]? = some (.int ns[i]) := by
      rw [List.getElem?_map, List.getElem?_eq_getElem hi']; rfl
    have e0 : (0 : Int) + (i : Int) = (i : Int) := by omega
    walk_at "rds"
    refine ⟨a, _, (i : Int), _, rfl, by show V.int (0 + (i : Int)) = V.int i; rw [e0], sm.seq hS, atI_nat g, ?_⟩
    walk_at "rds"
    have hc0 : (0 : Int) ≤ (if ns[i] < 0 then -ns[i] else ns[i]) := by split <;> omega
    generalize (if ns[i] < 0 then -ns[i] else ns[i]) = c at hc0
    refine ite2 (fun e => ?_) (fun e => ?_)
    · refine ⟨40, rfl, by decide, by decide, ?_⟩
      refine for_it walk_range (Pv := fun j σ H' => ∃ y4 ds c, σ = [some (.ref a), some (.ref D), some (.int (0 + (i : Int))), some (.int c), y4, y5] ∧ Same H H' ∧ H' D = some (.lst (ds.map V.int)) ∧ (∀ d ∈ ds, 0 ≤ d ∧ d < 1000) ∧ ds.length ≤ 40 * i + j ∧ 0 ≤ c) ⟨y4, ds, c, rfl, sm, hd, hrg, by omega, hc0⟩ (fun _ _ _ _ _ => trivial) (fun j x σ H3 H4 hj hp hy => ?_) (fun σ H3 hp => ?_)
      · obtain ⟨z4, ds, c, rfl, sm, hd, hrg, hl, hc0⟩ := hp
        obtain ⟨rfl, rfl⟩ := hy
        refine ⟨.ref D, rfl, .inl ⟨rfl, _, sq hd⟩, ?_⟩
        walk_at "rds"
        have hj' : j < 40 := hj
        refine ⟨_, _, _, rfl, rfl, hd, by rw [List.length_map]; exact sz1000' (by omega), ?_⟩
        refine ⟨_, rfl, _, _, rfl, rfl, ⟨by decide, by decide⟩, ?_⟩
        refine ⟨_, ds ++ [c % 1000], c / 1000, rfl, same_mut sm hD, lst_app, rng_app hrg (by omega) (by omega), ?_, by omega⟩
        rw [List.length_append, List.length_singleton]; omega
      · obtain ⟨z4, ds, c, rfl, sm, hd, hrg, hl, hc0⟩ := hp
        exact ⟨_, _, _, _, ds, rfl, sm, hd, hrg, by have : (40 : Int).toNat = 40 := rfl; omega⟩
    · have hc1 : c < 10 ^ 18 := by
        have : ¬ ((10 : Int) ^ (18 : Int).toNat ≤ c) := fun z => e (decide_eq_true z)
        have e18 : (10 : Int) ^ (18 : Int).toNat = 10 ^ 18 := rfl
        omega
      walk_at "rds"
      refine for_it walk_range (Pv := fun j σ H' => ∃ y4 ds m, σ = [some (.ref a), some (.ref D), some (.int (0 + (i : Int))), some (.int c), y4, some (.int m)] ∧ Same H H' ∧ H' D = some (.lst (ds.map V.int)) ∧ (∀ d ∈ ds, 0 ≤ d ∧ d < 1000) ∧ ds.length ≤ 40 * i + j ∧ 0 ≤ m ∧ m ≤ 10 ^ 18) ⟨y4, ds, _, rfl, sm, hd, hrg, by omega, by omega, by omega⟩ (fun _ _ _ _ _ => trivial) (fun j x σ H3 H4 hj hp hy => ?_) (fun σ H3 hp => ?_)
      · obtain ⟨z4, ds, m, rfl, sm, hd, hrg, hl, hm0, hm1⟩ := hp
        obtain ⟨rfl, rfl⟩ := hy
        have hj' : j < 8 := hj
        walk_at "rds"
        refine ⟨.inl ⟨rfl, _, sq hd⟩, ?_⟩
        walk_at "rds"
        refine ⟨_, _, _, rfl, rfl, hd, by rw [List.length_map]; exact sz1000' (by omega), ?_⟩
        refine ⟨_, ds ++ [_], _, rfl, same_mut sm hD, lst_app, rng_app hrg (by omega) (by omega), ?_, by omega, by omega⟩
        rw [List.length_append, List.length_singleton]; omega
      · obtain ⟨z4, ds, m, rfl, sm, hd, hrg, hl, hm0, hm1⟩ := hp
        exact ⟨_, _, _, _, ds, rfl, sm, hd, hrg, by have : (8 : Int).toNat = 8 := rfl; omega⟩
  · obtain ⟨y2, y3, y4, y5, ds, rfl, sm, hd, hrg, hl⟩ := hp
    refine ⟨.ref D, rfl, ?_⟩
    refine q _ _ _ sm hD hd hrg ?_
    rw [List.length_map] at hl; omega
end

/-! ### drawn numbers -/
def spBig : Sp := fun vs H Q _ => ∃ (D A : Addr) (m : Int), vs = [.ref D, .ref A, .int m] ∧ Dr H D A ∧ 1 ≤ m ∧
  ∀ (H' : Hp) (r : Int), 0 ≤ r → r < m → Mod A H H' → Dr H' D A → Q (.int r) H'
section
variable {P : Program} {w : World} {K : PySem.W.Frag} {mg : Str → Option Value} {base : Heap}
theorem c__law_big {C_Group : Addr} {C_BadGroup : Addr} (T : Txt K mg C_Group C_BadGroup) : Cal P w K mg base 2 "_law_big" spBig [] := by
  have c__law_next := c__law_next (P := P) (w := w) (base := base) T
  refine cal T.d__law_big sc__law_big (fun vs H Q E h => ?_) (fun f cdv A' outer s H vs Q E hr h => ?_)
  · obtain ⟨D, A, m, rfl, _⟩ := h; rfl
  obtain ⟨D, A, m, rfl, dr, hm, q⟩ := h
  refine ⟨_, (pss_cons (ps_set (i := 3) sc__law_big.nd rfl (Or.inl rfl) pe_int)
      (pss_cons (ps_for PassesOwn.never rfl (pi_range1 (by rfl) T.z_range (pa_cons pe_int pa_nil)) (pg_name (i := 4) sc__law_big.nd rfl (Or.inl rfl)) (pss_one (ps_set (i := 3) sc__law_big.nd rfl (Or.inl rfl) (pe_op op_add (pe_op op_mul pe_int (pv 3)) (pe_c c__law_next hr (by decide) (by rfl) (pa_cons (pv 0) (pa_cons (pv 1) (pa_cons pe_int pa_nil))))))))
      (pss_one (ps_ret (pe_op op_mod (pe_callTy call_int1 (by rfl) T.z_int (by decide +kernel) (pa_cons (pv 3) pa_nil)) (pv 2)))))), ?_⟩
  walk_at "rds"
  refine for_it walk_range (Pv := fun i σ H' => ∃ (n : Int) (y : Option V), σ = [some (.ref D), some (.ref A), some (.int m), some (.int n), y] ∧ 0 ≤ n ∧ Mod A H H' ∧ Dr H' D A) ⟨0, none, rfl, by decide, Mod.refl, dr⟩ (fun _ _ _ _ _ => trivial) (fun i x σ H1 H2 hi hp hy => ?_) (fun σ H1 hp => ?_)
  · obtain ⟨n, y, rfl, hn, md, dr⟩ := hp
    obtain ⟨rfl, rfl⟩ := hy
    walk_at "rds"
    refine ⟨D, A, 1000, rfl, dr, by decide, fun H3 r r0 r1 md3 dr3 => ?_⟩
    walk_at "rds"
    exact ⟨_, _, rfl, by omega, md.trans md3, dr3⟩
  · obtain ⟨n, y, rfl, hn, md, dr⟩ := hp
    walk_at "rds"
    exact q _ _ (Int.emod_nonneg _ (by omega)) (Int.emod_lt_of_pos _ (by omega)) md dr
end

/-! ### is_integer -/
/-- no int, told by its type -/
def NoInt (K : PySem.W.Frag) (H : Hp) (v : V) : Prop := ∃ T, TyX K H v (.type T) ∧ (kitB T "int" = some false ∨ (kitB T "int" = some true ∧ kitB T "bool" = some true))
def spInt (K : PySem.W.Frag) : Sp := fun vs H Q _ => ∃ (v : V) (lo hi : Int), vs = [v, .int lo, .int hi] ∧ ((∃ i, v = .int i ∧ Q (.bl (decide (lo ≤ i ∧ i ≤ hi))) H) ∨ (NoInt K H v ∧ Q (.bl false) H))
section
variable {P : Program} {w : World} {K : PySem.W.Frag} {mg : Str → Option Value} {base : Heap}
theorem c_is_integer {C_Group : Addr} {C_BadGroup : Addr} (T : Txt K mg C_Group C_BadGroup) : Cal P w K mg base 1 "is_integer" (spInt K) [] := by
  refine cal T.d_is_integer sc_is_integer (fun vs H Q E h => ?_) (fun f cdv A outer s H vs Q E hr h => ?_)
  · obtain ⟨v, lo, hi, rfl, _⟩ := h; rfl
  obtain ⟨v, lo, hi, rfl, h⟩ := h
  refine ⟨_, (pss_one (ps_ret (pe_and (pe_callB (kisi (K := K)) (by rfl) T.z_isinstance (by decide +kernel) (pa_cons (pv 0) (pa_cons (pe_bltn (v := .ty "int") (by rfl) T.z_int (by decide +kernel) rfl) pa_nil))) (pe_and (pe_not (pe_callB (kisi (K := K)) (by rfl) T.z_isinstance (by decide +kernel) (pa_cons (pv 0) (pa_cons (pe_bltn (v := .ty "bool") (by rfl) T.z_bool (by decide +kernel) rfl) pa_nil)))) (pe_one (pe_chain op_le op_le (pv 1) (pv 0) (pv 2))))))), ?_⟩
  rcases h with ⟨i, rfl, q⟩ | ⟨⟨T, ty, hk⟩, q⟩
  · walk_at "rds"
    walk_at "isi"
    walk_at "rds"
    walk_at "isi"
    walk_at "rds"
    refine ite2 (fun e => ?_) (fun e => ?_)
    · have e := of_decide_eq_true e
      walk_at "rds"
      have e2 : decide (lo ≤ i ∧ i ≤ hi) = decide (i ≤ hi) := by simp [e]
      rw [e2] at q
      exact q
    · have e : ¬ lo ≤ i := fun z => e (decide_eq_true z)
      have e2 : decide (lo ≤ i ∧ i ≤ hi) = false := by simp [e]
      rw [e2] at q
      exact q
  · walk_at "rds"
    rcases hk with hk | ⟨hk, hb⟩
    · refine ⟨_, .ty _, _, _, false, rfl, .ty _, ty, kit_ty hk, ?_⟩
      walk_at "rds"
      exact q
    · refine ⟨_, .ty _, _, _, true, rfl, .ty _, ty, kit_ty hk, ?_⟩
      walk_at "rds"
      refine ⟨_, .ty _, _, _, true, rfl, .ty _, ty, kit_ty hb, ?_⟩
      walk_at "rds"
      exact q
end

/-! ### the group -/
def gF (n : Int) : List (Str × V) := putF "blocking" (.int (n + 1)) (putF "quorum" (.int (2 * n + 1)) (putF "machines" (.int (3 * n + 1)) (putF "faults" (.int n) [])))
theorem gF_f (n : Int) : (gF n).lookup ("faults" : Str) = some (V.int n) := by rfl
theorem gF_m (n : Int) : (gF n).lookup ("machines" : Str) = some (V.int (3 * n + 1)) := by rfl
theorem gF_q (n : Int) : (gF n).lookup ("quorum" : Str) = some (V.int (2 * n + 1)) := by rfl
theorem gF_b (n : Int) : (gF n).lookup ("blocking" : Str) = some (V.int (n + 1)) := by rfl
/-- a Group stands at p -/
def GrAt (C : Addr) (H : Hp) (p : Addr) (n : Int) : Prop := ∃ dx, H p = some (.ins C dx (gF n))
/-- v is no int from 0 to m -/
def Bad (K : PySem.W.Frag) (H : Hp) (m : Int) (v : V) : Prop := NoInt K H v ∨ ∃ i, v = .int i ∧ ¬ (0 ≤ i ∧ i ≤ m)
def spCheck (K : PySem.W.Frag) (B : Addr) : Sp := fun vs H Q E => ∃ v, vs = [v] ∧ ((∃ i, v = .int i ∧ 0 ≤ i ∧ i ≤ 1000000000000 ∧ Q .non H) ∨ (Bad K H 1000000000000 v ∧ E (.ref B) none H))
def spEpoch (K : PySem.W.Frag) (B : Addr) (f : Int → Int) : Sp := fun vs H Q E => ∃ v, vs = [v] ∧ ((∃ i, v = .int i ∧ 0 ≤ i ∧ i ≤ 1000000000000 ∧ Q (.int (f i)) H) ∨ (Bad K H 1000000000000 v ∧ E (.ref B) none H))
def spLeader (K : PySem.W.Frag) (C B : Addr) : Sp := fun vs H Q E => ∃ (p : Addr) (n : Int) (v : V), vs = [.ref p, v] ∧ GrAt C H p n ∧ 0 ≤ n ∧ ((∃ i, v = .int i ∧ 0 ≤ i ∧ i ≤ 1000000000000 ∧ Q (if i = 0 then .non else .int (i / 5 % (3 * n + 1))) H) ∨ (Bad K H 1000000000000 v ∧ E (.ref B) none H))
def spInit (K : PySem.W.Frag) (C B : Addr) : Sp := fun vs H Q E => ∃ (p dx : Addr) (v : V), vs = [.ref p, v] ∧ H p = some (.ins C dx []) ∧
  ((∃ n, v = .int n ∧ 0 ≤ n ∧ n ≤ 10 ∧ ∀ (H' : Hp), (∀ b o, H b = some o → b ≠ p → H' b = some o) → GrAt C H' p n → Q .non H') ∨ (Bad K H 10 v ∧ E (.ref B) none H))
def spMembers (C : Addr) : Sp := fun vs H Q _ => ∃ (p : Addr) (n : Int), vs = [.ref p] ∧ GrAt C H p n ∧ 0 ≤ n ∧ n ≤ 10 ∧ ∀ q, H q = none → Q (.ref q) (upd H q (.lst (rgV 0 (3 * n + 1))))
def spIsMember (K : PySem.W.Frag) (C : Addr) : Sp := fun vs H Q _ => ∃ (p : Addr) (n : Int) (v : V), vs = [.ref p, v] ∧ GrAt C H p n ∧ ((∃ i, v = .int i ∧ Q (.bl (decide (0 ≤ i ∧ i ≤ 3 * n + 1 - 1))) H) ∨ (NoInt K H v ∧ Q (.bl false) H))
section
variable {P : Program} {w : World} {K : PySem.W.Frag} {mg : Str → Option Value} {base : Heap}
theorem c_check_number {C_Group : Addr} {C_BadGroup : Addr} (T : Txt K mg C_Group C_BadGroup) : CalX P w K mg base 2 "check_number" (spCheck K C_BadGroup) := by
  have c_is_integer := c_is_integer (P := P) (w := w) (base := base) T
  refine calX T.d_check_number sc_check_number (fun vs H Q E h => ?_) (fun f cdv A outer s H vs Q E hr h => ?_)
  · obtain ⟨v, rfl, _⟩ := h; rfl
  obtain ⟨v, rfl, h⟩ := h
  refine ⟨_, (pss_one (ps_if (pt_not (pt_val (pe_c c_is_integer hr (by decide) (by rfl) (pa_cons (pv 0) (pa_cons pe_int (pa_cons (pe_gc (by rfl) T.c_MOST_NUMBER) pa_nil)))))) (pss_one (ps_raise rfl (takes_of rfl rfl rfl rfl) (pmk_ok T.x_BadGroup (by rfl)))) pss_nil)), ?_⟩
  walk_at "rds"
  rcases h with ⟨i, rfl, h0, h1, q⟩ | ⟨hb, q⟩
  · refine ⟨.int i, 0, 1000000000000, rfl, .inl ⟨i, rfl, ?_⟩⟩
    refine ⟨_, rfl, ?_⟩
    refine ifF (by simp [h0, h1]) ?_
    exact q
  · rcases hb with hb | ⟨i, rfl, hb⟩
    · refine ⟨v, 0, 1000000000000, rfl, .inr ⟨hb, ?_⟩⟩
      refine ⟨_, rfl, ?_⟩
      refine ifT rfl ?_
      exact q
    · refine ⟨.int i, 0, 1000000000000, rfl, .inl ⟨i, rfl, ?_⟩⟩
      refine ⟨_, rfl, ?_⟩
      refine ifT (by rw [decide_eq_false hb]; rfl) ?_
      exact q
theorem c_epoch_of {C_Group : Addr} {C_BadGroup : Addr} (T : Txt K mg C_Group C_BadGroup) : CalX P w K mg base 3 "epoch_of" (spEpoch K C_BadGroup (fun i => i / 5)) := by
  have c_check_number := c_check_number (P := P) (w := w) (base := base) T
  refine calX T.d_epoch_of sc_epoch_of (fun vs H Q E h => ?_) (fun f cdv A outer s H vs Q E hr h => ?_)
  · obtain ⟨v, rfl, _⟩ := h; rfl
  obtain ⟨v, rfl, h⟩ := h
  refine ⟨_, (pss_cons (ps_expr (pe_cX c_check_number hr (by decide) (by rfl) (fun σ => passAt (takes_of rfl rfl rfl rfl) σ) (pa_cons (pv 0) pa_nil)))
      (pss_one (ps_ret (pe_op op_fdiv (pv 0) (pe_gc (by rfl) T.c_SPAN))))), ?_⟩
  walk_at "rds"
  rcases h with ⟨i, rfl, h0, h1, q⟩ | ⟨hb, q⟩
  · refine .inl ⟨i, rfl, h0, h1, ?_⟩
    walk_at "rds"
    exact q
  · exact .inr ⟨hb, q⟩
theorem c_first_tick {C_Group : Addr} {C_BadGroup : Addr} (T : Txt K mg C_Group C_BadGroup) : CalX P w K mg base 3 "first_tick" (spEpoch K C_BadGroup (fun i => i * 5)) := by
  have c_check_number := c_check_number (P := P) (w := w) (base := base) T
  refine calX T.d_first_tick sc_first_tick (fun vs H Q E h => ?_) (fun f cdv A outer s H vs Q E hr h => ?_)
  · obtain ⟨v, rfl, _⟩ := h; rfl
  obtain ⟨v, rfl, h⟩ := h
  refine ⟨_, (pss_cons (ps_expr (pe_cX c_check_number hr (by decide) (by rfl) (fun σ => passAt (takes_of rfl rfl rfl rfl) σ) (pa_cons (pv 0) pa_nil)))
      (pss_one (ps_ret (pe_op op_mul (pv 0) (pe_gc (by rfl) T.c_SPAN))))), ?_⟩
  walk_at "rds"
  rcases h with ⟨i, rfl, h0, h1, q⟩ | ⟨hb, q⟩
  · refine .inl ⟨i, rfl, h0, h1, ?_⟩
    walk_at "rds"
    exact q
  · exact .inr ⟨hb, q⟩
theorem m_Group__leader {C_Group : Addr} {C_BadGroup : Addr} (T : Txt K mg C_Group C_BadGroup) : MetX P w K mg base 3 C_Group "leader" (spLeader K C_Group C_BadGroup) := by
  have c_check_number := c_check_number (P := P) (w := w) (base := base) T
  refine metX T.cl_Group T.me_Group__leader sc_Group__leader (fun vs H Q E h => ?_) (fun f cdv A outer s H vs Q E hr h => ?_)
  · obtain ⟨p, n, v, rfl, _⟩ := h; rfl
  obtain ⟨p, n, v, rfl, ⟨dx, g⟩, hn, h⟩ := h
  refine ⟨_, (pss_cons (ps_expr (pe_cX c_check_number hr (by decide) (by rfl) (fun σ => passAt (takes_of rfl rfl rfl rfl) σ) (pa_cons (pv 1) pa_nil)))
      (pss_cons (ps_if (pt_cmpR op_eq (pv 1) pe_int (nomark _)) (pss_one (ps_ret pe_non)) pss_nil)
      (pss_one (ps_ret (pe_op op_mod (pe_op op_fdiv (pv 1) (pe_gc (by rfl) T.c_STINT)) (pe_fld (pv 0) rfl)))))), ?_⟩
  walk_at "rds"
  rcases h with ⟨i, rfl, h0, h1, q⟩ | ⟨hb, q⟩
  · refine .inl ⟨i, rfl, h0, h1, ?_⟩
    walk_at "rds"
    refine ite2 (fun e => ?_) (fun e => ?_)
    · have e : i = 0 := V.int.inj (of_decide_eq_true e)
      rw [if_pos e] at q
      exact q
    · have e : ¬ i = 0 := fun z => e (decide_eq_true (by rw [z]))
      rw [if_neg e] at q
      walk_at "rds"
      refine ⟨p, C_Group, dx, _, _, rfl, g, T.cl_Group, T.na_Group_machines, gF_m n, ?_⟩
      refine ⟨_, _, rfl, rfl, (by show 0 < 3 * n + 1; omega), ?_⟩
      exact q
  · exact .inr ⟨hb, q⟩
theorem k_Group {C_Group : Addr} {C_BadGroup : Addr} (T : Txt K mg C_Group C_BadGroup) : MakX P w K mg base 2 "Group" C_Group (spInit K C_Group C_BadGroup) := by
  have c_is_integer := c_is_integer (P := P) (w := w) (base := base) T
  refine makX T.g_Group T.mk_Group sc_Group____init__ (fun vs H Q E h => ?_) (fun f cdv A outer s H vs Q E hr h => ?_)
  · obtain ⟨p, dx, v, rfl, _⟩ := h; rfl
  obtain ⟨p, dx, v, rfl, hp, h⟩ := h
  refine ⟨_, (pss_cons (ps_if (pt_not (pt_val (pe_c c_is_integer hr (by decide) (by rfl) (pa_cons (pv 1) (pa_cons pe_int (pa_cons (pe_gc (by rfl) T.c_MOST_FAULTS) pa_nil)))))) (pss_one (ps_raise rfl (takes_of rfl rfl rfl rfl) (pmk_ok T.x_BadGroup (by rfl)))) pss_nil)
      (pss_cons (ps_fld (pv 0) (pv 1) rfl)
      (pss_cons (ps_fld (pv 0) (pe_op op_add (pe_op op_mul pe_int (pv 1)) pe_int) rfl)
      (pss_cons (ps_fld (pv 0) (pe_op op_add (pe_op op_mul pe_int (pv 1)) pe_int) rfl)
      (pss_one (ps_fld (pv 0) (pe_op op_add (pv 1) pe_int) rfl)))))), ?_⟩
  walk_at "rds"
  rcases h with ⟨n, rfl, h0, h1, q⟩ | ⟨hb, q⟩
  · refine ⟨.int n, 0, 10, rfl, .inl ⟨n, rfl, ?_⟩⟩
    refine ⟨_, rfl, ?_⟩
    refine ifF (by simp [h0, h1]) ?_
    walk_at "rds"
    refine ⟨p, _, dx, _, rfl, hp, T.cl_Group, T.na_Group_faults, by decide, ?_⟩
    walk_at "rds"
    refine ⟨p, _, dx, _, rfl, upd_same, T.cl_Group, T.na_Group_machines, (by show 1 < 1000; decide), ?_⟩
    walk_at "rds"
    refine ⟨p, _, dx, _, rfl, upd_same, T.cl_Group, T.na_Group_quorum, (by show 2 < 1000; decide), ?_⟩
    walk_at "rds"
    refine ⟨p, _, dx, _, rfl, upd_same, T.cl_Group, T.na_Group_blocking, (by show 3 < 1000; decide), ?_⟩
    exact q _ (fun b o e hb => by rw [upd_ne hb, upd_ne hb, upd_ne hb, upd_ne hb]; exact e) ⟨dx, upd_same⟩
  · rcases hb with hb | ⟨i, rfl, hb⟩
    · refine ⟨v, 0, 10, rfl, .inr ⟨hb, ?_⟩⟩
      refine ⟨_, rfl, ?_⟩
      refine ifT rfl ?_
      exact q
    · refine ⟨.int i, 0, 10, rfl, .inl ⟨i, rfl, ?_⟩⟩
      refine ⟨_, rfl, ?_⟩
      refine ifT (by rw [decide_eq_false hb]; rfl) ?_
      exact q
theorem m_Group__members {C_Group : Addr} {C_BadGroup : Addr} (T : Txt K mg C_Group C_BadGroup) : Met P w K mg base 1 C_Group "members" (spMembers C_Group) [] := by
  refine met T.cl_Group T.me_Group__members sc_Group__members (fun vs H Q E h => ?_) (fun f cdv A outer s H vs Q E hr h => ?_)
  · obtain ⟨p, n, rfl, _⟩ := h; rfl
  obtain ⟨p, n, rfl, ⟨dx, g⟩, h0, h1, q⟩ := h
  refine ⟨_, (pss_one (ps_ret (pe_listRg (by rfl) (by rfl) T.z_list (prg_1 (by rfl) T.z_range (pe_fld (pv 0) rfl))))), ?_⟩
  walk_at "rds"
  refine ⟨p, _, dx, _, _, rfl, g, T.cl_Group, T.na_Group_machines, gF_m n, ?_⟩
  refine ⟨_, rfl, RgOk.of_le (by decide) (by omega) (by decide) (by omega), fun l hl => q l hl⟩
theorem m_Group__is_member {C_Group : Addr} {C_BadGroup : Addr} (T : Txt K mg C_Group C_BadGroup) : Met P w K mg base 2 C_Group "is_member" (spIsMember K C_Group) [] := by
  have c_is_integer := c_is_integer (P := P) (w := w) (base := base) T
  refine met T.cl_Group T.me_Group__is_member sc_Group__is_member (fun vs H Q E h => ?_) (fun f cdv A outer s H vs Q E hr h => ?_)
  · obtain ⟨p, n, v, rfl, _⟩ := h; rfl
  obtain ⟨p, n, v, rfl, ⟨dx, g⟩, h⟩ := h
  refine ⟨_, (pss_one (ps_ret (pe_c c_is_integer hr (by decide) (by rfl) (pa_cons (pv 1) (pa_cons pe_int (pa_cons (pe_op op_sub (pe_fld (pv 0) rfl) pe_int) pa_nil)))))), ?_⟩
  walk_at "rds"
  refine ⟨p, _, dx, _, _, rfl, g, T.cl_Group, T.na_Group_machines, gF_m n, ?_⟩
  walk_at "rds"
  exact ⟨v, 0, _, rfl, h⟩
end
/-! ### the law's own defs -/
theorem tyx_same {K : PySem.W.Frag} {H H' : Hp} {x : V} {t : Value} (h : TyX K H x t) (s : Same H H') : TyX K H' x t := by
  cases h with
  | base b =>
    cases b with
    | non => exact .base .non
    | bl y => exact .base (.bl y)
    | int y => exact .base (.int y)
    | str y => exact .base (.str y)
    | flt y => exact .base (.flt y)
    | lst e => exact .base (.lst (s _ _ e))
    | frz e => exact .base (.frz (s _ _ e))
    | tup e => exact .base (.tup (s _ _ e))
    | dK e => exact .base (.dK (s _ _ e))
    | dT e => exact .base (.dT (s _ _ e))
    | ins e a b c d f => exact .base (.ins (s _ _ e) a b c d f)
  | byt y => exact .byt y
  | set e => exact .set (s _ _ e)
  | kList e c => exact .kList e c
  | kTuple e c => exact .kTuple e c
  | kDict e c => exact .kDict e c
  | fTuple e => exact .fTuple (s _ _ e)
  | fDict e => exact .fDict (s _ _ e)
theorem Bad.same {K : PySem.W.Frag} {H H' : Hp} {m : Int} {v : V} (h : Bad K H m v) (s : Same H H') : Bad K H' m v := by
  rcases h with ⟨T, ty, k⟩ | h
  · exact .inl ⟨T, tyx_same ty s, k⟩
  · exact .inr h
def spTruth : Sp := fun vs H Q _ => ∃ (a : Bool), vs = [.bl a, .bl a] ∧ Q (.bl true) H
def spIs : Sp := fun vs H Q _ => ∃ (i : Int), vs = [.int i, .int i] ∧ Q (.bl true) H
/-- what the odd value may be -/
def OddV (H : Hp) (v : V) : Prop := (∃ i, v = .int i ∧ ¬ (0 ≤ i ∧ i ≤ 10)) ∨ (∃ b, v = .bl b) ∨ v = .non ∨ (∃ z, v = .str z) ∨ (∃ t, v = .ref t ∧ H t = some (.tup [.int 1]))
theorem OddV.mod {A : Addr} {D : Addr} {H H' : Hp} {v : V} (h : OddV H v) (d : Dr H D A) (s : Mod A H H') : OddV H' v := by
  rcases h with h | h | h | h | ⟨t, rfl, h⟩
  · exact .inl h
  · exact .inr (.inl h)
  · exact .inr (.inr (.inl h))
  · exact .inr (.inr (.inr (.inl h)))
  · obtain ⟨_, _, _, _, e, _⟩ := d
    exact .inr (.inr (.inr (.inr ⟨t, rfl, s _ _ (ne_of h e (by intro z; cases z)) h⟩)))
theorem OddV.bad {K : PySem.W.Frag} {H : Hp} {v : V} (h : OddV H v) : Bad K H 10 v := by
  rcases h with ⟨i, rfl, h⟩ | ⟨b, rfl⟩ | rfl | ⟨z, rfl⟩ | ⟨t, rfl, h⟩
  · exact .inr ⟨i, rfl, h⟩
  · exact .inl ⟨_, .base (.bl _), .inr ⟨by decide +kernel, by decide +kernel⟩⟩
  · exact .inl ⟨_, .base .non, .inl (by decide +kernel)⟩
  · exact .inl ⟨_, .base (.str _), .inl (by decide +kernel)⟩
  · exact .inl ⟨_, .base (.tup h), .inl (by decide +kernel)⟩
def spOdd : Sp := fun vs H Q _ => ∃ (n : Int), vs = [.int n] ∧ 0 ≤ n ∧ n < 1000 ∧ ∀ H' v, Same H H' → OddV H' v → Q v H'
def spRefused (K : PySem.W.Frag) : Sp := fun vs H Q _ => ∃ (k : Nat) (v : V), vs = [.int k, v] ∧ k < 4 ∧ (k = 0 → Bad K H 10 v) ∧ (k ≠ 0 → Bad K H 1000000000000 v) ∧ ∀ H', Same H H' → Q (.bl true) H'
/-- wrong says True just where v is bad for the k-th call -/
def spWrong (K : PySem.W.Frag) : Sp := fun vs H Q _ => ∃ (k : Nat) (v : V), vs = [.int k, v] ∧ OddV H v ∧ ((k = 0 ∨ Bad K H 1000000000000 v) → Q (.bl true) H) ∧ (¬ k = 0 → Q (.bl false) H)
section
variable {P : Program} {w : World} {K : PySem.W.Frag} {mg : Str → Option Value} {base : Heap}
theorem c__law_truth {C_Group : Addr} {C_BadGroup : Addr} (T : Txt K mg C_Group C_BadGroup) : Cal P w K mg base 1 "_law_truth" spTruth [] := by
  refine cal T.d__law_truth sc__law_truth (fun vs H Q E h => ?_) (fun f cdv A outer s H vs Q E hr h => ?_)
  · obtain ⟨a, rfl, _⟩ := h; rfl
  obtain ⟨a, rfl, q⟩ := h
  refine ⟨_, (pss_one (ps_ret (pe_and (pe_callB (kisi (K := K)) (by rfl) T.z_isinstance (by decide +kernel) (pa_cons (pv 0) (pa_cons (pe_bltn (v := .ty "bool") (by rfl) T.z_bool (by decide +kernel) rfl) pa_nil))) (pe_one (pe_cmpR op_eq (pv 0) (pv 1) (nomark _)))))), ?_⟩
  walk_at "rds"
  walk_at "isi"
  walk_at "rds"
  rw [decide_eq_true rfl]
  exact q
theorem c__law_is {C_Group : Addr} {C_BadGroup : Addr} (T : Txt K mg C_Group C_BadGroup) : Cal P w K mg base 1 "_law_is" spIs [] := by
  refine cal T.d__law_is sc__law_is (fun vs H Q E h => ?_) (fun f cdv A outer s H vs Q E hr h => ?_)
  · obtain ⟨a, rfl, _⟩ := h; rfl
  obtain ⟨a, rfl, q⟩ := h
  refine ⟨_, (pss_one (ps_ret (pe_and (pe_callB (kisi (K := K)) (by rfl) T.z_isinstance (by decide +kernel) (pa_cons (pv 0) (pa_cons (pe_bltn (v := .ty "int") (by rfl) T.z_int (by decide +kernel) rfl) pa_nil))) (pe_and (pe_not (pe_callB (kisi (K := K)) (by rfl) T.z_isinstance (by decide +kernel) (pa_cons (pv 0) (pa_cons (pe_bltn (v := .ty "bool") (by rfl) T.z_bool (by decide +kernel) rfl) pa_nil)))) (pe_one (pe_cmpR op_eq (pv 0) (pv 1) (nomark _))))))), ?_⟩
  walk_at "rds"
  walk_at "isi"
  walk_at "rds"
  walk_at "isi"
  walk_at "rds"
  rw [decide_eq_true rfl]
  exact q
theorem c__law_odd {C_Group : Addr} {C_BadGroup : Addr} (T : Txt K mg C_Group C_BadGroup) : Cal P w K mg base 1 "_law_odd" spOdd [] := by
  refine cal T.d__law_odd sc__law_odd (fun vs H Q E h => ?_) (fun f cdv A outer s H vs Q E hr h => ?_)
  · obtain ⟨n, rfl, _⟩ := h; rfl
  obtain ⟨n, rfl, h0, h1, q⟩ := h
  refine ⟨_, (pss_cons (ps_set (i := 1) sc__law_odd.nd rfl (Or.inl rfl) (pe_lst (pa_cons (pe_un un_neg pe_int) (pa_cons pe_int (pa_cons pe_int (pa_cons pe_bl (pa_cons pe_bl (pa_cons pe_non (pa_cons pe_str (pa_cons (pe_tup (pa_cons pe_int pa_nil)) (pa_cons (pe_un un_neg (pe_op op_pow pe_int pe_int)) (pa_cons (pe_op op_pow pe_int pe_int) (pa_cons (pe_op op_add pe_int (pv 0)) (pa_cons (pe_op op_sub (pe_un un_neg pe_int) (pv 0)) pa_nil))))))))))))))
      (pss_one (ps_ret (pe_ix (kixl (K := K)) (pv 1) (pe_op op_mod (pe_callTy call_int1 (by rfl) T.z_int (by decide +kernel) (pa_cons (pv 0) pa_nil)) pe_int) (fun _ _ => rfl))))), ?_⟩
  walk_at "rds"
  intro t nt
  walk_at "rds"
  intro p np
  have ntp : t ≠ p := ne_of_none upd_same np
  walk_at "rds"
  have key : ∀ j : Int, 0 ≤ j → j < 12 → ∃ v, atI [V.int (-1), .int 11, .int 12, .bl true, .bl false, .non, .str "1", .ref t, .int (-(10 ^ Int.toNat 20)), .int (10 ^ Int.toNat 20), .int (13 + n), .int (-1 - n)] j = some v ∧ (∀ H' : Hp, H' t = some (.tup [.int 1]) → OddV H' v) := by
    intro j j0 j1
    have : j = 0 ∨ j = 1 ∨ j = 2 ∨ j = 3 ∨ j = 4 ∨ j = 5 ∨ j = 6 ∨ j = 7 ∨ j = 8 ∨ j = 9 ∨ j = 10 ∨ j = 11 := by omega
    rcases this with rfl | rfl | rfl | rfl | rfl | rfl | rfl | rfl | rfl | rfl | rfl | rfl
    · exact ⟨_, rfl, fun _ _ => .inl ⟨_, rfl, by decide⟩⟩
    · exact ⟨_, rfl, fun _ _ => .inl ⟨_, rfl, by decide⟩⟩
    · exact ⟨_, rfl, fun _ _ => .inl ⟨_, rfl, by decide⟩⟩
    · exact ⟨_, rfl, fun _ _ => .inr (.inl ⟨_, rfl⟩)⟩
    · exact ⟨_, rfl, fun _ _ => .inr (.inl ⟨_, rfl⟩)⟩
    · exact ⟨_, rfl, fun _ _ => .inr (.inr (.inl rfl))⟩
    · exact ⟨_, rfl, fun _ _ => .inr (.inr (.inr (.inl ⟨_, rfl⟩)))⟩
    · exact ⟨_, rfl, fun _ h => .inr (.inr (.inr (.inr ⟨_, rfl, h⟩)))⟩
    · exact ⟨_, rfl, fun _ _ => .inl ⟨_, rfl, by decide⟩⟩
    · exact ⟨_, rfl, fun _ _ => .inl ⟨_, rfl, by decide⟩⟩
    · exact ⟨_, rfl, fun _ _ => .inl ⟨_, rfl, by omega⟩⟩
    · exact ⟨_, rfl, fun _ _ => .inl ⟨_, rfl, by omega⟩⟩
  obtain ⟨v, hat, hv⟩ := key (n % 12) (by omega) (by omega)
  refine ⟨p, _, n % 12, v, rfl, rfl, sq upd_same, hat, ?_⟩
  exact q _ v ((same_upd nt).trans (same_upd np)) (hv _ (by rw [upd_ne ntp]; exact upd_same))
theorem c__law_refused {C_Group : Addr} {C_BadGroup : Addr} (T : Txt K mg C_Group C_BadGroup) : Cal P w K mg base 4 "_law_refused" (spRefused K) [] := by
  have c_epoch_of := c_epoch_of (P := P) (w := w) (base := base) T
  have c_first_tick := c_first_tick (P := P) (w := w) (base := base) T
  have k_Group := k_Group (P := P) (w := w) (base := base) T
  have m_Group__leader := m_Group__leader (P := P) (w := w) (base := base) T
  refine cal T.d__law_refused sc__law_refused (fun vs H Q E h => ?_) (fun f cdv A outer s H vs Q E hr h => ?_)
  · obtain ⟨k, v, rfl, _⟩ := h; rfl
  obtain ⟨k, v, rfl, hk, hb0, hb, q⟩ := h
  refine ⟨_, (pss_cons (ps_try_only (Wout := fun _ _ _ _ => False) rfl rfl ⟨by rfl, by decide, .inl T.x_BadGroup.g⟩ takes0 (fun W pn xe tk _ => (pss_cons (ps_if (pt_cmpR op_eq (pv 0) pe_int (nomark _)) (pss_one (ps_expr (pe_mkX k_Group hr (by decide) (by rfl) (fun σ => passAt tk σ) (pa_cons (pv 1) pa_nil)))) pss_nil)
      (pss_cons (ps_if (pt_cmpR op_eq (pv 0) pe_int (nomark _)) (pss_one (ps_expr (pe_mtX m_Group__leader hr (by decide) (fun σ => passAt tk σ) (pe_mkX k_Group hr (by decide) (by rfl) (fun σ => passAt tk σ) (pa_cons pe_int pa_nil)) (pa_cons (pv 1) pa_nil)))) pss_nil)
      (pss_cons (ps_if (pt_cmpR op_eq (pv 0) pe_int (nomark _)) (pss_one (ps_expr (pe_cX c_epoch_of hr (by decide) (by rfl) (fun σ => passAt tk σ) (pa_cons (pv 1) pa_nil)))) pss_nil)
      (pss_one (ps_if (pt_cmpR op_eq (pv 0) pe_int (nomark _)) (pss_one (ps_expr (pe_cX c_first_tick hr (by decide) (by rfl) (fun σ => passAt tk σ) (pa_cons (pv 1) pa_nil)))) pss_nil)))))) (fun a oe cls d pn _ _ => (pss_one (ps_ret pe_bl))))
      (pss_one (ps_ret pe_bl))), ?_⟩
  have no : ∀ {i j : Int}, i ≠ j → decide (V.int i = V.int j) = false := fun h => decide_eq_false fun z => h (V.int.inj z)
  have caught : ∀ {b : Bool} {Pr : Prop}, b = true → Pr → (b = true → Pr) := fun _ h _ => h
  walk_at "rds"
  match k, hk with
  | 0, _ =>
    refine ifT (decide_eq_true rfl) ?_
    walk_at "rds"
    intro x dx nx ndx nex
    refine ⟨x, dx, v, rfl, upd_same, .inr ⟨(hb0 rfl).same ?_, ?_⟩⟩
    · exact (same_upd ndx).trans (same_upd (by rw [upd_ne nex.symm]; exact nx))
    · refine ⟨true, T.x_BadGroup.exm T.u_BadGroup_BadGroup, fun _ a ha => ?_, fun z => nomatch z⟩
      exact q _ ((same_upd ndx).trans (same_upd (by rw [upd_ne nex.symm]; exact nx)))
  | 1, _ =>
    refine ifF (no (i := 1) (j := 0) (by decide)) ?_
    walk_at "rds"
    refine ifT (decide_eq_true rfl) ?_
    walk_at "rds"
    intro x dx nx ndx nex
    refine ⟨x, dx, .int 1, rfl, upd_same, .inl ⟨1, rfl, by decide, by decide, fun H2 kp gr => ?_⟩⟩
    have sm : Same H H2 := Same.made nx ndx kp
    obtain ⟨dx', g⟩ := id gr
    refine ⟨rfl, x, dx', _, rfl, g, rfl, ?_⟩
    refine ⟨_, rfl, ?_⟩
    refine ⟨x, 1, v, rfl, gr, by decide, .inr ⟨(hb (by decide)).same sm, ?_⟩⟩
    refine ⟨true, T.x_BadGroup.exm T.u_BadGroup_BadGroup, fun _ a ha => ?_, fun z => nomatch z⟩
    exact q _ sm
  | 2, _ =>
    refine ifF (no (i := 2) (j := 0) (by decide)) ?_
    walk_at "rds"
    refine .inr ⟨hb (by decide), ?_⟩
    refine ⟨true, T.x_BadGroup.exm T.u_BadGroup_BadGroup, fun _ a ha => ?_, fun z => nomatch z⟩
    exact q _ (Same.refl H)
  | 3, _ =>
    refine ifF (no (i := 3) (j := 0) (by decide)) ?_
    walk_at "rds"
    refine .inr ⟨hb (by decide), ?_⟩
    refine ⟨true, T.x_BadGroup.exm T.u_BadGroup_BadGroup, fun _ a ha => ?_, fun z => nomatch z⟩
    exact q _ (Same.refl H)
  | k + 4, hk => omega
theorem c__law_wrong {C_Group : Addr} {C_BadGroup : Addr} (T : Txt K mg C_Group C_BadGroup) : Cal P w K mg base 1 "_law_wrong" (spWrong K) [] := by
  refine cal T.d__law_wrong sc__law_wrong (fun vs H Q E h => ?_) (fun f cdv A outer s H vs Q E hr h => ?_)
  · obtain ⟨k, v, rfl, _⟩ := h; rfl
  obtain ⟨k, v, rfl, ho, qt, qf⟩ := h
  refine ⟨_, (pss_cons (ps_if (PW.pt (pw_or (pt_cmpR op_eq (pv 0) pe_int (nomark _)) (pw_or (pt_not (pt_val (pe_callB (kisi (K := K)) (by rfl) T.z_isinstance (by decide +kernel) (pa_cons (pv 1) (pa_cons (pe_bltn (v := .ty "int") (by rfl) T.z_int (by decide +kernel) rfl) pa_nil))))) (pw_or1 (pt_val (pe_callB (kisi (K := K)) (by rfl) T.z_isinstance (by decide +kernel) (pa_cons (pv 1) (pa_cons (pe_bltn (v := .ty "bool") (by rfl) T.z_bool (by decide +kernel) rfl) pa_nil)))))))) (pss_one (ps_ret pe_bl)) pss_nil)
      (pss_one (ps_ret (pe_or (pe_cmpR op_lt (pv 1) pe_int (nomark _)) (pe_one (pe_cmpR op_gt (pv 1) (pe_op op_pow pe_int pe_int) (nomark _))))))), ?_⟩
  walk_at "rds"
  refine ite2 (fun e => ?_) (fun e => ?_)
  · have e : (k : Int) = 0 := V.int.inj (of_decide_eq_true e)
    walk_at "rds"
    exact qt (.inl (by omega))
  · have e : ¬ k = 0 := fun z => e (decide_eq_true (by rw [z]; rfl))
    have qf := qf e
    walk_at "rds"
    rcases ho with ⟨i, rfl, h⟩ | ⟨b, rfl⟩ | rfl | ⟨z, rfl⟩ | ⟨t, rfl, h⟩
    · walk_at "isi"
      walk_at "rds"
      walk_at "isi"
      walk_at "rds"
      refine ite2 (fun e2 => ?_) (fun e2 => ?_)
      · have e2 := of_decide_eq_true e2
        exact qt (.inr (.inr ⟨i, rfl, by omega⟩))
      · have e2 : ¬ i < 0 := fun z => e2 (decide_eq_true z)
        walk_at "rds"
        have e12 : (10 : Int) ^ (12 : Int).toNat = 1000000000000 := by decide
        show Q (.bl (decide ((10 : Int) ^ (12 : Int).toNat < i))) H
        rw [e12]
        by_cases h2 : (1000000000000 : Int) < i
        · rw [decide_eq_true h2]
          exact qt (.inr (.inr ⟨i, rfl, by omega⟩))
        · rw [decide_eq_false h2]
          exact qf
    · walk_at "isi"
      walk_at "rds"
      walk_at "isi"
      walk_at "rds"
      exact qt (.inr (.inl ⟨_, .base (.bl _), .inr ⟨by decide +kernel, by decide +kernel⟩⟩))
    · walk_at "isi"
      walk_at "rds"
      exact qt (.inr (.inl ⟨_, .base .non, .inl (by decide +kernel)⟩))
    · walk_at "isi"
      walk_at "rds"
      exact qt (.inr (.inl ⟨_, .base (.str _), .inl (by decide +kernel)⟩))
    · walk_at "isi"
      walk_at "rds"
      exact qt (.inr (.inl ⟨_, .base (.tup h), .inl (by decide +kernel)⟩))
theorem c__law_members {C_Group : Addr} {C_BadGroup : Addr} (T : Txt K mg C_Group C_BadGroup) : Cal P w K mg base 2 "_law_members" (fun vs H Q _ => ∃ (p : Addr) (n : Int), vs = [.ref p, .int (3 * n + 1)] ∧ GrAt C_Group H p n ∧ 0 ≤ n ∧ n ≤ 10 ∧ ∀ H', Same H H' → Q (.bl true) H') [] := by
  have c__law_is := c__law_is (P := P) (w := w) (base := base) T
  have m_Group__members := m_Group__members (P := P) (w := w) (base := base) T
  refine cal T.d__law_members sc__law_members (fun vs H Q E h => ?_) (fun f cdv A outer s H vs Q E hr h => ?_)
  · obtain ⟨p, n, rfl, _⟩ := h; rfl
  obtain ⟨p, n, rfl, gr, h0, h1, q⟩ := h
  refine ⟨_, (pss_cons (ps_set (i := 2) sc__law_members.nd rfl (Or.inl rfl) (pe_mt0 m_Group__members hr (by decide) (pv 0)))
      (pss_cons (ps_if (PW.pt (pw_or (pt_not (pt_val (pe_callB (kisi (K := K)) (by rfl) T.z_isinstance (by decide +kernel) (pa_cons (pv 2) (pa_cons (pe_bltn (v := .ty "list") (by rfl) T.z_list (by decide +kernel) rfl) pa_nil))))) (pw_or1 (pt_cmpR op_ne (pe_callB (klen (K := K)) (by rfl) T.z_len (by decide +kernel) (pa_cons (pv 2) pa_nil)) (pv 1) (nomark _))))) (pss_one (ps_ret pe_bl)) pss_nil)
      (pss_cons (ps_for PassesOwn.never rfl (pi_range1 (by rfl) T.z_range (pa_cons (pv 1) pa_nil)) (pg_name (i := 3) sc__law_members.nd rfl (Or.inl rfl)) (pss_one (ps_if (pt_not (pt_val (pe_c c__law_is hr (by decide) (by rfl) (pa_cons (pe_ix (kixl (K := K)) (pv 2) (pv 3) (fun _ _ => rfl)) (pa_cons (pv 3) pa_nil))))) (pss_one (ps_ret pe_bl)) pss_nil)))
      (pss_cons (ps_expr (pe_bm PySem.F.plainAttrs_list PySem.F.slot_list_append PySem.F.type_list_append mt_append (pv 2) (pa_cons (pe_un un_neg pe_int) pa_nil)))
      (pss_one (ps_ret (pe_cmpR op_eq (pe_callB (klen (K := K)) (by rfl) T.z_len (by decide +kernel) (pa_cons (pe_mt0 m_Group__members hr (by decide) (pv 0)) pa_nil)) (pv 1) (nomark _)))))))), ?_⟩
  obtain ⟨dx, g⟩ := id gr
  walk_at "rds"
  refine ⟨p, dx, _, rfl, g, rfl, ?_⟩
  refine ⟨p, n, rfl, gr, h0, h1, fun M nM => ?_⟩
  have eM : (upd H M (.lst (rgV 0 (3 * n + 1)))) M = some (.lst (rgV 0 (3 * n + 1))) := upd_same
  have sm := same_upd (o := .lst (rgV 0 (3 * n + 1))) nM
  have lM : (rgV 0 (3 * n + 1)).length = (3 * n + 1).toNat := by rw [rgV_length]; omega
  generalize upd H M (.lst (rgV 0 (3 * n + 1))) = H2 at eM sm
  walk_at "rds"
  walk_at "isi"
  walk_at "rds"
  refine ⟨M, _, rfl, .inl (sq eM), ?_⟩
  walk_at "rds"
  refine ifF (by show (!decide (V.int _ = V.int _)) = false; rw [decide_eq_true (by rw [lM]; congr 1; omega)]; rfl) ?_
  walk_at "rds"
  refine for_it walk_range (Pv := fun i σ H' => H' = H2 ∧ ∃ y, σ = [some (.ref p), some (.int (3 * n + 1)), some (.ref M), y]) ⟨rfl, _, rfl⟩ (fun _ _ _ _ _ => trivial) (fun i x σ H3 H4 hi hp hy => ?_) (fun σ H3 hp => ?_)
  · obtain ⟨rfl, y, rfl⟩ := hp
    obtain ⟨rfl, rfl⟩ := hy
    have gi : (rgV 0 (3 * n + 1))[i]? = some (.int (0 + (i : Int))) := by
      unfold rgV
      rw [List.getElem?_map, List.getElem?_range (by omega)]; rfl
    have e0 : (0 : Int) + (i : Int) = (i : Int) := by omega
    walk_at "rds"
    refine ⟨M, _, (i : Int), _, rfl, by show V.int (0 + (i : Int)) = V.int i; rw [e0], sq eM, atI_nat gi, ?_⟩
    walk_at "rds"
    exact ⟨rfl, _, rfl⟩
  · obtain ⟨rfl, y, rfl⟩ := hp
    walk_at "rds"
    refine ⟨.inl ⟨rfl, _, sq eM⟩, ?_⟩
    walk_at "rds"
    refine ⟨_, _, _, rfl, rfl, eM, by rw [lM]; exact sz1000' (by omega), ?_⟩
    have s2 : Same H (upd H3 M (.lst (rgV 0 (3 * n + 1) ++ [.int (-1)]))) := same_mut sm nM
    walk_at "rds"
    have g2 := s2 _ _ g
    refine ⟨p, dx, _, rfl, g2, rfl, ?_⟩
    refine ⟨p, n, rfl, ⟨dx, g2⟩, h0, h1, fun M2 nM2 => ?_⟩
    walk_at "rds"
    refine ⟨M2, _, rfl, .inl (sq upd_same), ?_⟩
    walk_at "rds"
    have e : ((rgV 0 (3 * n + 1)).length : Int) = 3 * n + 1 := by rw [lM]; omega
    rw [e, decide_eq_true rfl]
    exact q _ (s2.trans (same_upd nM2))
end
def spGroup (C : Addr) : Sp := fun vs H Q _ => ∃ (p D A : Addr) (n : Int), vs = [.ref p, .int n, .ref D, .ref A] ∧ GrAt C H p n ∧ 0 ≤ n ∧ n ≤ 10 ∧ Dr H D A ∧ ∀ H', Mod A H H' → Dr H' D A → Q (.bl true) H'
def spTimes : Sp := fun vs H Q _ => ∃ (D A : Addr), vs = [.ref D, .ref A] ∧ Dr H D A ∧ ∀ H', Mod A H H' → Dr H' D A → Q (.bl true) H'
theorem ins_neA {C D A p dx : Addr} {fs : List (Str × V)} {H : Hp} (d : Dr H D A) (h : H p = some (.ins C dx fs)) : p ≠ A := by
  obtain ⟨_, _, _, _, e, _⟩ := d
  exact ne_of h e (by intro z; cases z)
section
variable {P : Program} {w : World} {K : PySem.W.Frag} {mg : Str → Option Value} {base : Heap}
theorem c__law_times {C_Group : Addr} {C_BadGroup : Addr} (T : Txt K mg C_Group C_BadGroup) : Cal P w K mg base 4 "_law_times" spTimes [] := by
  have c__law_next := c__law_next (P := P) (w := w) (base := base) T
  have c__law_big := c__law_big (P := P) (w := w) (base := base) T
  have c__law_is := c__law_is (P := P) (w := w) (base := base) T
  have c_epoch_of := c_epoch_of (P := P) (w := w) (base := base) T
  have c_first_tick := c_first_tick (P := P) (w := w) (base := base) T
  refine cal T.d__law_times sc__law_times (fun vs H Q E h => ?_) (fun f cdv A' outer s H vs Q E hr h => ?_)
  · obtain ⟨D, A, rfl, _⟩ := h; rfl
  obtain ⟨D, A, rfl, dr, q⟩ := h
  refine ⟨_, (pss_cons (ps_for PassesOwn.never rfl (pi_list (pe_lst (pa_cons (pe_c c__law_next hr (by decide) (by rfl) (pa_cons (pv 0) (pa_cons (pv 1) (pa_cons pe_int pa_nil)))) (pa_cons (pe_c c__law_big hr (by decide) (by rfl) (pa_cons (pv 0) (pa_cons (pv 1) (pa_cons (pe_op op_pow pe_int pe_int) pa_nil)))) (pa_cons (pe_op op_pow pe_int pe_int) (pa_cons pe_int pa_nil)))))) (pg_name (i := 2) sc__law_times.nd rfl (Or.inl rfl)) (pss_one (ps_if (PW.pt (pw_or (pt_not (pt_val (pe_c c__law_is hr (by decide) (by rfl) (pa_cons (pe_cX c_epoch_of hr (by decide) (by rfl) no_pass (pa_cons (pv 2) pa_nil)) (pa_cons (pe_op op_fdiv (pv 2) pe_int) pa_nil))))) (pw_or1 (pt_not (pt_val (pe_c c__law_is hr (by decide) (by rfl) (pa_cons (pe_cX c_first_tick hr (by decide) (by rfl) no_pass (pa_cons (pv 2) pa_nil)) (pa_cons (pe_op op_mul (pv 2) pe_int) pa_nil)))))))) (pss_one (ps_ret pe_bl)) pss_nil)))
      (pss_one (ps_ret pe_bl))), ?_⟩
  have e12 : (10 : Int) ^ (12 : Int).toNat = 1000000000000 := by decide
  walk_at "rds"
  refine ⟨D, A, 1000, rfl, dr, by decide, fun H1 r1 r10 r11 md1 dr1 => ?_⟩
  walk_at "rds"
  refine ⟨D, A, _, rfl, dr1, by decide, fun H2 r2 r20 r21 md2 dr2 => ?_⟩
  rw [e12] at r21
  walk_at "rds"
  intro p np
  walk_at "rds"
  have md3 : Mod A H (upd H2 p (.lst [.int r1, .int r2, .int (10 ^ Int.toNat 12), .int 0])) := (md1.trans md2).new np
  have dr3 := dr2.new (o := .lst [.int r1, .int r2, .int (10 ^ Int.toNat 12), .int 0]) np
  have ep : (upd H2 p (.lst [.int r1, .int r2, .int (10 ^ Int.toNat 12), .int 0])) p = some (.lst [.int r1, .int r2, .int (10 ^ Int.toNat 12), .int 0]) := upd_same
  generalize upd H2 p (.lst [.int r1, .int r2, .int (10 ^ Int.toNat 12), .int 0]) = H3 at md3 dr3 ep
  refine ⟨⟨_, sq ep⟩, ?_⟩
  refine for_it (walk_list (K := K) (a := p) (xs := [.int r1, .int r2, .int (10 ^ Int.toNat 12), .int 0])) (Pv := fun i σ H' => H' = H3 ∧ ∃ y, σ = [some (.ref D), some (.ref A), y]) ⟨rfl, _, rfl⟩ (fun i σ H' _ h => by rw [h.1]; exact sq ep) (fun i x σ H6 H7 hi' hp hy => ?_) (fun σ H6 hp => ?_)
  · obtain ⟨rfl, y, rfl⟩ := hp
    obtain ⟨rfl, gx⟩ := hy
    have hx : ∃ v : Int, x = .int v ∧ 0 ≤ v ∧ v ≤ 1000000000000 := by
      have := List.mem_of_getElem? gx
      simp only [List.mem_cons, List.not_mem_nil, or_false] at this
      rcases this with rfl | rfl | rfl | rfl
      · exact ⟨_, rfl, by omega, by omega⟩
      · exact ⟨_, rfl, by omega, by omega⟩
      · exact ⟨_, rfl, by decide, by decide⟩
      · exact ⟨_, rfl, by decide, by decide⟩
    obtain ⟨v, rfl, v0, v1⟩ := hx
    walk_at "rds"
    refine .inl ⟨v, rfl, v0, v1, ?_⟩
    walk_at "rds"
    refine .inl ⟨v, rfl, v0, v1, ?_⟩
    walk_at "rds"
    exact ⟨rfl, _, rfl⟩
  · obtain ⟨rfl, y, rfl⟩ := hp
    walk_at "rds"
    exact q _ md3 dr3
theorem c__law_group {C_Group : Addr} {C_BadGroup : Addr} (T : Txt K mg C_Group C_BadGroup) : Cal P w K mg base 4 "_law_group" (spGroup C_Group) [] := by
  have c__law_next := c__law_next (P := P) (w := w) (base := base) T
  have c__law_big := c__law_big (P := P) (w := w) (base := base) T
  have c__law_is := c__law_is (P := P) (w := w) (base := base) T
  have c__law_truth := c__law_truth (P := P) (w := w) (base := base) T
  have c__law_members := c__law_members (P := P) (w := w) (base := base) T
  have m_Group__is_member := m_Group__is_member (P := P) (w := w) (base := base) T
  have m_Group__leader := m_Group__leader (P := P) (w := w) (base := base) T
  refine cal T.d__law_group sc__law_group (fun vs H Q E h => ?_) (fun f cdv A' outer s H vs Q E hr h => ?_)
  · obtain ⟨p, D, A, n, rfl, _⟩ := h; rfl
  obtain ⟨p, D, A, n, rfl, gr, n0, n1, dr, q⟩ := h
  refine ⟨_, (pss_cons (ps_set (i := 4) sc__law_group.nd rfl (Or.inl rfl) (pe_op op_add (pe_op op_mul pe_int (pv 1)) pe_int))
      (pss_cons (ps_if (PW.pt (pw_or (pt_not (pt_val (pe_c c__law_is hr (by decide) (by rfl) (pa_cons (pe_fld (pv 0) rfl) (pa_cons (pv 1) pa_nil))))) (pw_or1 (pt_not (pt_val (pe_c c__law_is hr (by decide) (by rfl) (pa_cons (pe_fld (pv 0) rfl) (pa_cons (pv 4) pa_nil)))))))) (pss_one (ps_ret pe_bl)) pss_nil)
      (pss_cons (ps_if (PW.pt (pw_or (pt_not (pt_val (pe_c c__law_is hr (by decide) (by rfl) (pa_cons (pe_fld (pv 0) rfl) (pa_cons (pe_op op_add (pe_op op_mul pe_int (pv 1)) pe_int) pa_nil))))) (pw_or1 (pt_not (pt_val (pe_c c__law_is hr (by decide) (by rfl) (pa_cons (pe_fld (pv 0) rfl) (pa_cons (pe_op op_add (pv 1) pe_int) pa_nil)))))))) (pss_one (ps_ret pe_bl)) pss_nil)
      (pss_cons (ps_if (pt_not (pt_val (pe_c c__law_members hr (by decide) (by rfl) (pa_cons (pv 0) (pa_cons (pv 4) pa_nil))))) (pss_one (ps_ret pe_bl)) pss_nil)
      (pss_cons (ps_set (i := 5) sc__law_group.nd rfl (Or.inl rfl) (pe_c c__law_next hr (by decide) (by rfl) (pa_cons (pv 2) (pa_cons (pv 3) (pa_cons pe_int pa_nil)))))
      (pss_cons (ps_for PassesOwn.never rfl (pi_list (pe_lst (pa_cons (pv 5) (pa_cons (pv 4) (pa_cons (pe_op op_sub (pv 4) pe_int) (pa_cons pe_int (pa_cons (pe_un un_neg pe_int) (pa_cons (pe_op op_sub (pe_un un_neg pe_int) (pv 5)) (pa_cons (pe_op op_add (pv 4) (pe_c c__law_big hr (by decide) (by rfl) (pa_cons (pv 2) (pa_cons (pv 3) (pa_cons (pe_op op_pow pe_int pe_int) pa_nil))))) pa_nil))))))))) (pg_name (i := 6) sc__law_group.nd rfl (Or.inl rfl)) (pss_one (ps_if (pt_not (pt_val (pe_c c__law_truth hr (by decide) (by rfl) (pa_cons (pe_mt m_Group__is_member hr (by decide) (pv 0) (pa_cons (pv 6) pa_nil)) (pa_cons (pe_chain op_le op_lt pe_int (pv 6) (pv 4)) pa_nil))))) (pss_one (ps_ret pe_bl)) pss_nil)))
      (pss_cons (ps_for PassesOwn.never rfl (pi_list (pe_lst (pa_cons pe_bl (pa_cons pe_bl (pa_cons pe_non (pa_cons pe_str (pa_cons (pe_tup (pa_cons pe_int pa_nil)) pa_nil))))))) (pg_name (i := 6) sc__law_group.nd rfl (Or.inl rfl)) (pss_one (ps_if (pt_not (pt_val (pe_c c__law_truth hr (by decide) (by rfl) (pa_cons (pe_mt m_Group__is_member hr (by decide) (pv 0) (pa_cons (pv 6) pa_nil)) (pa_cons pe_bl pa_nil))))) (pss_one (ps_ret pe_bl)) pss_nil)))
      (pss_cons (ps_for PassesOwn.never rfl (pi_list (pe_lst (pa_cons pe_int (pa_cons (pe_op op_add pe_int (pv 5)) (pa_cons (pe_c c__law_big hr (by decide) (by rfl) (pa_cons (pv 2) (pa_cons (pv 3) (pa_cons (pe_op op_pow pe_int pe_int) pa_nil)))) (pa_cons (pe_op op_pow pe_int pe_int) (pa_cons pe_int (pa_cons pe_int pa_nil)))))))) (pg_name (i := 7) sc__law_group.nd rfl (Or.inl rfl)) (pss_cons (ps_set (i := 8) sc__law_group.nd rfl (Or.inl rfl) (pe_mtX m_Group__leader hr (by decide) no_pass (pv 0) (pa_cons (pv 7) pa_nil)))
      (pss_cons (ps_if (PW.pt (pw_and (pt_cmpR op_eq (pv 7) pe_int (nomark _)) (pw_and1 (pt_cmpR op_notN (pv 8) pe_non (nomark _))))) (pss_one (ps_ret pe_bl)) pss_nil)
      (pss_one (ps_if (PW.pt (pw_and (pt_cmpR op_gt (pv 7) pe_int (nomark _)) (pw_and1 (pt_not (pt_val (pe_c c__law_is hr (by decide) (by rfl) (pa_cons (pv 8) (pa_cons (pe_op op_mod (pe_callTy call_int1 (by rfl) T.z_int (by decide +kernel) (pa_cons (pe_op op_fdiv (pv 7) pe_int) pa_nil)) (pv 4)) pa_nil)))))))) (pss_one (ps_ret pe_bl)) pss_nil)))))
      (pss_one (ps_ret pe_bl)))))))))), ?_⟩
  have e12 : (10 : Int) ^ (12 : Int).toNat = 1000000000000 := by decide
  obtain ⟨dx, g⟩ := id gr
  have npA := ins_neA dr g
  walk_at "rds"
  refine ⟨p, C_Group, dx, _, _, rfl, g, T.cl_Group, T.na_Group_faults, gF_f n, ?_⟩
  walk_at "rds"
  refine ⟨p, C_Group, dx, _, _, rfl, g, T.cl_Group, T.na_Group_machines, gF_m n, ?_⟩
  walk_at "rds"
  refine ⟨p, C_Group, dx, _, _, rfl, g, T.cl_Group, T.na_Group_quorum, gF_q n, ?_⟩
  walk_at "rds"
  refine ⟨p, C_Group, dx, _, _, rfl, g, T.cl_Group, T.na_Group_blocking, gF_b n, ?_⟩
  walk_at "rds"
  refine ⟨p, n, rfl, gr, n0, n1, fun H1 sm1 => ?_⟩
  have dr1 := dr.same sm1
  have g1 := sm1 _ _ g
  walk_at "rds"
  refine ⟨D, A, 40, rfl, dr1, by decide, fun H2 r r0 r1 md2 dr2 => ?_⟩
  have g2 := md2 _ _ npA g1
  walk_at "rds"
  refine ⟨D, A, _, rfl, dr2, by decide, fun H3 b b0 b1 md3 dr3 => ?_⟩
  have g3 := md3 _ _ npA g2
  walk_at "rds"
  intro l nl
  have hall : ∀ x ∈ [V.int r, .int (3 * n + 1), .int (3 * n + 1 - 1), .int 0, .int (-1), .int (-1 - r), .int (3 * n + 1 + b)], ∃ v : Int, x = .int v := by
    intro x hx
    simp only [List.mem_cons, List.not_mem_nil, or_false] at hx
    rcases hx with rfl | rfl | rfl | rfl | rfl | rfl | rfl <;> exact ⟨_, rfl⟩
  walk_at "rds"
  have md4 : Mod A H3 (upd H3 l (.lst [V.int r, .int (3 * n + 1), .int (3 * n + 1 - 1), .int 0, .int (-1), .int (-1 - r), .int (3 * n + 1 + b)])) := Mod.refl.new nl
  have dr4 := dr3.new (o := .lst [V.int r, .int (3 * n + 1), .int (3 * n + 1 - 1), .int 0, .int (-1), .int (-1 - r), .int (3 * n + 1 + b)]) nl
  have el : (upd H3 l (.lst [V.int r, .int (3 * n + 1), .int (3 * n + 1 - 1), .int 0, .int (-1), .int (-1 - r), .int (3 * n + 1 + b)])) l = some (.lst [V.int r, .int (3 * n + 1), .int (3 * n + 1 - 1), .int 0, .int (-1), .int (-1 - r), .int (3 * n + 1 + b)]) := upd_same
  generalize upd H3 l (.lst [V.int r, .int (3 * n + 1), .int (3 * n + 1 - 1), .int 0, .int (-1), .int (-1 - r), .int (3 * n + 1 + b)]) = H4 at md4 dr4 el
  have g4 := md4 _ _ npA g3
  refine ⟨⟨_, sq el⟩, ?_⟩
  generalize [V.int r, .int (3 * n + 1), .int (3 * n + 1 - 1), .int 0, .int (-1), .int (-1 - r), .int (3 * n + 1 + b)] = xs at hall el
  refine for_it (walk_list (K := K) (a := l) (xs := xs)) (Pv := fun i σ H' => H' = H4 ∧ ∃ y, σ = [some (.ref p), some (.int n), some (.ref D), some (.ref A), some (.int (3 * n + 1)), some (.int r), y, none, none]) ⟨rfl, _, rfl⟩ (fun i σ H' _ h => by rw [h.1]; exact sq el) (fun i x σ H6 H7 hi' hp hy => ?_) (fun σ H6 hp => ?_)
  · obtain ⟨rfl, y, rfl⟩ := hp
    obtain ⟨rfl, gx⟩ := hy
    obtain ⟨v, rfl⟩ := hall _ (List.mem_of_getElem? gx)
    walk_at "rds"
    refine ⟨p, dx, _, rfl, g4, rfl, ?_⟩
    walk_at "rds"
    refine ⟨p, n, .int v, rfl, ⟨dx, g4⟩, .inl ⟨v, rfl, ?_⟩⟩
    walk_at "rds"
    refine ite2 (fun e => ?_) (fun e => ?_)
    · have e := of_decide_eq_true e
      walk_at "rds"
      refine ⟨decide (v < 3 * n + 1), by rw [show decide (0 ≤ v ∧ v ≤ 3 * n + 1 - 1) = decide (v < 3 * n + 1) by rw [decide_eq_decide]; omega]; rfl, ?_⟩
      walk_at "rds"
      exact ⟨rfl, _, rfl⟩
    · have e : ¬ 0 ≤ v := fun z => e (decide_eq_true z)
      walk_at "rds"
      refine ⟨false, by rw [show decide (0 ≤ v ∧ v ≤ 3 * n + 1 - 1) = false by simp [e]]; rfl, ?_⟩
      walk_at "rds"
      exact ⟨rfl, _, rfl⟩
  obtain ⟨rfl, y, rfl⟩ := hp
  clear el hall
  walk_at "rds"
  intro t nt
  walk_at "rds"
  intro l2 nl2
  have ntl : t ≠ l2 := ne_of_none upd_same nl2
  walk_at "rds"
  have md5 : Mod A H6 (upd (upd H6 t (.tup [.int 0])) l2 (.lst [.bl true, .bl false, .non, .str "0", .ref t])) := (Mod.refl.new nt).new nl2
  have dr5 := (dr4.new (o := .tup [.int 0]) nt).new (o := .lst [.bl true, .bl false, .non, .str "0", .ref t]) nl2
  have et : (upd (upd H6 t (.tup [.int 0])) l2 (.lst [.bl true, .bl false, .non, .str "0", .ref t])) t = some (.tup [.int 0]) := by rw [upd_ne ntl, upd_same]
  have el : (upd (upd H6 t (.tup [.int 0])) l2 (.lst [.bl true, .bl false, .non, .str "0", .ref t])) l2 = some (.lst [.bl true, .bl false, .non, .str "0", .ref t]) := upd_same
  generalize upd (upd H6 t (.tup [.int 0])) l2 (.lst [.bl true, .bl false, .non, .str "0", .ref t]) = H5 at md5 dr5 et el
  have g5 := md5 _ _ npA g4
  refine ⟨⟨_, sq el⟩, ?_⟩
  refine for_it (walk_list (K := K) (a := l2) (xs := [.bl true, .bl false, .non, .str "0", .ref t])) (Pv := fun i σ H' => H' = H5 ∧ ∃ y, σ = [some (.ref p), some (.int n), some (.ref D), some (.ref A), some (.int (3 * n + 1)), some (.int r), y, none, none]) ⟨rfl, _, rfl⟩ (fun i σ H' _ h => by rw [h.1]; exact sq el) (fun i x σ H6 H7 hi' hp hy => ?_) (fun σ H6 hp => ?_)
  · obtain ⟨rfl, y, rfl⟩ := hp
    obtain ⟨rfl, gx⟩ := hy
    have hx : NoInt K H7 x := by
      have := List.mem_of_getElem? gx
      simp only [List.mem_cons, List.not_mem_nil, or_false] at this
      rcases this with rfl | rfl | rfl | rfl | rfl
      · exact ⟨_, .base (.bl _), .inr ⟨by decide +kernel, by decide +kernel⟩⟩
      · exact ⟨_, .base (.bl _), .inr ⟨by decide +kernel, by decide +kernel⟩⟩
      · exact ⟨_, .base .non, .inl (by decide +kernel)⟩
      · exact ⟨_, .base (.str _), .inl (by decide +kernel)⟩
      · exact ⟨_, .base (.tup et), .inl (by decide +kernel)⟩
    walk_at "rds"
    refine ⟨p, dx, _, rfl, g5, rfl, ?_⟩
    walk_at "rds"
    refine ⟨p, n, x, rfl, ⟨dx, g5⟩, .inr ⟨hx, ?_⟩⟩
    walk_at "rds"
    exact ⟨rfl, _, rfl⟩
  obtain ⟨rfl, y, rfl⟩ := hp
  walk_at "rds"
  refine ⟨D, A, _, rfl, dr5, by decide, fun H7 c c0 c1 md7 dr7 => ?_⟩
  rw [e12] at c1
  have g7 := md7 _ _ npA g5
  walk_at "rds"
  intro l3 nl3
  have hall : ∀ x ∈ [V.int 0, .int (1 + r), .int c, .int (10 ^ Int.toNat 12), .int 4, .int 5], ∃ v : Int, x = .int v ∧ 0 ≤ v ∧ v ≤ 1000000000000 := by
    intro x hx
    simp only [List.mem_cons, List.not_mem_nil, or_false] at hx
    rcases hx with rfl | rfl | rfl | rfl | rfl | rfl
    · exact ⟨_, rfl, by decide, by decide⟩
    · exact ⟨_, rfl, by omega, by omega⟩
    · exact ⟨_, rfl, by omega, by omega⟩
    · exact ⟨_, rfl, by decide, by decide⟩
    · exact ⟨_, rfl, by decide, by decide⟩
    · exact ⟨_, rfl, by decide, by decide⟩
  walk_at "rds"
  have md8 : Mod A H7 (upd H7 l3 (.lst [V.int 0, .int (1 + r), .int c, .int (10 ^ Int.toNat 12), .int 4, .int 5])) := Mod.refl.new nl3
  have dr8 := dr7.new (o := .lst [V.int 0, .int (1 + r), .int c, .int (10 ^ Int.toNat 12), .int 4, .int 5]) nl3
  have el : (upd H7 l3 (.lst [V.int 0, .int (1 + r), .int c, .int (10 ^ Int.toNat 12), .int 4, .int 5])) l3 = some (.lst [V.int 0, .int (1 + r), .int c, .int (10 ^ Int.toNat 12), .int 4, .int 5]) := upd_same
  generalize upd H7 l3 (.lst [V.int 0, .int (1 + r), .int c, .int (10 ^ Int.toNat 12), .int 4, .int 5]) = H8 at md8 dr8 el
  have g8 := md8 _ _ npA g7
  refine ⟨⟨_, sq el⟩, ?_⟩
  generalize [V.int 0, .int (1 + r), .int c, .int (10 ^ Int.toNat 12), .int 4, .int 5] = xs at hall el
  refine for_it (walk_list (K := K) (a := l3) (xs := xs)) (Pv := fun i σ H' => H' = H8 ∧ ∃ y y7 y8, σ = [some (.ref p), some (.int n), some (.ref D), some (.ref A), some (.int (3 * n + 1)), some (.int r), y, y7, y8]) ⟨rfl, _, _, _, rfl⟩ (fun i σ H' _ h => by rw [h.1]; exact sq el) (fun i x σ H9 H10 hi' hp hy => ?_) (fun σ H9 hp => ?_)
  · obtain ⟨rfl, y, y7, y8, rfl⟩ := hp
    obtain ⟨rfl, gx⟩ := hy
    obtain ⟨v, rfl, v0, v1⟩ := hall _ (List.mem_of_getElem? gx)
    walk_at "rds"
    refine ⟨p, dx, _, rfl, g8, rfl, ?_⟩
    walk_at "rds"
    refine ⟨p, n, .int v, rfl, ⟨dx, g8⟩, n0, .inl ⟨v, rfl, v0, v1, ?_⟩⟩
    by_cases hv : v = 0
    · subst hv
      rw [if_pos rfl]
      walk_at "rds"
      exact ⟨rfl, _, _, _, rfl⟩
    · rw [if_neg hv]
      walk_at "rds"
      refine ifF (decide_eq_false fun z => hv (V.int.inj z)) ?_
      walk_at "rds"
      refine ifT (decide_eq_true (by omega)) ?_
      walk_at "rds"
      exact ⟨rfl, _, _, _, rfl⟩
  obtain ⟨rfl, y, y7, y8, rfl⟩ := hp
  walk_at "rds"
  exact q _ (((((((Same.mod sm1).trans md2).trans md3).trans md4).trans md5).trans md7).trans md8) dr8
theorem ok_law {C_Group : Addr} {C_BadGroup : Addr} {f : Addr} {fd : FuncData} (F : L2.Fun K "law" "law" s_law f fd) (T : Txt K mg C_Group C_BadGroup) : FnOk P w K mg base L2.CX0 5 f fd ["script"] (spLaw K) := by
  have c__law_draws := c__law_draws (P := P) (w := w) (base := base) T
  have c__law_next := c__law_next (P := P) (w := w) (base := base) T
  have c__law_big := c__law_big (P := P) (w := w) (base := base) T
  have c__law_group := c__law_group (P := P) (w := w) (base := base) T
  have c__law_times := c__law_times (P := P) (w := w) (base := base) T
  have c__law_odd := c__law_odd (P := P) (w := w) (base := base) T
  have c__law_wrong := c__law_wrong (P := P) (w := w) (base := base) T
  have c__law_refused := c__law_refused (P := P) (w := w) (base := base) T
  have k_Group := k_Group (P := P) (w := w) (base := base) T
  refine F.ok sc_law (fun vs H Q E h => ?_) (fun cdv A' outer s H vs Q E hr h => ?_)
  · obtain ⟨a, ns, rfl, _⟩ := h; rfl
  obtain ⟨a, ns, rfl, hS, hlen, q⟩ := h
  refine ⟨_, (pss_cons (ps_set (i := 1) sc_law.nd rfl (Or.inl rfl) (pe_c c__law_draws hr (by decide) (by rfl) (pa_cons (pv 0) pa_nil)))
      (pss_cons (ps_set (i := 2) sc_law.nd rfl (Or.inl rfl) (pe_lst (pa_cons pe_int pa_nil)))
      (pss_cons (ps_for PassesOwn.never rfl (pi_range1 (by rfl) T.z_range (pa_cons pe_int pa_nil)) (pg_name (i := 3) sc_law.nd rfl (Or.inl rfl)) (pss_cons (ps_set (i := 4) sc_law.nd rfl (Or.inl rfl) (pe_c c__law_next hr (by decide) (by rfl) (pa_cons (pv 1) (pa_cons (pv 2) (pa_cons pe_int pa_nil)))))
      (pss_cons (ps_set (i := 5) sc_law.nd rfl (Or.inl rfl) (pe_mkX k_Group hr (by decide) (by rfl) no_pass (pa_cons (pv 4) pa_nil)))
      (pss_cons (ps_set (i := 6) sc_law.nd rfl (Or.inl rfl) (pe_mkX k_Group hr (by decide) (by rfl) no_pass (pa_cons (pe_c c__law_next hr (by decide) (by rfl) (pa_cons (pv 1) (pa_cons (pv 2) (pa_cons pe_int pa_nil)))) pa_nil)))
      (pss_cons (ps_if (PW.pt (pw_or (pt_not (pt_val (pe_c c__law_group hr (by decide) (by rfl) (pa_cons (pv 5) (pa_cons (pv 4) (pa_cons (pv 1) (pa_cons (pv 2) pa_nil))))))) (pw_or1 (pt_not (pt_val (pe_c c__law_times hr (by decide) (by rfl) (pa_cons (pv 1) (pa_cons (pv 2) pa_nil)))))))) (pss_one (ps_ret pe_bl)) pss_nil)
      (pss_cons (ps_set (i := 7) sc_law.nd rfl (Or.inl rfl) (pe_c c__law_odd hr (by decide) (by rfl) (pa_cons (pe_c c__law_next hr (by decide) (by rfl) (pa_cons (pv 1) (pa_cons (pv 2) (pa_cons pe_int pa_nil)))) pa_nil)))
      (pss_cons (ps_set (i := 8) sc_law.nd rfl (Or.inl rfl) (pe_op op_add (pe_op op_add (pe_op op_pow pe_int pe_int) pe_int) (pe_c c__law_big hr (by decide) (by rfl) (pa_cons (pv 1) (pa_cons (pv 2) (pa_cons (pe_op op_pow pe_int pe_int) pa_nil))))))
      (pss_cons (ps_for PassesOwn.never rfl (pi_range1 (by rfl) T.z_range (pa_cons pe_int pa_nil)) (pg_name (i := 9) sc_law.nd rfl (Or.inl rfl)) (pss_cons (ps_if (PW.pt (pw_and (pt_val (pe_c c__law_wrong hr (by decide) (by rfl) (pa_cons (pv 9) (pa_cons (pv 7) pa_nil)))) (pw_and1 (pt_not (pt_val (pe_c c__law_refused hr (by decide) (by rfl) (pa_cons (pv 9) (pa_cons (pv 7) pa_nil)))))))) (pss_one (ps_ret pe_bl)) pss_nil)
      (pss_one (ps_if (PW.pt (pw_and (pt_cmpR op_gt (pv 9) pe_int (nomark _)) (pw_and1 (pt_not (PW.pt (pw_and (pt_val (pe_c c__law_refused hr (by decide) (by rfl) (pa_cons (pv 9) (pa_cons (pv 8) pa_nil)))) (pw_and1 (pt_val (pe_c c__law_refused hr (by decide) (by rfl) (pa_cons (pv 9) (pa_cons (pe_un un_neg (pv 8)) pa_nil))))))))))) (pss_one (ps_ret pe_bl)) pss_nil))))
      (pss_cons (ps_if (pt_not (pt_val (pe_c c__law_group hr (by decide) (by rfl) (pa_cons (pv 5) (pa_cons (pv 4) (pa_cons (pv 1) (pa_cons (pv 2) pa_nil))))))) (pss_one (ps_ret pe_bl)) pss_nil)
      (pss_one (ps_if (pt_cmpR op_ne (pe_fld (pv 6) rfl) (pe_op op_add (pe_op op_mul pe_int (pe_fld (pv 6) rfl)) pe_int) (nomark _)) (pss_one (ps_ret pe_bl)) pss_nil)))))))))))
      (pss_one (ps_ret pe_bl))))), ?_⟩
  have e20 : (10 : Int) ^ (20 : Int).toNat = 100000000000000000000 := by decide
  have e12 : (10 : Int) ^ (12 : Int).toNat = 1000000000000 := by decide
  walk_at "rds"
  refine ⟨a, ns, rfl, hS, hlen, fun H1 D ds sm1 nD hD hrg hdl => ?_⟩
  walk_at "rds"
  intro A nA
  have dr0 : Dr (upd H1 A (.lst [.int 0])) D A := ⟨ne_of_none hD nA, ds, 0, by rw [upd_ne (ne_of_none hD nA)]; exact hD, upd_same, hrg, hdl⟩
  walk_at "rds"
  refine for_it walk_range (Pv := fun i σ H' => ∃ y3 y4 y5 y6 y7 y8 y9, σ = [some (.ref a), some (.ref D), some (.ref A), y3, y4, y5, y6, y7, y8, y9] ∧ Dr H' D A) ⟨_, _, _, _, _, _, _, rfl, dr0⟩ (fun _ _ _ _ _ => trivial) (fun i x σ H2 H3 hi hp hy => ?_) (fun σ H2 hp => ?_)
  · obtain ⟨y3, y4, y5, y6, y7, y8, y9, rfl, dr⟩ := hp
    obtain ⟨rfl, rfl⟩ := hy
    walk_at "rds"
    refine ⟨D, A, 11, rfl, dr, by decide, fun H3 n n0 n1 md3 dr3 => ?_⟩
    walk_at "rds"
    intro x dx nx ndx nex
    refine ⟨x, dx, .int n, rfl, upd_same, .inl ⟨n, rfl, n0, by omega, fun H4 kp gr => ?_⟩⟩
    have sm4 : Same H3 H4 := Same.made nx ndx kp
    have dr4 := dr3.same sm4
    obtain ⟨dx1, g4⟩ := gr
    have nxA := ins_neA dr4 g4
    walk_at "rds"
    refine ⟨D, A, 11, rfl, dr4, by decide, fun H5 n' n0' n1' md5 dr5 => ?_⟩
    have g5 := md5 _ _ nxA g4
    intro x' dx' nx' ndx' nex'
    refine ⟨x', dx', .int n', rfl, upd_same, .inl ⟨n', rfl, n0', by omega, fun H6 kp' gr' => ?_⟩⟩
    have sm6 : Same H5 H6 := Same.made nx' ndx' kp'
    have dr6 := dr5.same sm6
    have g6 := sm6 _ _ g5
    obtain ⟨dx2, o6⟩ := gr'
    have noA := ins_neA dr6 o6
    walk_at "rds"
    refine ⟨x, D, A, n, rfl, ⟨dx1, g6⟩, n0, by omega, dr6, fun H7 md7 dr7 => ?_⟩
    have g7 := md7 _ _ nxA g6
    have o7 := md7 _ _ noA o6
    walk_at "rds"
    refine ⟨D, A, rfl, dr7, fun H8 md8 dr8 => ?_⟩
    have g8 := md8 _ _ nxA g7
    have o8 := md8 _ _ noA o7
    walk_at "rds"
    refine ⟨D, A, 1000, rfl, dr8, by decide, fun H9 r r0 r1 md9 dr9 => ?_⟩
    have g9 := md9 _ _ nxA g8
    have o9 := md9 _ _ noA o8
    walk_at "rds"
    intro H10 v sm10 hv
    have dr10 := dr9.same sm10
    have g10 := sm10 _ _ g9
    have o10 := sm10 _ _ o9
    walk_at "rds"
    refine ⟨D, A, _, rfl, dr10, by decide, fun H11 b b0 b1 md11 dr11 => ?_⟩
    have g11 := md11 _ _ nxA g10
    have o11 := md11 _ _ noA o10
    have hv11 := hv.mod dr10 md11
    walk_at "rds"
    have hl : 1000000000000 < (10 : Int) ^ Int.toNat 12 + 1 + b := by rw [e12]; omega
    refine for_it walk_range (Pv := fun _ σ H' => ∃ y9, σ = [some (.ref a), some (.ref D), some (.ref A), some (.int (0 + (i : Int))), some (.int n), some (.ref x), some (.ref x'), some v, some (.int (10 ^ Int.toNat 12 + 1 + b)), y9] ∧ Same H11 H') ⟨_, rfl, Same.refl _⟩ (fun _ _ _ _ _ => trivial) (fun j x σ H12 H13 hj hp hy => ?_) (fun σ H12 hp => ?_)
    · obtain ⟨y9, rfl, sm⟩ := hp
      obtain ⟨rfl, rfl⟩ := hy
      have hj' : j < 4 := hj
      have e0 : (0 : Int) + (j : Int) = (j : Int) := by omega
      have ov := hv11.mod dr11 (Same.mod sm)
      have bigs : ∀ (M : Int) (H' : Hp), (1000000000000 < M ∨ M < 0) → Bad K H' 10 (.int M) ∧ Bad K H' 1000000000000 (.int M) := fun M H' h => ⟨.inr ⟨M, rfl, by omega⟩, .inr ⟨M, rfl, by omega⟩⟩
      -- the two calls with numbers that are too large and too small
      have two : ∀ H14, Same H11 H14 → True := fun _ _ => trivial
      walk_at "rds"
      refine ⟨j, v, by show [V.int (0 + (j : Int)), v] = _; rw [e0], ov, fun hw => ?_, fun hk => ?_⟩
      · walk_at "rds"
        refine ⟨j, v, by show [V.int (0 + (j : Int)), v] ++ [] = _; rw [e0]; rfl, hj', fun _ => ov.bad, fun hk => ?_, fun H14 sm14 => ?_⟩
        · rcases hw with hw | hw
          · exact absurd hw hk
          · exact hw
        · have sm2 := sm.trans sm14
          walk_at "rds"
          refine ite2 (fun _ => ?_) (fun _ => ?_)
          · walk_at "rds"
            refine ⟨j, .int (10 ^ Int.toNat 12 + 1 + b), by show [V.int (0 + (j : Int)), _] ++ [] = _; rw [e0]; rfl, hj', fun _ => (bigs _ _ (.inl hl)).1, fun _ => (bigs _ _ (.inl hl)).2, fun H15 sm15 => ?_⟩
            walk_at "rds"
            refine ⟨j, .int (-(10 ^ Int.toNat 12 + 1 + b)), by show [V.int (0 + (j : Int)), _] ++ [] = _; rw [e0]; rfl, hj', fun _ => (bigs _ _ (.inr (by omega))).1, fun _ => (bigs _ _ (.inr (by omega))).2, fun H16 sm16 => ?_⟩
            walk_at "rds"
            exact ⟨_, rfl, (sm2.trans sm15).trans sm16⟩
          · exact ⟨_, rfl, sm2⟩
      · walk_at "rds"
        refine ite2 (fun _ => ?_) (fun _ => ?_)
        · walk_at "rds"
          refine ⟨j, .int (10 ^ Int.toNat 12 + 1 + b), by show [V.int (0 + (j : Int)), _] ++ [] = _; rw [e0]; rfl, hj', fun _ => (bigs _ _ (.inl hl)).1, fun _ => (bigs _ _ (.inl hl)).2, fun H15 sm15 => ?_⟩
          walk_at "rds"
          refine ⟨j, .int (-(10 ^ Int.toNat 12 + 1 + b)), by show [V.int (0 + (j : Int)), _] ++ [] = _; rw [e0]; rfl, hj', fun _ => (bigs _ _ (.inr (by omega))).1, fun _ => (bigs _ _ (.inr (by omega))).2, fun H16 sm16 => ?_⟩
          walk_at "rds"
          exact ⟨_, rfl, (sm.trans sm15).trans sm16⟩
        · exact ⟨_, rfl, sm⟩
    · obtain ⟨y9, rfl, sm⟩ := hp
      have dr12 := dr11.same sm
      have g12 := sm _ _ g11
      have o12 := sm _ _ o11
      walk_at "rds"
      refine ⟨x, D, A, n, rfl, ⟨dx1, g12⟩, n0, by omega, dr12, fun H13 md13 dr13 => ?_⟩
      have o13 := md13 _ _ noA o12
      walk_at "rds"
      refine ⟨x', C_Group, dx2, _, _, rfl, o13, T.cl_Group, T.na_Group_machines, gF_m n', ?_⟩
      walk_at "rds"
      refine ⟨x', C_Group, dx2, _, _, rfl, o13, T.cl_Group, T.na_Group_faults, gF_f n', ?_⟩
      walk_at "rds"
      refine ifF (by show (!decide (V.int _ = V.int _)) = false; rw [decide_eq_true rfl]; rfl) ?_
      exact ⟨_, _, _, _, _, _, _, rfl, dr13⟩
  · obtain ⟨y3, y4, y5, y6, y7, y8, y9, rfl, dr⟩ := hp
    walk_at "rds"
    exact q _
end
theorem fin {C_Group : Addr} {C_BadGroup : Addr} {P : Program} {w : World} {K : PySem.W.Frag} {mg : Str → Option Value} {fa : Addr} (hfa : mg "law" = some (.ref fa)) (T : Txt K mg C_Group C_BadGroup) :
    ∃ fd : FuncData, (∀ (s : Shared) (u : Value), BindsTo s fd ⟨[u], []⟩ [("script", u)]) ∧ ∀ base : Heap, K.In base → base.Ns mainGlobals mg → FnOk P w K mg base L2.CX0 5 fa fd ["script"] (spLaw K) := by
  obtain ⟨f, fd, F, hm, b⟩ := T.d_law.ex
  cases hfa.symm.trans hm
  refine ⟨fd, fun s u => ?_, fun base _ _ => ok_law F T⟩
  obtain ⟨oc, od, kV, doc, pm, an, cdv, ct, osl, rfl, l, _⟩ := F.ex
  exact .of_eq rfl

theorem all_mk {K : PySem.W.Frag} {h : Heap} {mg : Str → Option Value} (X : K.In h) (G : h.Ns mainGlobals mg)
    {f_is_integer : Addr} {od_is_integer an_is_integer : Option Addr} {sl_is_integer : Array (Option Value)} {oc_is_integer kV_is_integer dc_is_integer pm_is_integer cd_is_integer ct_is_integer : Value}
    {f_epoch_of : Addr} {od_epoch_of an_epoch_of : Option Addr} {sl_epoch_of : Array (Option Value)} {oc_epoch_of kV_epoch_of dc_epoch_of pm_epoch_of cd_epoch_of ct_epoch_of : Value}
    {f_first_tick : Addr} {od_first_tick an_first_tick : Option Addr} {sl_first_tick : Array (Option Value)} {oc_first_tick kV_first_tick dc_first_tick pm_first_tick cd_first_tick ct_first_tick : Value}
    {f_check_number : Addr} {od_check_number an_check_number : Option Addr} {sl_check_number : Array (Option Value)} {oc_check_number kV_check_number dc_check_number pm_check_number cd_check_number ct_check_number : Value}
    {f__law_draws : Addr} {od__law_draws an__law_draws : Option Addr} {sl__law_draws : Array (Option Value)} {oc__law_draws kV__law_draws dc__law_draws pm__law_draws cd__law_draws ct__law_draws : Value}
    {f__law_next : Addr} {od__law_next an__law_next : Option Addr} {sl__law_next : Array (Option Value)} {oc__law_next kV__law_next dc__law_next pm__law_next cd__law_next ct__law_next : Value}
    {f__law_big : Addr} {od__law_big an__law_big : Option Addr} {sl__law_big : Array (Option Value)} {oc__law_big kV__law_big dc__law_big pm__law_big cd__law_big ct__law_big : Value}
    {f__law_is : Addr} {od__law_is an__law_is : Option Addr} {sl__law_is : Array (Option Value)} {oc__law_is kV__law_is dc__law_is pm__law_is cd__law_is ct__law_is : Value}
    {f__law_truth : Addr} {od__law_truth an__law_truth : Option Addr} {sl__law_truth : Array (Option Value)} {oc__law_truth kV__law_truth dc__law_truth pm__law_truth cd__law_truth ct__law_truth : Value}
    {f__law_odd : Addr} {od__law_odd an__law_odd : Option Addr} {sl__law_odd : Array (Option Value)} {oc__law_odd kV__law_odd dc__law_odd pm__law_odd cd__law_odd ct__law_odd : Value}
    {f__law_refused : Addr} {od__law_refused an__law_refused : Option Addr} {sl__law_refused : Array (Option Value)} {oc__law_refused kV__law_refused dc__law_refused pm__law_refused cd__law_refused ct__law_refused : Value}
    {f__law_wrong : Addr} {od__law_wrong an__law_wrong : Option Addr} {sl__law_wrong : Array (Option Value)} {oc__law_wrong kV__law_wrong dc__law_wrong pm__law_wrong cd__law_wrong ct__law_wrong : Value}
    {f__law_members : Addr} {od__law_members an__law_members : Option Addr} {sl__law_members : Array (Option Value)} {oc__law_members kV__law_members dc__law_members pm__law_members cd__law_members ct__law_members : Value}
    {f__law_group : Addr} {od__law_group an__law_group : Option Addr} {sl__law_group : Array (Option Value)} {oc__law_group kV__law_group dc__law_group pm__law_group cd__law_group ct__law_group : Value}
    {f__law_times : Addr} {od__law_times an__law_times : Option Addr} {sl__law_times : Array (Option Value)} {oc__law_times kV__law_times dc__law_times pm__law_times cd__law_times ct__law_times : Value}
    {f_law : Addr} {od_law an_law : Option Addr} {sl_law : Array (Option Value)} {oc_law kV_law dc_law pm_law cd_law ct_law : Value}
    {C_Group : Addr}
    {f_Group____init__ : Addr} {od_Group____init__ an_Group____init__ : Option Addr} {sl_Group____init__ : Array (Option Value)} {oc_Group____init__ kV_Group____init__ dc_Group____init__ pm_Group____init__ cd_Group____init__ ct_Group____init__ : Value}
    {f_Group__members : Addr} {od_Group__members an_Group__members : Option Addr} {sl_Group__members : Array (Option Value)} {oc_Group__members kV_Group__members dc_Group__members pm_Group__members cd_Group__members ct_Group__members : Value}
    {f_Group__is_member : Addr} {od_Group__is_member an_Group__is_member : Option Addr} {sl_Group__is_member : Array (Option Value)} {oc_Group__is_member kV_Group__is_member dc_Group__is_member pm_Group__is_member cd_Group__is_member ct_Group__is_member : Value}
    {f_Group__leader : Addr} {od_Group__leader an_Group__leader : Option Addr} {sl_Group__leader : Array (Option Value)} {oc_Group__leader kV_Group__leader dc_Group__leader pm_Group__leader cd_Group__leader ct_Group__leader : Value}
    {C_BadGroup : Addr}
    {t_MOST_FAULTS : Tok}
    {t_MOST_NUMBER : Tok}
    {t_SPAN : Tok}
    {t_STINT : Tok}
    (a_is_integer : PySem.W.nsIn K mainGlobals "is_integer" = some (some (.ref f_is_integer)))
    (l_is_integer : K.lookup f_is_integer = some ⟨oc_is_integer, od_is_integer, .func (PySem.W.fnOf "is_integer" "is_integer" (defArgs s_is_integer) (defBody s_is_integer) (defScope s_is_integer) .none kV_is_integer dc_is_integer pm_is_integer an_is_integer cd_is_integer ct_is_integer), sl_is_integer⟩)
    (e_is_integer : PySem.W.codeIn K cd_is_integer "is_integer" = true)
    (k_is_integer : PySem.W.keepIn K (.ref f_is_integer) = true)
    (a_epoch_of : PySem.W.nsIn K mainGlobals "epoch_of" = some (some (.ref f_epoch_of)))
    (l_epoch_of : K.lookup f_epoch_of = some ⟨oc_epoch_of, od_epoch_of, .func (PySem.W.fnOf "epoch_of" "epoch_of" (defArgs s_epoch_of) (defBody s_epoch_of) (defScope s_epoch_of) .none kV_epoch_of dc_epoch_of pm_epoch_of an_epoch_of cd_epoch_of ct_epoch_of), sl_epoch_of⟩)
    (e_epoch_of : PySem.W.codeIn K cd_epoch_of "epoch_of" = true)
    (k_epoch_of : PySem.W.keepIn K (.ref f_epoch_of) = true)
    (a_first_tick : PySem.W.nsIn K mainGlobals "first_tick" = some (some (.ref f_first_tick)))
    (l_first_tick : K.lookup f_first_tick = some ⟨oc_first_tick, od_first_tick, .func (PySem.W.fnOf "first_tick" "first_tick" (defArgs s_first_tick) (defBody s_first_tick) (defScope s_first_tick) .none kV_first_tick dc_first_tick pm_first_tick an_first_tick cd_first_tick ct_first_tick), sl_first_tick⟩)
    (e_first_tick : PySem.W.codeIn K cd_first_tick "first_tick" = true)
    (k_first_tick : PySem.W.keepIn K (.ref f_first_tick) = true)
    (a_check_number : PySem.W.nsIn K mainGlobals "check_number" = some (some (.ref f_check_number)))
    (l_check_number : K.lookup f_check_number = some ⟨oc_check_number, od_check_number, .func (PySem.W.fnOf "check_number" "check_number" (defArgs s_check_number) (defBody s_check_number) (defScope s_check_number) .none kV_check_number dc_check_number pm_check_number an_check_number cd_check_number ct_check_number), sl_check_number⟩)
    (e_check_number : PySem.W.codeIn K cd_check_number "check_number" = true)
    (k_check_number : PySem.W.keepIn K (.ref f_check_number) = true)
    (a__law_draws : PySem.W.nsIn K mainGlobals "_law_draws" = some (some (.ref f__law_draws)))
    (l__law_draws : K.lookup f__law_draws = some ⟨oc__law_draws, od__law_draws, .func (PySem.W.fnOf "_law_draws" "_law_draws" (defArgs s__law_draws) (defBody s__law_draws) (defScope s__law_draws) .none kV__law_draws dc__law_draws pm__law_draws an__law_draws cd__law_draws ct__law_draws), sl__law_draws⟩)
    (e__law_draws : PySem.W.codeIn K cd__law_draws "_law_draws" = true)
    (k__law_draws : PySem.W.keepIn K (.ref f__law_draws) = true)
    (a__law_next : PySem.W.nsIn K mainGlobals "_law_next" = some (some (.ref f__law_next)))
    (l__law_next : K.lookup f__law_next = some ⟨oc__law_next, od__law_next, .func (PySem.W.fnOf "_law_next" "_law_next" (defArgs s__law_next) (defBody s__law_next) (defScope s__law_next) .none kV__law_next dc__law_next pm__law_next an__law_next cd__law_next ct__law_next), sl__law_next⟩)
    (e__law_next : PySem.W.codeIn K cd__law_next "_law_next" = true)
    (k__law_next : PySem.W.keepIn K (.ref f__law_next) = true)
    (a__law_big : PySem.W.nsIn K mainGlobals "_law_big" = some (some (.ref f__law_big)))
    (l__law_big : K.lookup f__law_big = some ⟨oc__law_big, od__law_big, .func (PySem.W.fnOf "_law_big" "_law_big" (defArgs s__law_big) (defBody s__law_big) (defScope s__law_big) .none kV__law_big dc__law_big pm__law_big an__law_big cd__law_big ct__law_big), sl__law_big⟩)
    (e__law_big : PySem.W.codeIn K cd__law_big "_law_big" = true)
    (k__law_big : PySem.W.keepIn K (.ref f__law_big) = true)
    (a__law_is : PySem.W.nsIn K mainGlobals "_law_is" = some (some (.ref f__law_is)))
    (l__law_is : K.lookup f__law_is = some ⟨oc__law_is, od__law_is, .func (PySem.W.fnOf "_law_is" "_law_is" (defArgs s__law_is) (defBody s__law_is) (defScope s__law_is) .none kV__law_is dc__law_is pm__law_is an__law_is cd__law_is ct__law_is), sl__law_is⟩)
    (e__law_is : PySem.W.codeIn K cd__law_is "_law_is" = true)
    (k__law_is : PySem.W.keepIn K (.ref f__law_is) = true)
    (a__law_truth : PySem.W.nsIn K mainGlobals "_law_truth" = some (some (.ref f__law_truth)))
    (l__law_truth : K.lookup f__law_truth = some ⟨oc__law_truth, od__law_truth, .func (PySem.W.fnOf "_law_truth" "_law_truth" (defArgs s__law_truth) (defBody s__law_truth) (defScope s__law_truth) .none kV__law_truth dc__law_truth pm__law_truth an__law_truth cd__law_truth ct__law_truth), sl__law_truth⟩)
    (e__law_truth : PySem.W.codeIn K cd__law_truth "_law_truth" = true)
    (k__law_truth : PySem.W.keepIn K (.ref f__law_truth) = true)
    (a__law_odd : PySem.W.nsIn K mainGlobals "_law_odd" = some (some (.ref f__law_odd)))
    (l__law_odd : K.lookup f__law_odd = some ⟨oc__law_odd, od__law_odd, .func (PySem.W.fnOf "_law_odd" "_law_odd" (defArgs s__law_odd) (defBody s__law_odd) (defScope s__law_odd) .none kV__law_odd dc__law_odd pm__law_odd an__law_odd cd__law_odd ct__law_odd), sl__law_odd⟩)
    (e__law_odd : PySem.W.codeIn K cd__law_odd "_law_odd" = true)
    (k__law_odd : PySem.W.keepIn K (.ref f__law_odd) = true)
    (a__law_refused : PySem.W.nsIn K mainGlobals "_law_refused" = some (some (.ref f__law_refused)))
    (l__law_refused : K.lookup f__law_refused = some ⟨oc__law_refused, od__law_refused, .func (PySem.W.fnOf "_law_refused" "_law_refused" (defArgs s__law_refused) (defBody s__law_refused) (defScope s__law_refused) .none kV__law_refused dc__law_refused pm__law_refused an__law_refused cd__law_refused ct__law_refused), sl__law_refused⟩)
    (e__law_refused : PySem.W.codeIn K cd__law_refused "_law_refused" = true)
    (k__law_refused : PySem.W.keepIn K (.ref f__law_refused) = true)
    (a__law_wrong : PySem.W.nsIn K mainGlobals "_law_wrong" = some (some (.ref f__law_wrong)))
    (l__law_wrong : K.lookup f__law_wrong = some ⟨oc__law_wrong, od__law_wrong, .func (PySem.W.fnOf "_law_wrong" "_law_wrong" (defArgs s__law_wrong) (defBody s__law_wrong) (defScope s__law_wrong) .none kV__law_wrong dc__law_wrong pm__law_wrong an__law_wrong cd__law_wrong ct__law_wrong), sl__law_wrong⟩)
    (e__law_wrong : PySem.W.codeIn K cd__law_wrong "_law_wrong" = true)
    (k__law_wrong : PySem.W.keepIn K (.ref f__law_wrong) = true)
    (a__law_members : PySem.W.nsIn K mainGlobals "_law_members" = some (some (.ref f__law_members)))
    (l__law_members : K.lookup f__law_members = some ⟨oc__law_members, od__law_members, .func (PySem.W.fnOf "_law_members" "_law_members" (defArgs s__law_members) (defBody s__law_members) (defScope s__law_members) .none kV__law_members dc__law_members pm__law_members an__law_members cd__law_members ct__law_members), sl__law_members⟩)
    (e__law_members : PySem.W.codeIn K cd__law_members "_law_members" = true)
    (k__law_members : PySem.W.keepIn K (.ref f__law_members) = true)
    (a__law_group : PySem.W.nsIn K mainGlobals "_law_group" = some (some (.ref f__law_group)))
    (l__law_group : K.lookup f__law_group = some ⟨oc__law_group, od__law_group, .func (PySem.W.fnOf "_law_group" "_law_group" (defArgs s__law_group) (defBody s__law_group) (defScope s__law_group) .none kV__law_group dc__law_group pm__law_group an__law_group cd__law_group ct__law_group), sl__law_group⟩)
    (e__law_group : PySem.W.codeIn K cd__law_group "_law_group" = true)
    (k__law_group : PySem.W.keepIn K (.ref f__law_group) = true)
    (a__law_times : PySem.W.nsIn K mainGlobals "_law_times" = some (some (.ref f__law_times)))
    (l__law_times : K.lookup f__law_times = some ⟨oc__law_times, od__law_times, .func (PySem.W.fnOf "_law_times" "_law_times" (defArgs s__law_times) (defBody s__law_times) (defScope s__law_times) .none kV__law_times dc__law_times pm__law_times an__law_times cd__law_times ct__law_times), sl__law_times⟩)
    (e__law_times : PySem.W.codeIn K cd__law_times "_law_times" = true)
    (k__law_times : PySem.W.keepIn K (.ref f__law_times) = true)
    (a_law : PySem.W.nsIn K mainGlobals "law" = some (some (.ref f_law)))
    (l_law : K.lookup f_law = some ⟨oc_law, od_law, .func (PySem.W.fnOf "law" "law" (defArgs s_law) (defBody s_law) (defScope s_law) .none kV_law dc_law pm_law an_law cd_law ct_law), sl_law⟩)
    (e_law : PySem.W.codeIn K cd_law "law" = true)
    (k_law : PySem.W.keepIn K (.ref f_law) = true)
    (ac_Group : PySem.W.nsIn K mainGlobals "Group" = some (some (.ref C_Group)))
    (pg_Group : PySem.W.plainGet K C_Group Str.empty = true)
    (hd_Group : PySem.W.hasDictIn K C_Group = true)
    (po_Group : PySem.W.plainOver K C_Group = true)
    (sa_Group : PySem.W.findIn K (.ref C_Group) "__setattr__" = some (some (.builtin "object.__setattr__")))
    (mk_Group : PySem.W.makesIn K C_Group = true)
    (kc_Group : PySem.W.keepIn K (.ref C_Group) = true)
    (na_Group_faults : PySem.W.findIn K (.ref C_Group) "faults" = some none)
    (na_Group_machines : PySem.W.findIn K (.ref C_Group) "machines" = some none)
    (na_Group_quorum : PySem.W.findIn K (.ref C_Group) "quorum" = some none)
    (na_Group_blocking : PySem.W.findIn K (.ref C_Group) "blocking" = some none)
    (a_Group____init__ : PySem.W.findIn K (.ref C_Group) "__init__" = some (some (.ref f_Group____init__)))
    (i_Group____init__ : PySem.W.isFn K (.ref f_Group____init__) = true)
    (l_Group____init__ : K.lookup f_Group____init__ = some ⟨oc_Group____init__, od_Group____init__, .func (PySem.W.fnOf "__init__" "Group.__init__" (defArgs s_Group____init__) (defBody s_Group____init__) (defScope s_Group____init__) .none kV_Group____init__ dc_Group____init__ pm_Group____init__ an_Group____init__ cd_Group____init__ ct_Group____init__), sl_Group____init__⟩)
    (e_Group____init__ : PySem.W.codeIn K cd_Group____init__ "Group.__init__" = true)
    (k_Group____init__ : PySem.W.keepIn K (.ref f_Group____init__) = true)
    (a_Group__members : PySem.W.findIn K (.ref C_Group) "members" = some (some (.ref f_Group__members)))
    (i_Group__members : PySem.W.isFn K (.ref f_Group__members) = true)
    (l_Group__members : K.lookup f_Group__members = some ⟨oc_Group__members, od_Group__members, .func (PySem.W.fnOf "members" "Group.members" (defArgs s_Group__members) (defBody s_Group__members) (defScope s_Group__members) .none kV_Group__members dc_Group__members pm_Group__members an_Group__members cd_Group__members ct_Group__members), sl_Group__members⟩)
    (e_Group__members : PySem.W.codeIn K cd_Group__members "Group.members" = true)
    (k_Group__members : PySem.W.keepIn K (.ref f_Group__members) = true)
    (a_Group__is_member : PySem.W.findIn K (.ref C_Group) "is_member" = some (some (.ref f_Group__is_member)))
    (i_Group__is_member : PySem.W.isFn K (.ref f_Group__is_member) = true)
    (l_Group__is_member : K.lookup f_Group__is_member = some ⟨oc_Group__is_member, od_Group__is_member, .func (PySem.W.fnOf "is_member" "Group.is_member" (defArgs s_Group__is_member) (defBody s_Group__is_member) (defScope s_Group__is_member) .none kV_Group__is_member dc_Group__is_member pm_Group__is_member an_Group__is_member cd_Group__is_member ct_Group__is_member), sl_Group__is_member⟩)
    (e_Group__is_member : PySem.W.codeIn K cd_Group__is_member "Group.is_member" = true)
    (k_Group__is_member : PySem.W.keepIn K (.ref f_Group__is_member) = true)
    (a_Group__leader : PySem.W.findIn K (.ref C_Group) "leader" = some (some (.ref f_Group__leader)))
    (i_Group__leader : PySem.W.isFn K (.ref f_Group__leader) = true)
    (l_Group__leader : K.lookup f_Group__leader = some ⟨oc_Group__leader, od_Group__leader, .func (PySem.W.fnOf "leader" "Group.leader" (defArgs s_Group__leader) (defBody s_Group__leader) (defScope s_Group__leader) .none kV_Group__leader dc_Group__leader pm_Group__leader an_Group__leader cd_Group__leader ct_Group__leader), sl_Group__leader⟩)
    (e_Group__leader : PySem.W.codeIn K cd_Group__leader "Group.leader" = true)
    (k_Group__leader : PySem.W.keepIn K (.ref f_Group__leader) = true)
    (xa_BadGroup : PySem.W.nsIn K mainGlobals "BadGroup" = some (some (.ref C_BadGroup)))
    (xe_BadGroup : PySem.W.excIn K C_BadGroup [.type "ValueError", .type "Exception", .type "BaseException", .type "object"] "ValueError.__new__" = true)
    (xk_BadGroup : PySem.W.keepIn K (.ref C_BadGroup) = true)
    (xb_BadGroup : PySem.W.subIn K (.ref C_BadGroup) (.type "BaseException") = some true)
    (xt_BadGroup : PySem.W.typeIn K (.ref C_BadGroup) = some (.type "type"))
    (xh_BadGroup : PySem.W.hasDictIn K C_BadGroup = true)
    (u_BadGroup_BadGroup : PySem.W.subIn K (.ref C_BadGroup) (.ref C_BadGroup) = some true)
    (a_MOST_FAULTS : PySem.W.nsIn K mainGlobals "MOST_FAULTS" = some (some (.int 10 t_MOST_FAULTS)))
    (a_MOST_NUMBER : PySem.W.nsIn K mainGlobals "MOST_NUMBER" = some (some (.int 1000000000000 t_MOST_NUMBER)))
    (a_SPAN : PySem.W.nsIn K mainGlobals "SPAN" = some (some (.int 5 t_SPAN)))
    (a_STINT : PySem.W.nsIn K mainGlobals "STINT" = some (some (.int 5 t_STINT)))
    (z_abs : PySem.W.nsIn K mainGlobals "abs" = some none)
    (z_bool : PySem.W.nsIn K mainGlobals "bool" = some none)
    (z_int : PySem.W.nsIn K mainGlobals "int" = some none)
    (z_isinstance : PySem.W.nsIn K mainGlobals "isinstance" = some none)
    (z_len : PySem.W.nsIn K mainGlobals "len" = some none)
    (z_list : PySem.W.nsIn K mainGlobals "list" = some none)
    (z_range : PySem.W.nsIn K mainGlobals "range" = some none) : Txt K mg C_Group C_BadGroup :=
  { d_is_integer := ⟨_, _, (fun_mk l_is_integer e_is_integer k_is_integer), PySem.W.mg_of X G a_is_integer, ((fun_mk (st := s_is_integer) l_is_integer e_is_integer k_is_integer).binds (ps := ["value", "least", "greatest"]) fun _ _ _ _ _ _ us hl => match us, hl with | [_, _, _], _ => rfl)⟩,
    d_epoch_of := ⟨_, _, (fun_mk l_epoch_of e_epoch_of k_epoch_of), PySem.W.mg_of X G a_epoch_of, ((fun_mk (st := s_epoch_of) l_epoch_of e_epoch_of k_epoch_of).binds (ps := ["time"]) fun _ _ _ _ _ _ us hl => match us, hl with | [_], _ => rfl)⟩,
    d_first_tick := ⟨_, _, (fun_mk l_first_tick e_first_tick k_first_tick), PySem.W.mg_of X G a_first_tick, ((fun_mk (st := s_first_tick) l_first_tick e_first_tick k_first_tick).binds (ps := ["epoch"]) fun _ _ _ _ _ _ us hl => match us, hl with | [_], _ => rfl)⟩,
    d_check_number := ⟨_, _, (fun_mk l_check_number e_check_number k_check_number), PySem.W.mg_of X G a_check_number, ((fun_mk (st := s_check_number) l_check_number e_check_number k_check_number).binds (ps := ["value"]) fun _ _ _ _ _ _ us hl => match us, hl with | [_], _ => rfl)⟩,
    d__law_draws := ⟨_, _, (fun_mk l__law_draws e__law_draws k__law_draws), PySem.W.mg_of X G a__law_draws, ((fun_mk (st := s__law_draws) l__law_draws e__law_draws k__law_draws).binds (ps := ["script"]) fun _ _ _ _ _ _ us hl => match us, hl with | [_], _ => rfl)⟩,
    d__law_next := ⟨_, _, (fun_mk l__law_next e__law_next k__law_next), PySem.W.mg_of X G a__law_next, ((fun_mk (st := s__law_next) l__law_next e__law_next k__law_next).binds (ps := ["draws", "at", "many"]) fun _ _ _ _ _ _ us hl => match us, hl with | [_, _, _], _ => rfl)⟩,
    d__law_big := ⟨_, _, (fun_mk l__law_big e__law_big k__law_big), PySem.W.mg_of X G a__law_big, ((fun_mk (st := s__law_big) l__law_big e__law_big k__law_big).binds (ps := ["draws", "at", "many"]) fun _ _ _ _ _ _ us hl => match us, hl with | [_, _, _], _ => rfl)⟩,
    d__law_is := ⟨_, _, (fun_mk l__law_is e__law_is k__law_is), PySem.W.mg_of X G a__law_is, ((fun_mk (st := s__law_is) l__law_is e__law_is k__law_is).binds (ps := ["actual", "expected"]) fun _ _ _ _ _ _ us hl => match us, hl with | [_, _], _ => rfl)⟩,
    d__law_truth := ⟨_, _, (fun_mk l__law_truth e__law_truth k__law_truth), PySem.W.mg_of X G a__law_truth, ((fun_mk (st := s__law_truth) l__law_truth e__law_truth k__law_truth).binds (ps := ["actual", "expected"]) fun _ _ _ _ _ _ us hl => match us, hl with | [_, _], _ => rfl)⟩,
    d__law_odd := ⟨_, _, (fun_mk l__law_odd e__law_odd k__law_odd), PySem.W.mg_of X G a__law_odd, ((fun_mk (st := s__law_odd) l__law_odd e__law_odd k__law_odd).binds (ps := ["number"]) fun _ _ _ _ _ _ us hl => match us, hl with | [_], _ => rfl)⟩,
    d__law_refused := ⟨_, _, (fun_mk l__law_refused e__law_refused k__law_refused), PySem.W.mg_of X G a__law_refused, ((fun_mk (st := s__law_refused) l__law_refused e__law_refused k__law_refused).binds (ps := ["which", "value"]) fun _ _ _ _ _ _ us hl => match us, hl with | [_, _], _ => rfl)⟩,
    d__law_wrong := ⟨_, _, (fun_mk l__law_wrong e__law_wrong k__law_wrong), PySem.W.mg_of X G a__law_wrong, ((fun_mk (st := s__law_wrong) l__law_wrong e__law_wrong k__law_wrong).binds (ps := ["which", "value"]) fun _ _ _ _ _ _ us hl => match us, hl with | [_, _], _ => rfl)⟩,
    d__law_members := ⟨_, _, (fun_mk l__law_members e__law_members k__law_members), PySem.W.mg_of X G a__law_members, ((fun_mk (st := s__law_members) l__law_members e__law_members k__law_members).binds (ps := ["group", "machines"]) fun _ _ _ _ _ _ us hl => match us, hl with | [_, _], _ => rfl)⟩,
    d__law_group := ⟨_, _, (fun_mk l__law_group e__law_group k__law_group), PySem.W.mg_of X G a__law_group, ((fun_mk (st := s__law_group) l__law_group e__law_group k__law_group).binds (ps := ["group", "faults", "draws", "at"]) fun _ _ _ _ _ _ us hl => match us, hl with | [_, _, _, _], _ => rfl)⟩,
    d__law_times := ⟨_, _, (fun_mk l__law_times e__law_times k__law_times), PySem.W.mg_of X G a__law_times, ((fun_mk (st := s__law_times) l__law_times e__law_times k__law_times).binds (ps := ["draws", "at"]) fun _ _ _ _ _ _ us hl => match us, hl with | [_, _], _ => rfl)⟩,
    d_law := ⟨_, _, (fun_mk l_law e_law k_law), PySem.W.mg_of X G a_law, ((fun_mk (st := s_law) l_law e_law k_law).binds (ps := ["script"]) fun _ _ _ _ _ _ us hl => match us, hl with | [_], _ => rfl)⟩,
    cl_Group := ⟨pg_Group, hd_Group, po_Group, sa_Group⟩,
    g_Group := PySem.W.mg_of X G ac_Group,
    na_Group_faults := na_Group_faults,
    na_Group_machines := na_Group_machines,
    na_Group_quorum := na_Group_quorum,
    na_Group_blocking := na_Group_blocking,
    mk_Group := ⟨_, _, ⟨mk_Group, a_Group____init__, i_Group____init__, kc_Group⟩, (fun_mk l_Group____init__ e_Group____init__ k_Group____init__), ((fun_mk (st := s_Group____init__) l_Group____init__ e_Group____init__ k_Group____init__).binds (ps := ["self", "faults"]) fun _ _ _ _ _ _ us hl => match us, hl with | [_, _], _ => rfl)⟩,
    me_Group__members := ⟨_, _, ⟨a_Group__members, i_Group__members, k_Group__members⟩, (fun_mk l_Group__members e_Group__members k_Group__members), ((fun_mk (st := s_Group__members) l_Group__members e_Group__members k_Group__members).binds (ps := ["self"]) fun _ _ _ _ _ _ us hl => match us, hl with | [_], _ => rfl)⟩,
    me_Group__is_member := ⟨_, _, ⟨a_Group__is_member, i_Group__is_member, k_Group__is_member⟩, (fun_mk l_Group__is_member e_Group__is_member k_Group__is_member), ((fun_mk (st := s_Group__is_member) l_Group__is_member e_Group__is_member k_Group__is_member).binds (ps := ["self", "value"]) fun _ _ _ _ _ _ us hl => match us, hl with | [_, _], _ => rfl)⟩,
    me_Group__leader := ⟨_, _, ⟨a_Group__leader, i_Group__leader, k_Group__leader⟩, (fun_mk l_Group__leader e_Group__leader k_Group__leader), ((fun_mk (st := s_Group__leader) l_Group__leader e_Group__leader k_Group__leader).binds (ps := ["self", "epoch"]) fun _ _ _ _ _ _ us hl => match us, hl with | [_, _], _ => rfl)⟩,
    x_BadGroup := ⟨xe_BadGroup, PySem.W.mg_of X G xa_BadGroup, xk_BadGroup, xb_BadGroup, xt_BadGroup, xh_BadGroup⟩,
    u_BadGroup_BadGroup := u_BadGroup_BadGroup,
    c_MOST_FAULTS := ⟨_, PySem.W.mg_of X G a_MOST_FAULTS, _, rfl⟩,
    c_MOST_NUMBER := ⟨_, PySem.W.mg_of X G a_MOST_NUMBER, _, rfl⟩,
    c_SPAN := ⟨_, PySem.W.mg_of X G a_SPAN, _, rfl⟩,
    c_STINT := ⟨_, PySem.W.mg_of X G a_STINT, _, rfl⟩,
    z_abs := PySem.W.mg_none_of X G z_abs,
    z_bool := PySem.W.mg_none_of X G z_bool,
    z_int := PySem.W.mg_none_of X G z_int,
    z_isinstance := PySem.W.mg_none_of X G z_isinstance,
    z_len := PySem.W.mg_none_of X G z_len,
    z_list := PySem.W.mg_none_of X G z_list,
    z_range := PySem.W.mg_none_of X G z_range }
end Law
open PySem PySem.W PyProof.Rows
set_option maxRecDepth 100000 in
set_option maxHeartbeats 0 in
theorem PySem.Challenge.cw_oathledger_k01_groups_holds : PySem.Challenge.rw_oathledger_k01_groups.Holds := by
  w_on; o_law; k_head; (case hw => w_witness2)
  k_fill
  refine L2.walk_of (l := PySem.Challenge.rw_oathledger_k01_groups) (n := 63) (k := 5) (x := "script") (CX := fun _ => L2.CX0) (sp := fun w => Law.spLaw _) rfl (by decide) rfl ⟨rfl, by decide, by decide⟩ (fun w h Y => PySem.W.kIn_of Y) ?F (fun _ _ a ns hl _ hS => ⟨a, ns, rfl, hS, hl, fun _ => rfl⟩) (fun _ _ _ _ _ h => h)
  case F =>
    intro w mg fa h KX G hmg
    refine' Law.fin hmg (Law.all_mk KX G ?a_is_integer ?l_is_integer ?e_is_integer ?k_is_integer ?a_epoch_of ?l_epoch_of ?e_epoch_of ?k_epoch_of ?a_first_tick ?l_first_tick ?e_first_tick ?k_first_tick ?a_check_number ?l_check_number ?e_check_number ?k_check_number ?a__law_draws ?l__law_draws ?e__law_draws ?k__law_draws ?a__law_next ?l__law_next ?e__law_next ?k__law_next ?a__law_big ?l__law_big ?e__law_big ?k__law_big ?a__law_is ?l__law_is ?e__law_is ?k__law_is ?a__law_truth ?l__law_truth ?e__law_truth ?k__law_truth ?a__law_odd ?l__law_odd ?e__law_odd ?k__law_odd ?a__law_refused ?l__law_refused ?e__law_refused ?k__law_refused ?a__law_wrong ?l__law_wrong ?e__law_wrong ?k__law_wrong ?a__law_members ?l__law_members ?e__law_members ?k__law_members ?a__law_group ?l__law_group ?e__law_group ?k__law_group ?a__law_times ?l__law_times ?e__law_times ?k__law_times ?a_law ?l_law ?e_law ?k_law ?ac_Group ?pg_Group ?hd_Group ?po_Group ?sa_Group ?mk_Group ?kc_Group ?na_Group_faults ?na_Group_machines ?na_Group_quorum ?na_Group_blocking ?a_Group____init__ ?i_Group____init__ ?l_Group____init__ ?e_Group____init__ ?k_Group____init__ ?a_Group__members ?i_Group__members ?l_Group__members ?e_Group__members ?k_Group__members ?a_Group__is_member ?i_Group__is_member ?l_Group__is_member ?e_Group__is_member ?k_Group__is_member ?a_Group__leader ?i_Group__leader ?l_Group__leader ?e_Group__leader ?k_Group__leader ?xa_BadGroup ?xe_BadGroup ?xk_BadGroup ?xb_BadGroup ?xt_BadGroup ?xh_BadGroup ?u_BadGroup_BadGroup ?a_MOST_FAULTS ?a_MOST_NUMBER ?a_SPAN ?a_STINT ?z_abs ?z_bool ?z_int ?z_isinstance ?z_len ?z_list ?z_range)
    (case a_is_integer => k_is)
    (case l_is_integer => k_is)
    (case e_is_integer => k_is)
    (case k_is_integer => k_is)
    (case a_epoch_of => k_is)
    (case l_epoch_of => k_is)
    (case e_epoch_of => k_is)
    (case k_epoch_of => k_is)
    (case a_first_tick => k_is)
    (case l_first_tick => k_is)
    (case e_first_tick => k_is)
    (case k_first_tick => k_is)
    (case a_check_number => k_is)
    (case l_check_number => k_is)
    (case e_check_number => k_is)
    (case k_check_number => k_is)
    (case a__law_draws => k_is)
    (case l__law_draws => k_is)
    (case e__law_draws => k_is)
    (case k__law_draws => k_is)
    (case a__law_next => k_is)
    (case l__law_next => k_is)
    (case e__law_next => k_is)
    (case k__law_next => k_is)
    (case a__law_big => k_is)
    (case l__law_big => k_is)
    (case e__law_big => k_is)
    (case k__law_big => k_is)
    (case a__law_is => k_is)
    (case l__law_is => k_is)
    (case e__law_is => k_is)
    (case k__law_is => k_is)
    (case a__law_truth => k_is)
    (case l__law_truth => k_is)
    (case e__law_truth => k_is)
    (case k__law_truth => k_is)
    (case a__law_odd => k_is)
    (case l__law_odd => k_is)
    (case e__law_odd => k_is)
    (case k__law_odd => k_is)
    (case a__law_refused => k_is)
    (case l__law_refused => k_is)
    (case e__law_refused => k_is)
    (case k__law_refused => k_is)
    (case a__law_wrong => k_is)
    (case l__law_wrong => k_is)
    (case e__law_wrong => k_is)
    (case k__law_wrong => k_is)
    (case a__law_members => k_is)
    (case l__law_members => k_is)
    (case e__law_members => k_is)
    (case k__law_members => k_is)
    (case a__law_group => k_is)
    (case l__law_group => k_is)
    (case e__law_group => k_is)
    (case k__law_group => k_is)
    (case a__law_times => k_is)
    (case l__law_times => k_is)
    (case e__law_times => k_is)
    (case k__law_times => k_is)
    (case a_law => k_is)
    (case l_law => k_is)
    (case e_law => k_is)
    (case k_law => k_is)
    (case ac_Group => k_is)
    (case pg_Group => k_is)
    (case hd_Group => k_is)
    (case po_Group => k_is)
    (case sa_Group => k_is)
    (case mk_Group => k_is)
    (case kc_Group => k_is)
    (case na_Group_faults => k_is)
    (case na_Group_machines => k_is)
    (case na_Group_quorum => k_is)
    (case na_Group_blocking => k_is)
    (case a_Group____init__ => k_is)
    (case i_Group____init__ => k_is)
    (case l_Group____init__ => k_is)
    (case e_Group____init__ => k_is)
    (case k_Group____init__ => k_is)
    (case a_Group__members => k_is)
    (case i_Group__members => k_is)
    (case l_Group__members => k_is)
    (case e_Group__members => k_is)
    (case k_Group__members => k_is)
    (case a_Group__is_member => k_is)
    (case i_Group__is_member => k_is)
    (case l_Group__is_member => k_is)
    (case e_Group__is_member => k_is)
    (case k_Group__is_member => k_is)
    (case a_Group__leader => k_is)
    (case i_Group__leader => k_is)
    (case l_Group__leader => k_is)
    (case e_Group__leader => k_is)
    (case k_Group__leader => k_is)
    (case xa_BadGroup => k_is)
    (case xe_BadGroup => first | k_is | k_exc)
    (case xk_BadGroup => k_is)
    (case xb_BadGroup => k_is)
    (case xt_BadGroup => k_is)
    (case xh_BadGroup => k_is)
    (case u_BadGroup_BadGroup => k_is)
    (case a_MOST_FAULTS => k_is)
    (case a_MOST_NUMBER => k_is)
    (case a_SPAN => k_is)
    (case a_STINT => k_is)
    (case z_abs => k_is)
    (case z_bool => k_is)
    (case z_int => k_is)
    (case z_isinstance => k_is)
    (case z_len => k_is)
    (case z_list => k_is)
    (case z_range => k_is)

