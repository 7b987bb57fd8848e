import PyProof.Rows.All
import Wide.All
import OpenK.AllK
import Wide.FinOn
import HandS.ForMost
import HandS.Walk
import HandS.Flow
import HandS.Codes
import HandS.IsInst
import HandS.Conv
import HandS.StrMore
import PyProof.MeetsSeq2
import PyProof.DictTable
import HandS.Wide
import HandS.TupAny
import HandS.More
import HandS.Dict
import HandS.ForExc
import HandS.ExcIs
import HandS.ExcField
import HandS.DeepEq
import HandS.TupLe
import HandS.Steps
import HandS.ExcInit
import HandS.SortRule
import HandS.RaiseMore
import PySem.Challenge.RW_oathledger_k70_net_of_packets
set_option Elab.async false
set_option linter.all false
set_option maxRecDepth 100000
set_option maxHeartbeats 4000000
namespace Law
open PySem PySem.Spec PyProof.Rows L2
open C8 (Cal Met Mak pe_c pe_mk pe_mt pe_mt0 pe_gc pss_cut tCut)
/-! ### a def of the top, by its name -/
structure DefOk (K : PySem.W.Frag) (mg : Str → Option Value) (x : Str) (st : Stmt) (ps : List Str) : Prop where
  ex : ∃ (f : Addr) (fd : FuncData), L2.Fun K x x st f fd ∧ mg x = some (.ref f) ∧ Binds K fd ps []
section
variable {P : Program} {w : World} {K : PySem.W.Frag} {mg : Str → Option Value} {base : Heap}
/-- a def's promise, by its body -/
theorem cal {x : Str} {st : Stmt} {N ps : List Str} {k : Nat} {sp : Sp} (D : DefOk K mg x st ps) (S : FnScope N ps (defScope st)) (len : ∀ vs H Q E, sp vs H Q E → vs.length = ps.length)
    (hbody : ∀ (f : Addr) (cdv : Value) (A : Around) (outer : List Env) (s : Shared) (H : Hp) (vs : List V) (Q : VK) (E : XK), Room k (A.deeper (envOfC x (defScope st) s.heap.objs.size f cdv)) → sp vs H Q E →
      ∃ t, PSs (cxOf L2.CX0 P w K mg base N x (defScope st) f cdv A outer s H E).nox (defBody st) t ∧ t { nx := fun _ H' => Q .non H', rt := Q } (start N vs) H) : Cal P w K mg base (k + 1) x sp [] := by
  obtain ⟨f, fd, F, hm, b⟩ := D.ex
  exact ⟨f, fd, ps, [], F.ok S len (fun cdv A outer s H vs Q E hr h => hbody f cdv A outer s H vs Q E hr h), hm, F.kp, b, .nil⟩
/-- a call without arguments -/
theorem pe_c0 {X : Cx} {k j : Nat} {x : Str} {sp : Sp} {dvs : List V} {p pos : Pos} (c : Cal X.prog X.w X.K X.mg X.base k x sp dvs) (hr : Room j X.A) (hk : k ≤ j) (hg : Gl X x)
    (hdb : (x == ("__debug__" : Str)) = false := by decide) : PE X (.Call (.Name x p) [] [] pos) (tCall sp dvs L2.E0 tNil) := by
  obtain ⟨f, fd, ps, ds, F, hm, kp, b, d⟩ := c.ex
  exact pe_call0 F (hr.mono hk) hg hm kp b d pass0 hdb
end
/-! ### small things -/
theorem same_upd {H : Hp} {p : Addr} {o : HO} (h : H p = none) : Same H (upd H p o) := fun b x e => by
  rw [upd_ne (ne_of_none e h)]
  exact e
theorem same_mut {H H' : Hp} {p : Addr} {o : HO} (s : Same H H') (h : H p = none) : Same H (upd H' p o) := fun b x e => by
  rw [upd_ne (ne_of_none e h)]
  exact s b x e
theorem sz1000 {n : Nat} (h : n ≤ 100000) : n ≤ sizeLine := Nat.le_trans h (by decide)
theorem sz1000' {n : Nat} (h : n < 100000) : n < sizeLine := Nat.lt_of_lt_of_le h (by decide)
theorem sz1000'' {n : Nat} (h : n ≤ 16777216) : n ≤ sizeLine := by rw [sizeLine_eq]; exact h
theorem sq {K : PySem.W.Frag} {H : Hp} {a : Addr} {xs : List V} (h : H a = some (.lst xs)) : SqL K H a xs := .inl (.inl h)
def spLaw (K : PySem.W.Frag) : Sp := fun vs H Q _ => ∃ (a : Addr) (ns : List Int), vs = [.ref a] ∧ SqL K H a (ns.map V.int) ∧ ns.length ≤ 63 ∧ ∀ H', Q (.bl true) H'
/-! ### the reading, step by step -/
local macro_rules | `(tactic| walk_at "sd") => `(tactic| first
  | omega
  | decide
  | assumption
  | (show _ ∨ _; exact Or.inl ⟨by omega, by omega⟩)
  | (show _ ∨ _; exact Or.inr ⟨by omega, by omega⟩)
  | (show _ ∧ _; exact ⟨by omega, by omega⟩)
  | (show _ ∧ _; exact ⟨by decide, by decide⟩)
  | exact sz1000 (by omega)
  | exact sz1000' (by omega))
local macro_rules | `(tactic| walk_at "sz") => `(tactic| first
  | exact sz1000 (Nat.le_of_ble_eq_true rfl)
  | exact sz1000 (by omega)
  | exact sz1000'' (by omega)
  | assumption)
/-- one step of a reading: a slot, an operator upon numbers, a call upon values -/
local macro_rules | `(tactic| walk_at "rd") => `(tactic| first
  | refine ⟨_, (rfl : (_ : List (Option V))[_]? = some (some _)), ?_⟩
  | refine ⟨_, _, (rfl : (_ : V) = _), (rfl : (_ : V) = _), (by walk_at "sd" : (_ : Prop)), ?_⟩
  | refine ⟨_, _, (rfl : (_ : V) = _), (rfl : (_ : V) = _), ?_⟩
  | refine ⟨_, (rfl : (_ : List V) = _), (by walk_at "sd" : (_ : Prop)), (by walk_at "sd" : (_ : Prop)), ?_⟩
  | refine ⟨_, (rfl : (_ : List V) = _), ?_⟩
  | refine ⟨_, (rfl : (_ : V) = _), ?_⟩
  | refine .inl ⟨_, (rfl : (_ : List V) = _), ?_⟩
  | refine ⟨⟨_, (rfl : (_ : V) = _)⟩, ?_⟩
  | refine ⟨(rfl : scal _ _ = true), ?_⟩
  | refine ⟨(rfl : V.non = V.non), ?_⟩
  | refine ⟨(by walk_at "sz" : (_ ≤ sizeLine)), ?_⟩)
local macro_rules | `(tactic| walk_at "rds") => `(tactic| repeat walk_at "rd")
theorem tyes {σ : L2.St} {H : Hp} {A B : Hp → Prop} (h : A H) : tYes σ H (fun b H3 => if b = true then A H3 else B H3) := by
  show (if true = true then A H else B H)
  rw [if_pos rfl]
  exact h
theorem sum_ones {ys : List Str} (h : ∀ y ∈ ys, y.length = 1) : (ys.map (fun x => x.length)).sum = ys.length := by
  induction ys with
  | nil => rfl
  | cons y r ih =>
    rw [List.map_cons, List.sum_cons, ih (fun z hz => h z (List.mem_cons_of_mem _ hz)), h y List.mem_cons_self, List.length_cons]
    omega
theorem chr_at {z : Str} {i : Int} (h0 : 0 ≤ i) (h1 : i < z.length) : ∃ c, atI z.cps.toList i = some c := by
  obtain ⟨j, rfl⟩ := Int.eq_ofNat_of_zero_le h0
  have hj : j < z.cps.toList.length := by
    rw [Array.length_toList]
    exact Int.ofNat_lt.mp h1
  exact ⟨z.cps.toList[j], atI_nat (List.getElem?_eq_getElem hj)⟩
/-- what an append to a tracked new list leaves -/
theorem lst_app {α : Type} {H : Hp} {D : Addr} {f : α → V} {ys : List α} {y : α} : upd H D (.lst (ys.map f ++ [f y])) D = some (.lst ((ys ++ [y]).map f)) := by
  rw [upd_same, List.map_append]
  rfl
theorem rg40 {n : Nat} (h : n ≤ 100000) : RgC 0 n 40 ((n + 39) / 40) := by
  have e : Builtin.Range.rangeSize 0 (n : Int) 40 = (((n + 39) / 40 : Nat) : Int) := by
    rw [rangeSize_pos (by decide) (by omega)]
    omega
  refine ⟨by decide, by decide, ?_, e⟩
  unfold Builtin.Range.small
  rw [e]
  unfold Builtin.Range.rangeFitsLong
  simp
  omega
theorem isi {K : PySem.W.Frag} {H : Hp} {x : V} {T1 T2 : String} {b : Bool} {Q : VK} (ty : TyX K H x (.type T1)) (e : kitB T1 T2 = some b) (q : Q (.bl b) H) : rIsi K [x, .ty T2] H Q :=
  ⟨x, .ty T2, _, _, b, rfl, .ty _, ty, kit_ty e, q⟩
theorem ifT {c : Bool} {A B : Prop} (hc : c = true) (h : A) : if c = true then A else B := by
  rw [if_pos hc]
  exact h
theorem ifF {c : Bool} {A B : Prop} (hc : c = false) (h : B) : if c = true then A else B := by
  rw [if_neg (by rw [hc]; decide)]
  exact h
local macro_rules | `(tactic| walk_at "isk") => `(tactic| first
  | exact .base (.int _) | exact .base (.str _) | exact .base (.bl _) | exact .base .non
  | exact .base (.lst (by assumption)) | exact .base (.tup (by assumption)) | exact .base (.dK (by assumption)))
/-- isinstance(x, T) with a built-in T; the object's fact stands in the context -/
local macro_rules | `(tactic| walk_at "isi") => `(tactic| first
  | refine ⟨_, .ty _, _, _, true, (rfl : (_ : List V) = _), .ty _, (by walk_at "isk"), kit_ty (by decide +kernel), ?_⟩
  | refine ⟨_, .ty _, _, _, false, (rfl : (_ : List V) = _), .ty _, (by walk_at "isk"), kit_ty (by decide +kernel), ?_⟩)
/-! ### classes of the top -/
structure MethOk (K : PySem.W.Frag) (C : Addr) (m qual : Str) (st : Stmt) (ps : List Str) : Prop where
  ex : ∃ (f : Addr) (fd : FuncData), Meth K C m f ∧ L2.Fun K m qual st f fd ∧ Binds K fd ps []
structure MakOk (K : PySem.W.Frag) (C : Addr) (qual : Str) (st : Stmt) (ps : List Str) : Prop where
  ex : ∃ (f : Addr) (fd : FuncData), Mk K C f ∧ L2.Fun K "__init__" qual st f fd ∧ Binds K fd ps []
section
variable {P : Program} {w : World} {K : PySem.W.Frag} {mg : Str → Option Value} {base : Heap}
theorem met {C : Addr} {m qual : Str} {st : Stmt} {N ps : List Str} {k : Nat} {sp : Sp} (c : Cls K C) (D : MethOk K C m qual st ps) (S : FnScope N ps (defScope st)) (len : ∀ vs H Q E, sp vs H Q E → vs.length = ps.length)
    (hbody : ∀ (f : Addr) (cdv : Value) (A : Around) (outer : List Env) (s : Shared) (H : Hp) (vs : List V) (Q : VK) (E : XK), Room k (A.deeper (envOfC qual (defScope st) s.heap.objs.size f cdv)) → sp vs H Q E →
      ∃ t, PSs (cxOf L2.CX0 P w K mg base N qual (defScope st) f cdv A outer s H E).nox (defBody st) t ∧ t { nx := fun _ H' => Q .non H', rt := Q } (start N vs) H) : Met P w K mg base (k + 1) C m sp [] := by
  obtain ⟨f, fd, M, F, b⟩ := D.ex
  exact ⟨f, fd, ps, [], c, M, F.ok S len (fun cdv A outer s H vs Q E hr h => hbody f cdv A outer s H vs Q E hr h), b, .nil⟩
theorem mak {C : Addr} {x qual : Str} {st : Stmt} {N ps : List Str} {k : Nat} {sp : Sp} (hm : mg x = some (.ref C)) (D : MakOk K C qual st ps) (S : FnScope N ps (defScope st)) (len : ∀ vs H Q E, sp vs H Q E → vs.length = ps.length)
    (hbody : ∀ (f : Addr) (cdv : Value) (A : Around) (outer : List Env) (s : Shared) (H : Hp) (vs : List V) (Q : VK) (E : XK), Room k (A.deeper (envOfC qual (defScope st) s.heap.objs.size f cdv)) → sp vs H Q E →
      ∃ t, PSs (cxOf L2.CX0 P w K mg base N qual (defScope st) f cdv A outer s H E).nox (defBody st) t ∧ t { nx := fun _ H' => Q .non H', rt := Q } (start N vs) H) : Mak P w K mg base (k + 1) x C sp [] := by
  obtain ⟨f, fd, M, F, b⟩ := D.ex
  exact ⟨f, fd, ps, [], M, F.ok S len (fun cdv A outer s H vs Q E hr h => hbody f cdv A outer s H vs Q E hr h), hm, b, .nil⟩
end
/-- a tuple of the top, in the written part -/
def KTup (K : PySem.W.Frag) (a : Addr) (xs : List V) : Prop := ∃ o its n, K.lookup a = some o ∧ o.cls = Value.type "tuple" ∧ o.data = Data.seq its n ∧ its.size ≤ sizeLine ∧ Vals xs its.toList
theorem pe_mk0 {X : Cx} {k j : Nat} {x : Str} {C : Addr} {sp : Sp} {dvs : List V} {p pos : Pos} (c : Mak X.prog X.w X.K X.mg X.base k x C sp dvs) (hr : Room j X.A) (hk : k + 1 ≤ j) (hg : Gl X x)
    (hdb : (x == ("__debug__" : Str)) = false := by decide) : PE X (.Call (.Name x p) [] [] pos) (tMake C sp dvs L2.E0 tNil) := by
  obtain ⟨f, fd, ps, ds, M, F, hm, b, d⟩ := c.ex
  exact pe_make0 M F (hr.mono hk) hg hm b d pass0 hdb
/-! ### rules whose written part is named K (a comprehension's context is another one) -/
section
variable {X : Cx} {K : PySem.W.Frag}
theorem kin (h : X.K = K := by rfl) : OpR X (compareOp .In) (rIn K false) := by subst h; exact op_in_seq
theorem knin (h : X.K = K := by rfl) : OpR X (compareOp .NotIn) (rIn K true) := by subst h; exact op_notIn_seq
theorem kixl (h : X.K = K := by rfl) : IxR X (rIxL K) := by subst h; exact ix_list
theorem kixt (h : X.K = K := by rfl) : IxR X (rIxT K) := by subst h; exact ix_tup
theorem ksll (h : X.K = K := by rfl) : SlR X (rSlL K) := by subst h; exact sl_list
theorem kisi (h : X.K = K := by rfl) : CallR X (.builtin "isinstance") (rIsi K) := by subst h; exact call_isi
theorem kfld {o : Expr} {f : Str} {pos : Pos} {ta : TE} (he : PE X o ta) (hb : attributeBase o f X.env (eval o X.env) = eval o X.env := by rfl) (h : X.K = K := by rfl) : PE X (.Attribute o f pos) (tFld K ta f) := by subst h; exact pe_fld he hb
def rLenK (K : PySem.W.Frag) : List V → Hp → VK → Prop := fun xs H Q => ∃ p ys, xs = [.ref p] ∧ (SqL K H p ys ∨ SqT K H p ys) ∧ Q (.int ys.length) H
theorem klen (h : X.K = K := by rfl) : CallR X (.builtin "len") (rLenK K) := by subst h; exact call_len_seq
end
theorem hu1 {k : Nat} {A : Around} (hr : Room k A) : A.units + 1 < cLine := by have := hr.units; omega

/-! ### defs that raise own exceptions -/
theorem kit_own {K : PySem.W.Frag} {B C : Addr} (h1 : PySem.W.subIn K (.ref C) (.type "BaseException") = some true) (h2 : PySem.W.typeIn K (.ref C) = some (.type "type")) (h3 : PySem.W.subIn K (.ref B) (.ref C) = some true) : PySem.W.kitOne K (.ref B) (.ref C) = some true := by
  have h0 : (PySem.W.clsIn K C).isSome = true := by
    have h1 : PySem.W.mroIn K C (.type "BaseException") = some true := h1
    unfold PySem.W.mroIn at h1
    cases e : PySem.W.clsIn K C with
    | some _ => rfl
    | none => rw [e] at h1; cases h1
  unfold PySem.W.kitOne
  split
  · rfl
  · show (if ((PySem.W.clsIn K C).isSome && PySem.W.typeIn K (.ref C) == some (.type "type")) = true then PySem.W.subIn K (.ref B) (.ref C) else none) = some true
    rw [h0, h2, h3]
    rfl
section
variable {X : Cx}
/-- C() of an own exception class without an __init__ of its own -/
theorem pmk_own0 {x : Str} {C : Addr} {bmB : List Value} {B newId initId : String} {p pos : Pos} (F : ExcBaseFacts B newId initId bmB) (q : PySem.W.excIn X.K C bmB newId = true) (gC : X.mg x = some (.ref C)) (kC : PySem.W.keepIn X.K (.ref C) = true) (r : Raises X (.ref C)) (hg : Gl X x)
    (hdb : (x == ("__debug__" : Str)) = false := by decide) : PMk X (.Call (.Name x p) [] [] pos) (fun _ H Q => Q (.ref C) none H) := by
  intro pins s σ H Q I h
  refine wpAny_Call_Name_kw (ld_glob I hg gC ?_ hdb)
  refine PySem.W.callWith_K0 I.kIn kC ?_
  show wpAny _ _ (call (.ref C) []) _ _ _
  obtain ⟨bm, N, nm, qn, bs, hdct, sn, sub, ab, col, dd, k0, k1, k2, k3, k5, mN, hC, hN, hni, T⟩ := exc_obj I.kIn q
  refine wpAny_call_exc_subT F T hC hN hni (fun h' e hm => ?_) (Nat.zero_le _)
  exact mk_of I hm r h (I.hok.gone hm.new)
end
/-- an own exception class over ValueError -/
structure ExOk (K : PySem.W.Frag) (mg : Str → Option Value) (x : Str) (C : Addr) : Prop where
  ex : PySem.W.excIn K C [.type "ValueError", .type "Exception", .type "BaseException", .type "object"] "ValueError.__new__" = true
  g : mg x = some (.ref C)
  kp : PySem.W.keepIn K (.ref C) = true
  bp : PySem.W.subIn K (.ref C) (.type "BaseException") = some true
  tp : PySem.W.typeIn K (.ref C) = some (.type "type")
  hd : PySem.W.hasDictIn K C = true
theorem ExOk.exm {K : PySem.W.Frag} {mg : Str → Option Value} {x : Str} {C : Addr} {cls : Value} {b : Bool} (e : ExOk K mg x C) (h : PySem.W.subIn K cls (.ref C) = some b) : PySem.W.exmOne K cls (.ref C) = some b := PySem.W.exm_ref e.bp e.hd e.tp h
theorem pmk_ok {X : Cx} {x : Str} {C : Addr} {p pos : Pos} (e : ExOk X.K X.mg x C) (hg : Gl X x) (hdb : (x == ("__debug__" : Str)) = false := by decide) : PMk X (.Call (.Name x p) [] [] pos) (fun _ H Q => Q (.ref C) none H) :=
  pmk_own0 PySem.F.excBase_ValueError e.ex e.g e.kp (raises_own e.bp e.tp) hg hdb
/-! the promises of such defs -/
structure CalX (P : Program) (w : World) (K : PySem.W.Frag) (mg : Str → Option Value) (base : Heap) (k : Nat) (x : Str) (sp : Sp) : Prop where
  ex : ∃ (f : Addr) (fd : FuncData) (ps : List Str), FnOk P w K mg base (L2.CX P w) k f fd ps sp ∧ mg x = some (.ref f) ∧ PySem.W.keepIn K (.ref f) = true ∧ Binds K fd ps []
structure MetX (P : Program) (w : World) (K : PySem.W.Frag) (mg : Str → Option Value) (base : Heap) (k : Nat) (C : Addr) (m : Str) (sp : Sp) : Prop where
  ex : ∃ (f : Addr) (fd : FuncData) (ps : List Str), Cls K C ∧ Meth K C m f ∧ FnOk P w K mg base (L2.CX P w) k f fd ps sp ∧ Binds K fd ps []
structure MakX (P : Program) (w : World) (K : PySem.W.Frag) (mg : Str → Option Value) (base : Heap) (k : Nat) (x : Str) (C : Addr) (sp : Sp) : Prop where
  ex : ∃ (f : Addr) (fd : FuncData) (ps : List Str), Mk K C f ∧ FnOk P w K mg base (L2.CX P w) k f fd ps sp ∧ mg x = some (.ref C) ∧ Binds K fd ps []
section
variable {P : Program} {w : World} {K : PySem.W.Frag} {mg : Str → Option Value} {base : Heap}
theorem calX {x : Str} {st : Stmt} {N ps : List Str} {k : Nat} {sp : Sp} (D : DefOk K mg x st ps) (S : FnScope N ps (defScope st)) (len : ∀ vs H Q E, sp vs H Q E → vs.length = ps.length)
    (hbody : ∀ (f : Addr) (cdv : Value) (A : Around) (outer : List Env) (s : Shared) (H : Hp) (vs : List V) (Q : VK) (E : XK), Room k (A.deeper (envOfC x (defScope st) s.heap.objs.size f cdv)) → sp vs H Q E →
      ∃ t, PSs (cxOf (L2.CX P w) P w K mg base N x (defScope st) f cdv A outer s H E) (defBody st) t ∧ t { nx := fun _ H' => Q .non H', rt := Q } (start N vs) H) : CalX P w K mg base (k + 1) x sp := by
  obtain ⟨f, fd, F, hm, b⟩ := D.ex
  exact ⟨f, fd, ps, F.okX S len (fun cdv A outer s H vs Q E hr h => hbody f cdv A outer s H vs Q E hr h), hm, F.kp, b⟩
theorem metX {C : Addr} {m qual : Str} {st : Stmt} {N ps : List Str} {k : Nat} {sp : Sp} (c : Cls K C) (D : MethOk K C m qual st ps) (S : FnScope N ps (defScope st)) (len : ∀ vs H Q E, sp vs H Q E → vs.length = ps.length)
    (hbody : ∀ (f : Addr) (cdv : Value) (A : Around) (outer : List Env) (s : Shared) (H : Hp) (vs : List V) (Q : VK) (E : XK), Room k (A.deeper (envOfC qual (defScope st) s.heap.objs.size f cdv)) → sp vs H Q E →
      ∃ t, PSs (cxOf (L2.CX P w) P w K mg base N qual (defScope st) f cdv A outer s H E) (defBody st) t ∧ t { nx := fun _ H' => Q .non H', rt := Q } (start N vs) H) : MetX P w K mg base (k + 1) C m sp := by
  obtain ⟨f, fd, M, F, b⟩ := D.ex
  exact ⟨f, fd, ps, c, M, F.okX S len (fun cdv A outer s H vs Q E hr h => hbody f cdv A outer s H vs Q E hr h), b⟩
theorem makX {C : Addr} {x qual : Str} {st : Stmt} {N ps : List Str} {k : Nat} {sp : Sp} (hm : mg x = some (.ref C)) (D : MakOk K C qual st ps) (S : FnScope N ps (defScope st)) (len : ∀ vs H Q E, sp vs H Q E → vs.length = ps.length)
    (hbody : ∀ (f : Addr) (cdv : Value) (A : Around) (outer : List Env) (s : Shared) (H : Hp) (vs : List V) (Q : VK) (E : XK), Room k (A.deeper (envOfC qual (defScope st) s.heap.objs.size f cdv)) → sp vs H Q E →
      ∃ t, PSs (cxOf (L2.CX P w) P w K mg base N qual (defScope st) f cdv A outer s H E) (defBody st) t ∧ t { nx := fun _ H' => Q .non H', rt := Q } (start N vs) H) : MakX P w K mg base (k + 1) x C sp := by
  obtain ⟨f, fd, M, F, b⟩ := D.ex
  exact ⟨f, fd, ps, M, F.okX S len (fun cdv A outer s H vs Q E hr h => hbody f cdv A outer s H vs Q E hr h), hm, b⟩
end
/-! their calls: E tells at the slots what is wished of an error -/
section
variable {X : Cx} {k j : Nat} {C : Addr} {x m : Str} {sp : Sp} {p pos apos : Pos} {e o : Expr} {es : List Expr} {ta : TE} {t : TA} {E : L2.St → XK}
theorem pe_cX (c : CalX X.prog X.w X.K X.mg X.base k x sp) (hr : Room j X.A) (hk : k ≤ j) (hg : Gl X x) (hx : ∀ σ, PassesAt (L2.CX X.prog X.w) X σ (E σ)) (ha : PA X (e :: es) t)
    (hdb : (x == ("__debug__" : Str)) = false := by decide) (he : starEach (e :: es) X.env = (false, eval e X.env) :: starEach es X.env := by rfl) (hpl : (backTo pos (starEach es X.env)).any (·.1) = false := by rfl) :
    PE X (.Call (.Name x p) (e :: es) [] pos) (tCallS sp E t) := by
  obtain ⟨f, fd, ps, F, hm, kp, b⟩ := c.ex
  exact pe_callS F (hr.mono hk) hg hm kp b hx ha hdb he hpl
/-- where nothing is raised -/
theorem pe_cXn (c : CalX X.prog X.w X.K X.mg X.base k x sp) (hr : Room j X.A) (hk : k ≤ j) (hg : Gl X x) (ha : PA X (e :: es) t)
    (hdb : (x == ("__debug__" : Str)) = false := by decide) (he : starEach (e :: es) X.env = (false, eval e X.env) :: starEach es X.env := by rfl) (hpl : (backTo pos (starEach es X.env)).any (·.1) = false := by rfl) :
    PE X (.Call (.Name x p) (e :: es) [] pos) (tCall sp [] L2.E0 t) := by
  obtain ⟨f, fd, ps, F, hm, kp, b⟩ := c.ex
  exact pe_call F (hr.mono hk) hg hm kp b .nil passL ha hdb he hpl
def tMethX (C : Addr) (m : Str) (sp : Sp) (E : L2.St → XK) (ta : TE) (t : TA) : TE := fun σ H Q => ta σ H fun x H1 => ∃ a dx fs, x = .ref a ∧ H1 a = some (.ins C dx fs) ∧ fs.lookup m = none ∧ t σ H1 fun vs H2 => sp (.ref a :: vs) H2 Q (E σ)
theorem pe_mtX {pl : Sem Bool} (c : MetX X.prog X.w X.K X.mg X.base k C m sp) (hr : Room j X.A) (hk : k ≤ j) (hx : ∀ σ, PassesAt (L2.CX X.prog X.w) X σ (E σ)) (he : PE X o ta) (ha : PA X (e :: es) t)
    (hst : starEach (e :: es) X.env = (false, eval e X.env) :: starEach es X.env := by rfl) (hpl : (backTo pos (starEach es X.env)).any (·.1) = false := by rfl)
    (ht : eval (.Call (.Attribute o m apos) (e :: es) [] pos) X.env = (do
      let ov ← eval o X.env
      standAt apos.atName
      let (f, first) ← holding [ov] (getMethod ov m pl)
      callWith pos f first (backTo pos (starEach (e :: es) X.env)) (backToKw pos (keywordEach [] X.env))) := by rfl) :
    PE X (.Call (.Attribute o m apos) (e :: es) [] pos) (tMethX C m sp E ta t) := by
  obtain ⟨f, fd, ps, hc, hm, F, b⟩ := c.ex
  refine ⟨fun pins s σ H Q I h => ?_⟩
  refine PySem.W.methodCall_KW (pl := pl) (thn (he.run pins s σ H _ I h) fun u s1 ⟨x, H1, I1, rx, a, dx, fs, ex, ea, l, q⟩ => ?_) ht
  subst ex
  obtain rfl : u = Value.ref a := rx
  refine getmeth_ok I1 ea hc hm l ?_
  refine PySem.W.callWith_K (first := [.ref a]) (h₀ := X.base) I.ok.mod.kin hm.kp (thn (ha.run pos pins s1 σ H1 _ I1 q) fun us s2 ⟨vs, H2, I2, r, q2⟩ => ⟨I2.kIn, ?_⟩) hst hpl
  exact run_fnS (us := .ref a :: us) (vs := .ref a :: vs) F (hr.mono hk) b (hx σ) I2 (.cons rfl r) q2
theorem pe_mtX0 {pl : Sem Bool} (c : MetX X.prog X.w X.K X.mg X.base k C m sp) (hr : Room j X.A) (hk : k ≤ j) (hx : ∀ σ, PassesAt (L2.CX X.prog X.w) X σ (E σ)) (he : PE X o ta)
    (ht : eval (.Call (.Attribute o m apos) [] [] pos) X.env = (do
      let ov ← eval o X.env
      standAt apos.atName
      let (f, first) ← holding [ov] (getMethod ov m pl)
      callWith pos f first (backTo pos (starEach [] X.env)) (backToKw pos (keywordEach [] X.env))) := by rfl) :
    PE X (.Call (.Attribute o m apos) [] [] pos) (tMethX C m sp E ta tNil) := by
  obtain ⟨f, fd, ps, hc, hm, F, b⟩ := c.ex
  refine ⟨fun pins s σ H Q I h => ?_⟩
  refine PySem.W.methodCall_KW (pl := pl) (thn (he.run pins s σ H _ I h) fun u s1 ⟨x, H1, I1, rx, a, dx, fs, ex, ea, l, q⟩ => ?_) ht
  subst ex
  obtain rfl : u = Value.ref a := rx
  refine getmeth_ok I1 ea hc hm l ?_
  exact PySem.W.callWith_K0 (first := [.ref a]) I1.kIn hm.kp (run_fnS (us := [.ref a]) (vs := [.ref a]) F (hr.mono hk) b (hx σ) I1 (.cons rfl .nil) q)
def tMakeX (C : Addr) (sp : Sp) (E : L2.St → XK) (t : TA) : TE := fun σ H Q => t σ H fun vs H1 => ∀ x dx, H1 x = none → H1 dx = none → dx ≠ x → sp (.ref x :: vs) (upd (upd H1 dx (.own x)) x (.ins C dx [])) (fun v H2 => v = .non ∧ Q (.ref x) H2) (E σ)
theorem run_makeX {CX : CXT} {f : Addr} {fd : FuncData} {ps : List Str} {pins : List (Addr × Obj)} {σ : L2.St} {H : Hp} {s : Shared} {Q : VK} {us : List Value} {vs : List V} {Eσ : XK} (M : Mk X.K C f) (F : FnOk X.prog X.w X.K X.mg X.base CX k f fd ps sp) (hr : Room (k + 1) X.A) (hb : Binds X.K fd ps [])
    (hx : PassesAt CX X σ Eσ) (I : Inv X pins σ H s) (r : Vals vs us)
    (h : ∀ x dx, H x = none → H dx = none → dx ≠ x → sp (.ref x :: vs) (upd (upd H dx (.own x)) x (.ins C dx [])) (fun v H2 => v = .non ∧ Q (.ref x) H2) Eσ) :
    wpAny (model X.prog X.w) X.A (call (.ref C) us) (EP X pins σ Q) X.xe s := by
  have hq := h (s.heap.objs.size + 1) s.heap.objs.size (I.hok.fresh (Nat.le_succ _)) (I.hok.fresh (Nat.le_refl _)) (Nat.ne_of_lt (Nat.lt_succ_self _))
  have I2 := Inv.made (C := C) I
  have r2 : Vals (V.ref (s.heap.objs.size + 1) :: vs) (Value.ref (s.heap.objs.size + 1) :: us) := .cons rfl r
  have hl : (Value.ref (s.heap.objs.size + 1) :: us ++ ([] : List Value)).length = ps.length := by
    have e := r2.length
    rw [F.len _ _ _ _ hq] at e
    rw [List.append_nil]
    exact e.symm
  have hb' := hb _ (Value.ref (s.heap.objs.size + 1) :: us) I2.kIn hl
  rw [List.append_nil] at hb'
  refine wpAny_call (make_map (f := f) I.kIn M.makes M.init (beq_iff_eq.mp M.fn) (codeAny_mono (F.run _ X.stack _ _ ⟨Value.ref (s.heap.objs.size + 1) :: us, []⟩ (Value.ref (s.heap.objs.size + 1) :: us) _ _ Eσ (hr.make C us [])
    (I2.env0.make C us []) hb' r2 hq) fun r s' hq' => ?_))
  cases r with
  | error e => exact hx pins _ _ e s' I2 hq'
  | ok fl =>
    cases fl with
    | ret u =>
      obtain ⟨v, H', I3, rv, ev, q3⟩ := I2.after hq'
      subst ev
      exact ⟨rv, ⟨V.ref (s.heap.objs.size + 1), H', I3, rfl, q3⟩⟩
    | next => exact False.elim hq'
    | brk => exact False.elim hq'
    | cont => exact False.elim hq'
theorem pe_mkX (c : MakX X.prog X.w X.K X.mg X.base k x C sp) (hr : Room j X.A) (hk : k + 1 ≤ j) (hg : Gl X x) (hx : ∀ σ, PassesAt (L2.CX X.prog X.w) X σ (E σ)) (ha : PA X (e :: es) t)
    (hdb : (x == ("__debug__" : Str)) = false := by decide) (he : starEach (e :: es) X.env = (false, eval e X.env) :: starEach es X.env := by rfl) (hpl : (backTo pos (starEach es X.env)).any (·.1) = false := by rfl) :
    PE X (.Call (.Name x p) (e :: es) [] pos) (tMakeX C sp E t) := by
  obtain ⟨f, fd, ps, M, F, hm, b⟩ := c.ex
  refine ⟨fun pins s σ H Q I h => ?_⟩
  refine wpAny_Call_Name_kw (ld_glob I hg hm ?_ hdb)
  refine PySem.W.callWith_K (h₀ := X.base) I.ok.mod.kin M.kp (thn (ha.run pos pins s σ H _ I h) fun us s1 ⟨vs, H1, I1, r, q⟩ => ⟨I1.kIn, ?_⟩) he hpl
  exact run_makeX M F (hr.mono hk) b (hx σ) I1 r q
/-- where nothing is let out: for the calls above in a def without errors -/
theorem no_pass : ∀ σ : L2.St, PassesAt (L2.CX X.prog X.w) X σ ((fun _ => L2.E0) σ) := fun σ pins H s e s' I c => passL pins σ H s e s' I c
end

/-! ### own exceptions with an __init__ of their own -/
structure ExI (K : PySem.W.Frag) (mg : Str → Option Value) (x : Str) (C : Addr) : Prop where
  g : mg x = some (.ref C)
  ox : OexC K C
  xf : XfC K C
theorem ExI.exm {K : PySem.W.Frag} {mg : Str → Option Value} {x : Str} {C : Addr} {cls : Value} {b : Bool} (e : ExI K mg x C) (h : PySem.W.subIn K cls (.ref C) = some b) : PySem.W.exmOne K cls (.ref C) = some b := PySem.W.exm_ref e.ox.exC e.xf.hdC e.ox.tyC h
structure ExInit (K : PySem.W.Frag) (C : Addr) (qual : Str) (st : Stmt) (ps : List Str) : Prop where
  ex : ∃ (f : Addr) (fd : FuncData), PySem.W.findIn K (.ref C) "__init__" = some (some (.ref f)) ∧ PySem.W.typeIn K (.ref f) = some (.type "function") ∧ L2.Fun K "__init__" qual st f fd ∧ Binds K fd ps []
structure ExMk (P : Program) (w : World) (K : PySem.W.Frag) (mg : Str → Option Value) (base : Heap) (k : Nat) (x : Str) (C : Addr) (sp : Sp) : Prop where
  ex : ∃ (f : Addr) (fd : FuncData) (ps : List Str), OexC K C ∧ PySem.W.findIn K (.ref C) "__init__" = some (some (.ref f)) ∧ PySem.W.typeIn K (.ref f) = some (.type "function") ∧ FnOk P w K mg base L2.CX0 k f fd ps sp ∧ Binds K fd ps [] ∧ mg x = some (.ref C)
section
variable {P : Program} {w : World} {K : PySem.W.Frag} {mg : Str → Option Value} {base : Heap}
theorem exmk {C : Addr} {x qual : Str} {st : Stmt} {N ps : List Str} {k : Nat} {sp : Sp} (e : ExI K mg x C) (D : ExInit K C qual st ps) (S : FnScope N ps (defScope st)) (len : ∀ vs H Q E, sp vs H Q E → vs.length = ps.length)
    (hbody : ∀ (f : Addr) (cdv : Value) (A : Around) (outer : List Env) (s : Shared) (H : Hp) (vs : List V) (Q : VK) (E : XK), Room k (A.deeper (envOfC qual (defScope st) s.heap.objs.size f cdv)) → sp vs H Q E →
      ∃ t, PSs (cxOf L2.CX0 P w K mg base N qual (defScope st) f cdv A outer s H E).nox (defBody st) t ∧ t { nx := fun _ H' => Q .non H', rt := Q } (start N vs) H) : ExMk P w K mg base (k + 1) x C sp := by
  obtain ⟨f, fd, h1, h2, F, b⟩ := D.ex
  exact ⟨f, fd, ps, e.ox, h1, h2, F.ok S len (fun cdv A outer s H vs Q E hr h => hbody f cdv A outer s H vs Q E hr h), b, e.g⟩
end
theorem pmk_ei {X : Cx} {k j : Nat} {x : Str} {C : Addr} {sp : Sp} {ta : TA} {p pos : Pos} {e : Expr} {es : List Expr} (c : ExMk X.prog X.w X.K X.mg X.base k x C sp) (hr : Room j X.A) (hk : k + 1 ≤ j) (hg : Gl X x) (ha : PA X (e :: es) ta)
    (hdb : (x == ("__debug__" : Str)) = false := by decide) (he : starEach (e :: es) X.env = (false, eval e X.env) :: starEach es X.env := by rfl) (hpl : (backTo pos (starEach es X.env)).any (·.1) = false := by rfl) :
    PMk X (.Call (.Name x p) (e :: es) [] pos) (tMkO C sp [] ta) := by
  obtain ⟨f, fd, ps, T, iC, tI, F1, hb, hm⟩ := c.ex
  exact pmk_oex T iC tI F1 (hr.mono hk) hb .nil pass0 hg hm ha hdb he hpl
/-- what an __init__ of two fields leaves -/
def spInit2 (C : Addr) (f g : Str) : Sp := fun vs H Q _ => ∃ (a : Addr) (r s : V), vs = [.ref a, r, s] ∧ H a = some (exo a C none) ∧
  ∀ d, H d = none → d ≠ a → Q .non (upd (upd (upd H d (exd d [(f, r)])) a (exo a C (some d))) d (exd d [(g, s), (f, r)]))
/-- its use where it is raised -/
theorem mk_two {C : Addr} {f g : Str} {H1 : Hp} {Q : XK} {r s : V} (q : ∀ H' d, Same H1 H' → H1 d = none → H' d = some (.xd [(g, s), (f, r)]) → Q (.ref C) (some d) H') :
    ([r, s] : List V).length ≤ 1000 ∧ ∀ a, H1 a = none → spInit2 C f g (.ref a :: ([r, s] ++ [])) (upd H1 a (exo a C none)) (fun v H2 => v = .non ∧ ∃ (d : Addr) (fs : List (Str × V)), H2 a = some (exo a C (some d)) ∧ H2 d = some (exd d fs) ∧ H1 d = none ∧ Q (.ref C) (some d) (upd (del H2 a) d (.xd fs))) (fun _ _ _ => False) := by
  refine ⟨by show 2 ≤ 1000; decide, fun a ha => ⟨a, r, s, rfl, upd_same, fun d hd hne => ⟨rfl, d, [(g, s), (f, r)], ?_, upd_same, ?_, q _ d ?_ ?_ upd_same⟩⟩⟩
  · rw [upd_ne hne.symm, upd_same]
  · rw [upd_ne hne] at hd; exact hd
  · intro b o e
    have hb : b ≠ d := fun z => by rw [z] at e; rw [upd_ne hne] at hd; rw [hd] at e; cases e
    have hba : b ≠ a := fun z => by rw [z, ha] at e; cases e
    rw [upd_ne hb, del_ne hba, upd_ne hb, upd_ne hba, upd_ne hb, upd_ne hba]
    exact e
  · rw [upd_ne hne] at hd; exact hd

def topS (i : Nat) : Stmt := PySem.Challenge.pw_oathledger_k70_net_of_packets.main.body.getD i (.Pass ⟨0, 0, 0, 0⟩)
abbrev s_BadSchedule____init__ : Stmt := inClass (topS 2) 0
theorem sc_BadSchedule____init__ : FnScope ["self", "line", "reason"] ["self", "line", "reason"] (defScope s_BadSchedule____init__) := ⟨rfl, rfl, rfl, by decide +kernel, rfl, by decide +kernel, by decide +kernel⟩
abbrev s_is_integer : Stmt := topS 4
theorem sc_is_integer : FnScope ["value", "least", "greatest"] ["value", "least", "greatest"] (defScope s_is_integer) := ⟨rfl, rfl, rfl, by decide +kernel, rfl, by decide +kernel, by decide +kernel⟩
abbrev s_Net____init__ : Stmt := inClass (topS 6) 0
theorem sc_Net____init__ : FnScope ["self"] ["self"] (defScope s_Net____init__) := ⟨rfl, rfl, rfl, by decide +kernel, rfl, by decide +kernel, by decide +kernel⟩
abbrev s_Net__send : Stmt := inClass (topS 6) 1
theorem sc_Net__send : FnScope ["self", "sender", "receiver", "letter"] ["self", "sender", "receiver", "letter"] (defScope s_Net__send) := ⟨rfl, rfl, rfl, by decide +kernel, rfl, by decide +kernel, by decide +kernel⟩
abbrev s_Net__take : Stmt := inClass (topS 6) 2
theorem sc_Net__take : FnScope ["self", "position"] ["self", "position"] (defScope s_Net__take) := ⟨rfl, rfl, rfl, by decide +kernel, rfl, by decide +kernel, by decide +kernel⟩
abbrev s_Net__double : Stmt := inClass (topS 6) 3
theorem sc_Net__double : FnScope ["self", "position"] ["self", "position"] (defScope s_Net__double) := ⟨rfl, rfl, rfl, by decide +kernel, rfl, by decide +kernel, by decide +kernel⟩
abbrev s_Net__move : Stmt := inClass (topS 6) 4
theorem sc_Net__move : FnScope ["self", "position", "packet"] ["self", "position"] (defScope s_Net__move) := ⟨rfl, rfl, rfl, by decide +kernel, rfl, by decide +kernel, by decide +kernel⟩
abbrev s_Net__packets : Stmt := inClass (topS 6) 5
theorem sc_Net__packets : FnScope ["self"] ["self"] (defScope s_Net__packets) := ⟨rfl, rfl, rfl, by decide +kernel, rfl, by decide +kernel, by decide +kernel⟩
abbrev s_Net__count : Stmt := inClass (topS 6) 6
theorem sc_Net__count : FnScope ["self"] ["self"] (defScope s_Net__count) := ⟨rfl, rfl, rfl, by decide +kernel, rfl, by decide +kernel, by decide +kernel⟩
abbrev s_Net___check : Stmt := inClass (topS 6) 7
theorem sc_Net___check : FnScope ["self", "position"] ["self", "position"] (defScope s_Net___check) := ⟨rfl, rfl, rfl, by decide +kernel, rfl, by decide +kernel, by decide +kernel⟩
abbrev s__law_rich : Stmt := topS 8
theorem sc__law_rich : FnScope ["cell", "k", "mixed"] ["cell", "k"] (defScope s__law_rich) := ⟨rfl, rfl, rfl, by decide +kernel, rfl, by decide +kernel, by decide +kernel⟩
abbrev s__law_call : Stmt := topS 9
theorem sc__law_call : FnScope ["net", "verb", "at", "e"] ["net", "verb", "at"] (defScope s__law_call) := ⟨rfl, rfl, rfl, by decide +kernel, rfl, by decide +kernel, by decide +kernel⟩
abbrev s__law_due : Stmt := topS 10
theorem sc__law_due : FnScope ["model", "verb", "at", "packet"] ["model", "verb", "at"] (defScope s__law_due) := ⟨rfl, rfl, rfl, by decide +kernel, rfl, by decide +kernel, by decide +kernel⟩
abbrev s_law : Stmt := topS 11
theorem sc_law : FnScope ["script", "net", "model", "k", "rich", "verb", "rest", "packet", "at", "due", "actual", "packets"] ["script"] (defScope s_law) := ⟨rfl, rfl, rfl, by decide +kernel, rfl, by decide +kernel, by decide +kernel⟩
structure Txt (K : PySem.W.Frag) (mg : Str → Option Value) (C_Net : Addr) (C_BadSchedule : Addr) : Prop where
  d_is_integer : DefOk K mg "is_integer" s_is_integer ["value", "least", "greatest"]
  d__law_rich : DefOk K mg "_law_rich" s__law_rich ["cell", "k"]
  d__law_call : DefOk K mg "_law_call" s__law_call ["net", "verb", "at"]
  d__law_due : DefOk K mg "_law_due" s__law_due ["model", "verb", "at"]
  d_law : DefOk K mg "law" s_law ["script"]
  cl_Net : Cls K C_Net
  g_Net : mg "Net" = some (.ref C_Net)
  na_Net__packets : NoAttr K C_Net "_packets"
  mk_Net : MakOk K C_Net "Net.__init__" s_Net____init__ ["self"]
  me_Net__send : MethOk K C_Net "send" "Net.send" s_Net__send ["self", "sender", "receiver", "letter"]
  me_Net__take : MethOk K C_Net "take" "Net.take" s_Net__take ["self", "position"]
  me_Net__double : MethOk K C_Net "double" "Net.double" s_Net__double ["self", "position"]
  me_Net__move : MethOk K C_Net "move" "Net.move" s_Net__move ["self", "position"]
  me_Net__packets : MethOk K C_Net "packets" "Net.packets" s_Net__packets ["self"]
  me_Net__count : MethOk K C_Net "count" "Net.count" s_Net__count ["self"]
  me_Net___check : MethOk K C_Net "_check" "Net._check" s_Net___check ["self", "position"]
  x_BadSchedule : ExI K mg "BadSchedule" C_BadSchedule
  xn_BadSchedule_line : PySem.W.findIn K (.ref C_BadSchedule) "line" = some none
  xn_BadSchedule_reason : PySem.W.findIn K (.ref C_BadSchedule) "reason" = some none
  ei_BadSchedule : ExInit K C_BadSchedule "BadSchedule.__init__" s_BadSchedule____init__ ["self", "line", "reason"]
  u_BadSchedule_BadSchedule : PySem.W.subIn K (.ref C_BadSchedule) (.ref C_BadSchedule) = some true
  z_bool : mg "bool" = none
  z_int : mg "int" = none
  z_isinstance : mg "isinstance" = none
  z_len : mg "len" = none
  z_list : mg "list" = none
  z_range : mg "range" = none
set_option pp.maxSteps 150
/-! ### the draws of a script -/
def Dr (H : Hp) (D A : Addr) : Prop := D ≠ A ∧ ∃ (ds : List Int) (n : Nat), H D = some (.lst (ds.map V.int)) ∧ H A = some (.lst [.int n]) ∧ (∀ d ∈ ds, 0 ≤ d ∧ d < 1000) ∧ ds.length ≤ 2520
/-- all that was tracked but A is as it was -/
def Mod (A : Addr) (H H' : Hp) : Prop := ∀ b o, b ≠ A → H b = some o → H' b = some o
theorem Mod.refl {A : Addr} {H : Hp} : Mod A H H := fun _ _ _ h => h
theorem Mod.trans {A : Addr} {H H1 H2 : Hp} (a : Mod A H H1) (b : Mod A H1 H2) : Mod A H H2 := fun c o n h => b c o n (a c o n h)
theorem Same.mod {A : Addr} {H H' : Hp} (s : Same H H') : Mod A H H' := fun b o _ h => s b o h
theorem Mod.new {A p : Addr} {o : HO} {H H' : Hp} (s : Mod A H H') (h : H' p = none) : Mod A H (upd H' p o) := fun b u n e => by
  rw [upd_ne (ne_of_none (s b u n e) h)]
  exact s b u n e
theorem Dr.new {D A p : Addr} {o : HO} {H : Hp} (d : Dr H D A) (h : H p = none) : Dr (upd H p o) D A := by
  obtain ⟨ne, ds, n, h1, h2, h3⟩ := d
  exact ⟨ne, ds, n, by rw [upd_ne (ne_of_none h1 h)]; exact h1, by rw [upd_ne (ne_of_none h2 h)]; exact h2, h3⟩
theorem Dr.same {D A : Addr} {H H' : Hp} (d : Dr H D A) (s : Same H H') : Dr H' D A := by
  obtain ⟨ne, ds, n, h1, h2, h3⟩ := d
  exact ⟨ne, ds, n, s _ _ h1, s _ _ h2, h3⟩
/-- an object that is neither D nor A is changed -/
theorem Dr.put {D A p : Addr} {o : HO} {H : Hp} (d : Dr H D A) (h1 : p ≠ D) (h2 : p ≠ A) : Dr (upd H p o) D A := by
  obtain ⟨ne, ds, n, e1, e2, h3⟩ := d
  exact ⟨ne, ds, n, by rw [upd_ne h1.symm]; exact e1, by rw [upd_ne h2.symm]; exact e2, h3⟩
theorem Dr.freshA {D A p : Addr} {H : Hp} (d : Dr H D A) (h : H p = none) : p ≠ A := by
  obtain ⟨_, _, _, _, e, _⟩ := d
  exact (ne_of_none e h).symm
theorem Dr.freshD {D A p : Addr} {H : Hp} (d : Dr H D A) (h : H p = none) : p ≠ D := by
  obtain ⟨_, _, _, e, _⟩ := d
  exact (ne_of_none e h).symm
theorem Mod.free {A p : Addr} {H H' : Hp} (s : Mod A H H') (d : ∃ o, H' A = some o) (h : H' p = none) : H p = none := by
  cases e : H p with
  | none => rfl
  | some o =>
    by_cases hp : p = A
    · subst hp
      obtain ⟨o', e'⟩ := d
      rw [e'] at h; cases h
    · rw [s p o hp e] at h; cases h
theorem Dr.A_in {D A : Addr} {H : Hp} (d : Dr H D A) : ∃ o, H A = some o := by
  obtain ⟨_, _, _, _, e, _⟩ := d
  exact ⟨_, e⟩
theorem rng_app {ds : List Int} {x : Int} (h : ∀ d ∈ ds, 0 ≤ d ∧ d < 1000) (h0 : 0 ≤ x) (h1 : x < 1000) : ∀ d ∈ ds ++ [x], 0 ≤ d ∧ d < 1000 := fun d hd => by
  rcases List.mem_append.mp hd with hd | hd
  · exact h d hd
  · rw [List.mem_singleton.mp hd]; exact ⟨h0, h1⟩

/-! ### drawn numbers and strings -/
def prC (c : Nat) : Bool := decide (32 ≤ c) && decide (c ≤ 126) && decide (c ≠ 37)
def isPr (z : Str) : Bool := z.cps.toList.all prC
theorem app_tl (a b : Str) : (a ++ b).cps.toList = a.cps.toList ++ b.cps.toList := by
  show (a.cps ++ b.cps).toList = _
  rw [Array.toList_append]
theorem len_tl (z : Str) : z.cps.toList.length = z.length := Array.length_toList
theorem isPr_app (a b : Str) : isPr (a ++ b) = (isPr a && isPr b) := by
  unfold isPr
  rw [app_tl, List.all_append]

/-! ### values as data: what stands at them does not change -/
def TupAt (K : PySem.W.Frag) (H : Hp) (a : Addr) (xs : List V) : Prop := H a = some (.tup xs) ∨ KTup K a xs
section
variable {K : PySem.W.Frag}
theorem TupAt.sq {H : Hp} {a : Addr} {xs : List V} (h : TupAt K H a xs) : SqT K H a xs := h.elim SqT.of .inr
theorem TupAt.ty {H : Hp} {a : Addr} {xs : List V} (h : TupAt K H a xs) : TyX K H (.ref a) (.type "tuple") := h.elim (fun h => .base (.tup h)) (fun ⟨_, _, _, h1, h2, _⟩ => .kTuple h1 h2)
theorem TupAt.same {H H' : Hp} {a : Addr} {xs : List V} (h : TupAt K H a xs) (s : Same H H') : TupAt K H' a xs := h.imp (s _ _) id
/-- none of those at A (none: no matter) -/
def NeA (A : Option Addr) (a : Addr) : Prop := match A with | some b => a ≠ b | none => True
mutual
/-- v is the data d; the lists in it are none of those at A -/
inductive Dt (K : PySem.W.Frag) (H : Hp) (A : Option Addr) : V → PyData → Prop
  | non : Dt K H A .non .none
  | bl (b : Bool) : Dt K H A (.bl b) (.bool b)
  | int (i : Int) : Dt K H A (.int i) (.int i)
  | str (z : Str) (h : z.length ≤ 1000000) : Dt K H A (.str z) (.str z)
  | lst {a : Addr} {xs : List V} {ds : List PyData} : NeA A a → H a = some (.lst xs) → DtAll K H A xs ds → Dt K H A (.ref a) (.list ds)
  | tup {a : Addr} {xs : List V} {ds : List PyData} : TupAt K H a xs → DtAll K H A xs ds → Dt K H A (.ref a) (.tuple ds)
inductive DtAll (K : PySem.W.Frag) (H : Hp) (A : Option Addr) : List V → List PyData → Prop
  | nil : DtAll K H A [] []
  | cons {v : V} {vs : List V} {d : PyData} {ds : List PyData} : Dt K H A v d → DtAll K H A vs ds → DtAll K H A (v :: vs) (d :: ds)
end
theorem DtAll.length {H : Hp} {A : Option Addr} : ∀ {xs : List V} {ds : List PyData}, DtAll K H A xs ds → xs.length = ds.length
  | _, _, .nil => rfl
  | _, _, .cons _ r => by rw [List.length_cons, List.length_cons, r.length]
theorem DtAll.get {H : Hp} {A : Option Addr} : ∀ {xs : List V} {ds : List PyData} {i : Nat} {x : V}, DtAll K H A xs ds → xs[i]? = some x → ∃ d, ds[i]? = some d ∧ Dt K H A x d
  | _, _, _, _, .nil, e => by simp at e
  | _, _, 0, x, .cons h _, e => by simp at e; subst e; exact ⟨_, rfl, h⟩
  | _, _, i + 1, x, .cons _ r, e => by
    obtain ⟨d, h1, h2⟩ := r.get (i := i) (x := x) (by simpa using e)
    exact ⟨d, by simpa using h1, h2⟩
theorem DtAll.getD {H : Hp} {A : Option Addr} {xs : List V} {ds : List PyData} {i : Nat} {d : PyData} (h : DtAll K H A xs ds) (e : ds[i]? = some d) : ∃ x, xs[i]? = some x ∧ Dt K H A x d := by
  have hi : i < ds.length := (List.getElem?_eq_some_iff.mp e).1
  have hi' : i < xs.length := by rw [h.length]; exact hi
  obtain ⟨d', h1, h2⟩ := h.get (List.getElem?_eq_getElem hi')
  rw [e] at h1
  cases h1
  exact ⟨_, List.getElem?_eq_getElem hi', h2⟩
mutual
theorem Dt.mod {H H' : Hp} {A D : Addr} (s : Mod A H H') (dr : Dr H D A) : ∀ (d : PyData) (v : V), Dt K H (some A) v d → Dt K H' (some A) v d
  | .none, _, h => by cases h; exact .non
  | .bool b, _, h => by cases h; exact .bl b
  | .int i, _, h => by cases h; exact .int i
  | .str z, _, h => by cases h with | str _ hz => exact .str z hz
  | .list ds, _, h => by cases h with | lst hn ha hd => exact .lst hn (s _ _ hn ha) (DtAll.mod s dr ds _ hd)
  | .tuple ds, _, h => by
    cases h with
    | tup ha hd =>
      obtain ⟨_, _, _, _, e, _⟩ := id dr
      exact .tup (ha.imp (fun ha => s _ _ (ne_of ha e (by intro z; cases z)) ha) id) (DtAll.mod s dr ds _ hd)
  | .dict _, _, h => by cases h
theorem DtAll.mod {H H' : Hp} {A D : Addr} (s : Mod A H H') (dr : Dr H D A) : ∀ (ds : List PyData) (xs : List V), DtAll K H (some A) xs ds → DtAll K H' (some A) xs ds
  | [], _, h => by cases h; exact .nil
  | d :: ds, _, h => by cases h with | cons h1 h2 => exact .cons (Dt.mod s dr d _ h1) (DtAll.mod s dr ds _ h2)
end
mutual
theorem Dt.same {H H' : Hp} {A : Option Addr} (s : Same H H') : ∀ (d : PyData) (v : V), Dt K H A v d → Dt K H' A v d
  | .none, _, h => by cases h; exact .non
  | .bool b, _, h => by cases h; exact .bl b
  | .int i, _, h => by cases h; exact .int i
  | .str z, _, h => by cases h with | str _ hz => exact .str z hz
  | .list ds, _, h => by cases h with | lst hn ha hd => exact .lst hn (s _ _ ha) (DtAll.same s ds _ hd)
  | .tuple ds, _, h => by cases h with | tup ha hd => exact .tup (ha.same s) (DtAll.same s ds _ hd)
  | .dict _, _, h => by cases h
theorem DtAll.same {H H' : Hp} {A : Option Addr} (s : Same H H') : ∀ (ds : List PyData) (xs : List V), DtAll K H A xs ds → DtAll K H' A xs ds
  | [], _, h => by cases h; exact .nil
  | d :: ds, _, h => by cases h with | cons h1 h2 => exact .cons (Dt.same s d _ h1) (DtAll.same s ds _ h2)
end
mutual
/-- data for a comparison -/
theorem Dt.dp {H : Hp} {A : Option Addr} : ∀ (d : PyData) (v : V), Dt K H A v d → Dp K H v d
  | .none, _, h => by cases h; exact .non
  | .bool b, _, h => by cases h; exact .bl b
  | .int i, _, h => by cases h; exact .int i
  | .str z, _, h => by cases h; exact .str z
  | .list ds, _, h => by cases h with | lst hn ha hd => exact .lst (SqL.of ha) (DtAll.dp ds _ hd)
  | .tuple ds, _, h => by cases h with | tup ha hd => exact .tup ha.sq (DtAll.dp ds _ hd)
  | .dict _, _, h => by cases h
theorem DtAll.dp {H : Hp} {A : Option Addr} : ∀ (ds : List PyData) (xs : List V), DtAll K H A xs ds → DpAll K H xs ds
  | [], _, h => by cases h; exact .nil
  | d :: ds, _, h => by cases h with | cons h1 h2 => exact .cons (Dt.dp d _ h1) (DtAll.dp ds _ h2)
end
theorem Dt.on {H H' : Hp} {A : Option Addr} {v : V} {d : PyData} (h : Dt K H A v d) (s : Same H H') : Dt K H' A v d := Dt.same s d v h
theorem DtAll.on {H H' : Hp} {A : Option Addr} {xs : List V} {ds : List PyData} (h : DtAll K H A xs ds) (s : Same H H') : DtAll K H' A xs ds := DtAll.same s ds xs h
theorem Dt.by {H H' : Hp} {A D : Addr} {v : V} {d : PyData} (h : Dt K H (some A) v d) (s : Mod A H H') (dr : Dr H D A) : Dt K H' (some A) v d := Dt.mod s dr d v h
theorem DtAll.by {H H' : Hp} {A D : Addr} {xs : List V} {ds : List PyData} (h : DtAll K H (some A) xs ds) (s : Mod A H H') (dr : Dr H D A) : DtAll K H' (some A) xs ds := DtAll.mod s dr ds xs h
theorem Dt.two {H : Hp} {A : Option Addr} {v : V} {d : PyData} (h : Dt K H A v d) : (∃ a xs ds, v = .ref a ∧ d = .tuple ds ∧ TupAt K H a xs ∧ DtAll K H A xs ds) ∨ (∃ T, TyX K H v (.type T) ∧ kitB T "tuple" = some false ∧ ∀ ds, d ≠ .tuple ds) := by
  cases h with
  | tup ha hx => exact .inl ⟨_, _, _, rfl, rfl, ha, hx⟩
  | str z hz => exact .inr ⟨_, .base (.str z), by decide +kernel, fun _ z => nomatch z⟩
  | int i => exact .inr ⟨_, .base (.int i), by decide +kernel, fun _ z => nomatch z⟩
  | non => exact .inr ⟨_, .base .non, by decide +kernel, fun _ z => nomatch z⟩
  | bl b => exact .inr ⟨_, .base (.bl b), by decide +kernel, fun _ z => nomatch z⟩
  | lst _ ha _ => exact .inr ⟨_, .base (.lst ha), by decide +kernel, fun _ z => nomatch z⟩
/-- the kind of a value -/
def dTy : PyData → String
  | .none => "NoneType" | .bool _ => "bool" | .int _ => "int" | .str _ => "str" | .list _ => "list" | .tuple _ => "tuple" | .dict _ => "dict"
theorem Dt.ty {H : Hp} {A : Option Addr} {v : V} {d : PyData} (h : Dt K H A v d) : TyX K H v (.type (dTy d)) := by
  cases h with
  | non => exact .base .non
  | bl b => exact .base (.bl b)
  | int i => exact .base (.int i)
  | str z _ => exact .base (.str z)
  | lst _ ha _ => exact .base (.lst ha)
  | tup ha _ => exact ha.ty
/-! the predicates of the program, upon data -/
def dInt (lo hi : Int) : PyData → Bool
  | .int i => decide (lo ≤ i ∧ i ≤ hi)
  | _ => false
def dShort (m : Int) : PyData → Bool
  | .str z => isPr z && decide ((z.length : Int) ≤ m)
  | _ => false
def dCmd : PyData → Bool
  | .tuple [c, n, t] => dInt (-100) (-1) c && dInt 1 1000000000000 n && dShort 240 t
  | _ => false
def dClient : PyData → Int
  | .tuple (.int c :: _) => c
  | _ => 0
def dAfter : Option Int → PyData → Bool
  | some k, d => decide (k < dClient d)
  | none, _ => true
def befV : Option Int → V
  | some k => .int k
  | none => .non
def dCmdsFrom : Option Int → List PyData → Bool
  | _, [] => true
  | b, d :: r => dCmd d && dAfter b d && dCmdsFrom (some (dClient d)) r
theorem dCmdsFrom_cons (b : Option Int) (d : PyData) (r : List PyData) : dCmdsFrom b (d :: r) = (dCmd d && dAfter b d && dCmdsFrom (some (dClient d)) r) := by cases b <;> rfl
theorem dCmdsFrom_nil (b : Option Int) : dCmdsFrom b [] = true := by cases b <;> rfl
def dCmds : PyData → Bool
  | .tuple ds => dCmdsFrom none ds
  | _ => false
def dHeight (parent : Int) (h : PyData) : Bool := if parent = 0 then dInt 1 1 h else dInt 2 (parent + 1) h
def dBlock4 (e p h cs : PyData) : Bool := match e, p with
  | .int e, .int p => dInt 1 1000000000000 (.int e) && dInt 0 (e - 1) (.int p) && dHeight p h && dCmds cs
  | _, _ => false
def dBlock : PyData → Bool
  | .tuple [e, p, h, cs] => dBlock4 e p h cs
  | _ => false
def dEmpty : PyData → Bool
  | .tuple [] => true
  | _ => false
def dGen : PyData → Bool
  | .tuple [e, p, h, cs] => dInt 0 0 e && dInt 0 0 p && dInt 0 0 h && dEmpty cs
  | _ => false
theorem DtAll.four {H : Hp} {A : Option Addr} {xs : List V} {ds : List PyData} (h : DtAll K H A xs ds) (hl : xs.length = 4) :
    ∃ x1 x2 x3 x4 d1 d2 d3 d4, xs = [x1, x2, x3, x4] ∧ ds = [d1, d2, d3, d4] ∧ Dt K H A x1 d1 ∧ Dt K H A x2 d2 ∧ Dt K H A x3 d3 ∧ Dt K H A x4 d4 := by
  match xs, ds, h with
  | [_, _, _, _], _, .cons h1 (.cons h2 (.cons h3 (.cons h4 .nil))) => exact ⟨_, _, _, _, _, _, _, _, rfl, rfl, h1, h2, h3, h4⟩
theorem dBlock4_e1 {e p h cs : PyData} (z : dInt 1 1000000000000 e = false) : dBlock4 e p h cs = false := by
  unfold dBlock4
  split
  · rw [z]; rfl
  · rfl
theorem dBlock4_e2 {e : Int} {p h cs : PyData} (z : dInt 0 (e - 1) p = false) : dBlock4 (.int e) p h cs = false := by
  unfold dBlock4
  split
  · rename_i h1
    cases h1
    rw [z, Bool.and_false]; rfl
  · rfl
/-- a predicate of one value, kept by growing heaps -/
def spPred (K : PySem.W.Frag) (A : Option Addr) (f : PyData → Bool) : Sp := fun vs H Q _ => ∃ (v : V) (d : PyData), vs = [v] ∧ Dt K H A v d ∧ ∀ H', Same H H' → Q (.bl (f d)) H'
def spIntD (K : PySem.W.Frag) (A : Option Addr) : Sp := fun vs H Q _ => ∃ (v : V) (d : PyData) (lo hi : Int), vs = [v, .int lo, .int hi] ∧ Dt K H A v d ∧ Q (.bl (dInt lo hi d)) H
def spShortD (K : PySem.W.Frag) (A : Option Addr) : Sp := fun vs H Q _ => ∃ (v : V) (d : PyData) (m : Int), vs = [v, .int m] ∧ Dt K H A v d ∧ ∀ H', Same H H' → Q (.bl (dShort m d)) H'
theorem dInt_inv {lo hi : Int} {d : PyData} (h : dInt lo hi d = true) : ∃ i, d = .int i ∧ lo ≤ i ∧ i ≤ hi := by
  cases d with
  | int i =>
    have h : decide (lo ≤ i ∧ i ≤ hi) = true := h
    exact ⟨i, rfl, (of_decide_eq_true h).1, (of_decide_eq_true h).2⟩
  | none => cases h
  | bool b => cases h
  | str z => cases h
  | list ds => cases h
  | tuple ds => cases h
  | dict k => cases h
theorem dShort_inv {m : Int} {d : PyData} (h : dShort m d = true) : ∃ z : Str, d = .str z ∧ isPr z = true ∧ (z.length : Int) ≤ m := by
  cases d with
  | str z =>
    have h : (isPr z && decide ((z.length : Int) ≤ m)) = true := h
    obtain ⟨h1, h2⟩ := Bool.and_eq_true_iff.mp h
    exact ⟨z, rfl, h1, of_decide_eq_true h2⟩
  | none => cases h
  | bool b => cases h
  | int i => cases h
  | list ds => cases h
  | tuple ds => cases h
  | dict k => cases h
theorem dCmd_inv {d : PyData} (h : dCmd d = true) : ∃ (c n : Int) (t : Str), d = .tuple [.int c, .int n, .str t] ∧ -100 ≤ c ∧ c ≤ -1 ∧ 1 ≤ n ∧ n ≤ 1000000000000 ∧ isPr t = true ∧ (t.length : Int) ≤ 240 := by
  unfold dCmd at h
  split at h
  · rename_i c n t
    rw [Bool.and_eq_true, Bool.and_eq_true] at h
    obtain ⟨⟨h1, h2⟩, h3⟩ := h
    obtain ⟨c, rfl, c0, c1⟩ := dInt_inv h1
    obtain ⟨n, rfl, n0, n1⟩ := dInt_inv h2
    obtain ⟨t, rfl, t0, t1⟩ := dShort_inv h3
    exact ⟨c, n, t, rfl, c0, c1, n0, n1, t0, t1⟩
  · cases h
/-- what a tuple of three ints, ints, texts stands for -/
theorem Dt.three {H : Hp} {A : Option Addr} {v : V} {d1 d2 d3 : PyData} (h : Dt K H A v (.tuple [d1, d2, d3])) : ∃ a x1 x2 x3, v = .ref a ∧ TupAt K H a [x1, x2, x3] ∧ Dt K H A x1 d1 ∧ Dt K H A x2 d2 ∧ Dt K H A x3 d3 := by
  cases h with
  | tup ha hd =>
    cases hd with
    | cons h1 hd =>
      cases hd with
      | cons h2 hd =>
        cases hd with
        | cons h3 hd =>
          cases hd
          exact ⟨_, _, _, _, rfl, ha, h1, h2, h3⟩
mutual
theorem Dt.any {H : Hp} {A : Option Addr} : ∀ (d : PyData) (v : V), Dt K H A v d → Dt K H none v d
  | .none, _, h => by cases h; exact .non
  | .bool b, _, h => by cases h; exact .bl b
  | .int i, _, h => by cases h; exact .int i
  | .str z, _, h => by cases h with | str _ hz => exact .str z hz
  | .list ds, _, h => by cases h with | lst hn ha hd => exact .lst trivial ha (DtAll.any ds _ hd)
  | .tuple ds, _, h => by cases h with | tup ha hd => exact .tup ha (DtAll.any ds _ hd)
  | .dict _, _, h => by cases h
theorem DtAll.any {H : Hp} {A : Option Addr} : ∀ (ds : List PyData) (xs : List V), DtAll K H A xs ds → DtAll K H none xs ds
  | [], _, h => by cases h; exact .nil
  | d :: ds, _, h => by cases h with | cons h1 h2 => exact .cons (Dt.any d _ h1) (DtAll.any ds _ h2)
end
theorem Dt.an {H : Hp} {A : Option Addr} {v : V} {d : PyData} (h : Dt K H A v d) : Dt K H none v d := Dt.any d v h
/-! data without lists -/
mutual
def noL : PyData → Bool
  | .list _ => false
  | .tuple ds => noLs ds
  | _ => true
def noLs : List PyData → Bool
  | [] => true
  | d :: r => noL d && noLs r
end
/-- tracked tuples stay -/
def Tp (H H' : Hp) : Prop := ∀ a xs, H a = some (.tup xs) → H' a = some (.tup xs)
mutual
theorem Dt.keep {H H' : Hp} {A B : Option Addr} (t : Tp H H') : ∀ (d : PyData) (v : V), noL d = true → Dt K H A v d → Dt K H' B v d
  | .none, _, _, h => by cases h; exact .non
  | .bool b, _, _, h => by cases h; exact .bl b
  | .int i, _, _, h => by cases h; exact .int i
  | .str z, _, _, h => by cases h with | str _ hz => exact .str z hz
  | .list ds, _, n, _ => by cases n
  | .tuple ds, _, n, h => by cases h with | tup ha hd => exact .tup (ha.imp (t _ _) id) (DtAll.keep t ds _ n hd)
  | .dict _, _, _, h => by cases h
theorem DtAll.keep {H H' : Hp} {A B : Option Addr} (t : Tp H H') : ∀ (ds : List PyData) (xs : List V), noLs ds = true → DtAll K H A xs ds → DtAll K H' B xs ds
  | [], _, _, h => by cases h; exact .nil
  | d :: ds, _, n, h => by
    have n : (noL d && noLs ds) = true := n
    rw [Bool.and_eq_true] at n
    cases h with | cons h1 h2 => exact .cons (Dt.keep t d _ n.1 h1) (DtAll.keep t ds _ n.2 h2)
end
theorem DtAll.snoc {H : Hp} {A : Option Addr} : ∀ {xs : List V} {ds : List PyData} {x : V} {d : PyData}, DtAll K H A xs ds → Dt K H A x d → DtAll K H A (xs ++ [x]) (ds ++ [d])
  | _, _, _, _, .nil, h => .cons h .nil
  | _, _, _, _, .cons h r, h2 => .cons h (r.snoc h2)
theorem TupAt.tp {H H' : Hp} {a : Addr} {xs : List V} (h : TupAt K H a xs) (t : Tp H H') : TupAt K H' a xs := h.imp (t _ _) id
theorem Same.tp {H H' : Hp} (s : Same H H') : Tp H H' := fun _ _ h => s _ _ h
theorem Mod.tp {H H' : Hp} {A D : Addr} (s : Mod A H H') (dr : Dr H D A) : Tp H H' := fun a xs h => by
  obtain ⟨_, _, _, _, e, _⟩ := id dr
  exact s _ _ (ne_of h e (by intro z; cases z)) h
theorem tp_put {H : Hp} {l : Addr} {xs ys : List V} (h : H l = some (.lst xs)) : Tp H (upd H l (.lst ys)) := fun a zs e => by
  rw [upd_ne (ne_of e h (by intro z; cases z))]; exact e
theorem dCmd_noL {d : PyData} (h : dCmd d = true) : noL d = true := by
  obtain ⟨c, n, t, rfl, _⟩ := dCmd_inv h
  rfl
theorem dCmdsFrom_noL : ∀ {ds : List PyData} {b : Option Int}, dCmdsFrom b ds = true → noLs ds = true
  | [], _, _ => rfl
  | d :: r, b, h => by
    rw [dCmdsFrom_cons, Bool.and_eq_true, Bool.and_eq_true] at h
    show (noL d && noLs r) = true
    rw [dCmd_noL h.1.1, dCmdsFrom_noL h.2]; rfl
theorem dCmdsFrom_all : ∀ {ds : List PyData} {b : Option Int}, dCmdsFrom b ds = true → ∀ d ∈ ds, dCmd d = true
  | [], _, _, _, m => nomatch m
  | d :: r, b, h, e, m => by
    rw [dCmdsFrom_cons, Bool.and_eq_true, Bool.and_eq_true] at h
    rcases List.mem_cons.mp m with rfl | m
    · exact h.1.1
    · exact dCmdsFrom_all h.2 e m
def lastC : Option Int → List PyData → Option Int
  | b, [] => b
  | _, d :: r => lastC (some (dClient d)) r
theorem lastC_snoc : ∀ (ds : List PyData) (b : Option Int) (d : PyData), lastC b (ds ++ [d]) = some (dClient d)
  | [], _, _ => rfl
  | _ :: r, _, d => lastC_snoc r _ d
theorem dCmdsFrom_snoc : ∀ (ds : List PyData) (b : Option Int) (d : PyData), dCmdsFrom b (ds ++ [d]) = (dCmdsFrom b ds && (dCmd d && dAfter (lastC b ds) d))
  | [], b, d => by
    show dCmdsFrom b [d] = _
    rw [dCmdsFrom_cons, dCmdsFrom_nil, dCmdsFrom_nil, Bool.and_true, Bool.true_and]; rfl
  | e :: r, b, d => by
    show dCmdsFrom b (e :: (r ++ [d])) = _
    rw [dCmdsFrom_cons, dCmdsFrom_snoc r, dCmdsFrom_cons, Bool.and_assoc, Bool.and_assoc, Bool.and_assoc]; rfl
end
theorem noLs_all : ∀ {ds : List PyData}, (∀ d ∈ ds, noL d = true) → noLs ds = true
  | [], _ => rfl
  | d :: r, h => by
    show (noL d && noLs r) = true
    rw [h d List.mem_cons_self, noLs_all (fun e he => h e (List.mem_cons_of_mem _ he))]; rfl

theorem same_none {H H' : Hp} {p : Addr} (s : Same H H') (h : H' p = none) : H p = none := by
  cases e : H p with
  | none => rfl
  | some o => rw [s p o e] at h; cases h

theorem atI_lt {α : Type} {xs : List α} {i : Int} (h0 : 0 ≤ i) (h1 : i < xs.length) : ∃ v, v ∈ xs ∧ atI xs i = some v := by
  obtain ⟨j, rfl⟩ := Int.eq_ofNat_of_zero_le h0
  have hj : j < xs.length := Int.ofNat_lt.mp h1
  exact ⟨xs[j], List.getElem_mem hj, atI_nat (List.getElem?_eq_getElem hj)⟩

/-! ### is_integer -/
/-- no int, told by its type -/
def NoInt (K : PySem.W.Frag) (H : Hp) (v : V) : Prop := ∃ T, TyX K H v (.type T) ∧ (kitB T "int" = some false ∨ (kitB T "int" = some true ∧ kitB T "bool" = some true))
def spInt (K : PySem.W.Frag) : Sp := fun vs H Q _ => ∃ (v : V) (lo hi : Int), vs = [v, .int lo, .int hi] ∧ ((∃ i, v = .int i ∧ Q (.bl (decide (lo ≤ i ∧ i ≤ hi))) H) ∨ (NoInt K H v ∧ Q (.bl false) H))
section
variable {P : Program} {w : World} {K : PySem.W.Frag} {mg : Str → Option Value} {base : Heap}
theorem c_is_integer {C_Net : Addr} {C_BadSchedule : Addr} (T : Txt K mg C_Net C_BadSchedule) : Cal P w K mg base 1 "is_integer" (spInt K) [] := by
  refine cal T.d_is_integer sc_is_integer (fun vs H Q E h => ?_) (fun f cdv A outer s H vs Q E hr h => ?_)
  · obtain ⟨v, lo, hi, rfl, _⟩ := h; rfl
  obtain ⟨v, lo, hi, rfl, h⟩ := h
  refine ⟨_, (pss_one (ps_ret (pe_and (pe_callB (kisi (K := K)) (by rfl) T.z_isinstance (by decide +kernel) (pa_cons (pv 0) (pa_cons (pe_bltn (v := .ty "int") (by rfl) T.z_int (by decide +kernel) rfl) pa_nil))) (pe_and (pe_not (pe_callB (kisi (K := K)) (by rfl) T.z_isinstance (by decide +kernel) (pa_cons (pv 0) (pa_cons (pe_bltn (v := .ty "bool") (by rfl) T.z_bool (by decide +kernel) rfl) pa_nil)))) (pe_one (pe_chain op_le op_le (pv 1) (pv 0) (pv 2))))))), ?_⟩
  rcases h with ⟨i, rfl, q⟩ | ⟨⟨T, ty, hk⟩, q⟩
  · walk_at "rds"
    walk_at "isi"
    walk_at "rds"
    walk_at "isi"
    walk_at "rds"
    refine ite2 (fun e => ?_) (fun e => ?_)
    · have e := of_decide_eq_true e
      walk_at "rds"
      have e2 : decide (lo ≤ i ∧ i ≤ hi) = decide (i ≤ hi) := by simp [e]
      rw [e2] at q
      exact q
    · have e : ¬ lo ≤ i := fun z => e (decide_eq_true z)
      have e2 : decide (lo ≤ i ∧ i ≤ hi) = false := by simp [e]
      rw [e2] at q
      exact q
  · walk_at "rds"
    rcases hk with hk | ⟨hk, hb⟩
    · refine ⟨_, .ty _, _, _, false, rfl, .ty _, ty, kit_ty hk, ?_⟩
      walk_at "rds"
      exact q
    · refine ⟨_, .ty _, _, _, true, rfl, .ty _, ty, kit_ty hk, ?_⟩
      walk_at "rds"
      refine ⟨_, .ty _, _, _, true, rfl, .ty _, ty, kit_ty hb, ?_⟩
      walk_at "rds"
      exact q
end

/-! ### BadSchedule(line, reason) -/
section
variable {P : Program} {w : World} {K : PySem.W.Frag} {mg : Str → Option Value} {base : Heap}
theorem i_BadSchedule {C_Net : Addr} {C_BadSchedule : Addr} (T : Txt K mg C_Net C_BadSchedule) : ExMk P w K mg base 1 "BadSchedule" C_BadSchedule (spInit2 C_BadSchedule "line" "reason") := by
  refine exmk T.x_BadSchedule T.ei_BadSchedule sc_BadSchedule____init__ (fun vs H Q E h => ?_) (fun f cdv A' outer s H vs Q E hr h => ?_)
  · obtain ⟨a, r, t, rfl, _⟩ := h; rfl
  obtain ⟨a, r, t, rfl, ha, q⟩ := h
  refine ⟨_, (pss_cons (ps_ost (pv 0) (pv 1))
      (pss_one (ps_ost (pv 0) (pv 2)))), ?_⟩
  walk_at "rds"
  refine ⟨a, C_BadSchedule, rfl, T.x_BadSchedule.ox, T.xn_BadSchedule_line, .inl ⟨ha, fun d hd hne => ?_⟩⟩
  walk_at "rds"
  refine ⟨a, C_BadSchedule, rfl, T.x_BadSchedule.ox, T.xn_BadSchedule_reason, .inr ⟨d, _, upd_same, by rw [upd_ne hne]; exact upd_same, (by show 1 ≤ 900; decide), ?_⟩⟩
  exact q d hd hne
end

/-! ### the network -/
def But1 (l : Addr) (H H' : Hp) : Prop := ∀ b o, b ≠ l → H b = some o → H' b = some o
theorem But1.trans {l : Addr} {H H1 H2 : Hp} (a : But1 l H H1) (b : But1 l H1 H2) : But1 l H H2 := fun c o n h => b c o n (a c o n h)
theorem Same.but1 {l : Addr} {H H' : Hp} (s : Same H H') : But1 l H H' := fun b o _ h => s b o h
theorem but1_upd {l : Addr} {o : HO} {H : Hp} : But1 l H (upd H l o) := fun b u n e => by rw [upd_ne n]; exact e
theorem But1.tp {l : Addr} {H H' : Hp} {xs : List V} (b : But1 l H H') (h : H l = some (.lst xs)) : Tp H H' := fun a ys e => b _ _ (ne_of e h (by intro z; cases z)) e
def NetAt (C : Addr) (H : Hp) (p l : Addr) (xs : List V) : Prop := (∃ dx, H p = some (.ins C dx [("_packets", .ref l)])) ∧ H l = some (.lst xs)
theorem NetAt.on {C : Addr} {H H' : Hp} {p l : Addr} {xs : List V} (h : NetAt C H p l xs) (s : Same H H') : NetAt C H' p l xs := ⟨h.1.imp fun _ h => s _ _ h, s _ _ h.2⟩
theorem NetAt.put {C : Addr} {H H' : Hp} {p l : Addr} {xs ys : List V} (h : NetAt C H p l xs) (b : But1 l H H') (e : H' l = some (.lst ys)) : NetAt C H' p l ys :=
  ⟨h.1.imp fun _ g => b _ _ (ne_of g h.2 (by intro z; cases z)) g, e⟩
/-- the error for a position that is none -/
def posE (H' : Hp) (d : Addr) : Prop := H' d = some (.xd [("reason", .str "position"), ("line", .int 0)])
def spNInit (C : Addr) : Sp := fun vs H Q _ => ∃ (p dx : Addr), vs = [.ref p] ∧ H p = some (.ins C dx []) ∧
  ∀ (H' : Hp) (l : Addr), (∀ b o, H b = some o → b ≠ p → H' b = some o) → H l = none → NetAt C H' p l [] → Q .non H'
def spNSend (C : Addr) : Sp := fun vs H Q _ => ∃ (p l : Addr) (xs : List V) (a b c : V), vs = [.ref p, a, b, c] ∧ NetAt C H p l xs ∧ xs.length < 1000 ∧
  ∀ H' t, But1 l H H' → H t = none → H' t = some (.tup [a, b, c]) → H' l = some (.lst (xs ++ [.ref t])) → Q .non H'
def spNCheck (C B : Addr) : Sp := fun vs H Q E => ∃ (p l : Addr) (xs : List V) (i : Int), vs = [.ref p, .int i] ∧ NetAt C H p l xs ∧
  (0 ≤ i ∧ i < xs.length → Q .non H) ∧ (¬ (0 ≤ i ∧ i < xs.length) → ∀ H' d, Same H H' → posE H' d → E (.ref B) (some d) H')
/-- what a method does with the packet at a position: f tells the new list, g the answer -/
def spNAt (C B : Addr) (f : List V → Nat → V → List V) (g : V → V) : Sp := fun vs H Q E => ∃ (p l : Addr) (xs : List V) (i : Int), vs = [.ref p, .int i] ∧ NetAt C H p l xs ∧ xs.length < 1000 ∧
  (∀ (k : Nat) y, i = k → xs[k]? = some y → ∀ H', But1 l H H' → H' l = some (.lst (f xs k y)) → Q (g y) H') ∧ (¬ (0 ≤ i ∧ i < xs.length) → ∀ H' d, Same H H' → posE H' d → E (.ref B) (some d) H')
def spNPackets (C : Addr) : Sp := fun vs H Q _ => ∃ (p l : Addr) (xs : List V), vs = [.ref p] ∧ NetAt C H p l xs ∧ ∀ r, H r = none → Q (.ref r) (upd H r (.lst xs))
def spNCount (C : Addr) : Sp := fun vs H Q _ => ∃ (p l : Addr) (xs : List V), vs = [.ref p] ∧ NetAt C H p l xs ∧ Q (.int xs.length) H
def fTake (xs : List V) (k : Nat) (_ : V) : List V := xs.eraseIdx k
def fDouble (xs : List V) (_ : Nat) (y : V) : List V := xs ++ [y]
def fMove (xs : List V) (k : Nat) (y : V) : List V := xs.eraseIdx k ++ [y]
theorem seqIdx {k n : Nat} (h : k < n) : seqIndex? (k : Int) n = some k := by
  have : ¬ ((k : Int) < 0) := by omega
  simp [seqIndex?, this, h]
theorem get_of {xs : List V} {i : Int} (h : 0 ≤ i ∧ i < xs.length) : ∃ (k : Nat) (y : V), i = k ∧ xs[k]? = some y := by
  obtain ⟨j, rfl⟩ := Int.eq_ofNat_of_zero_le h.1
  exact ⟨j, _, rfl, List.getElem?_eq_getElem (Int.ofNat_lt.mp h.2)⟩
section
variable {P : Program} {w : World} {K : PySem.W.Frag} {mg : Str → Option Value} {base : Heap}
theorem k_Net {C_Net : Addr} {C_BadSchedule : Addr} (T : Txt K mg C_Net C_BadSchedule) : Mak P w K mg base 1 "Net" C_Net (spNInit C_Net) [] := by
  refine mak T.g_Net T.mk_Net sc_Net____init__ (fun vs H Q E h => ?_) (fun f cdv A outer s H vs Q E hr h => ?_)
  · obtain ⟨p, dx, rfl, _⟩ := h; rfl
  obtain ⟨p, dx, rfl, hp, q⟩ := h
  refine ⟨_, (pss_one (ps_fld (pv 0) (pe_lst pa_nil) rfl)), ?_⟩
  walk_at "rds"
  intro l hl
  walk_at "rds"
  refine ⟨p, _, dx, _, rfl, (same_upd hl) _ _ hp, T.cl_Net, T.na_Net__packets, by decide, ?_⟩
  have hlp : l ≠ p := (ne_of_none hp hl).symm
  refine q _ l (fun b o e nb => ?_) hl ⟨⟨dx, upd_same⟩, ?_⟩
  · rw [upd_ne nb, upd_ne (ne_of_none e hl)]; exact e
  · rw [upd_ne hlp]; exact upd_same
theorem m_Net__send {C_Net : Addr} {C_BadSchedule : Addr} (T : Txt K mg C_Net C_BadSchedule) : Met P w K mg base 1 C_Net "send" (spNSend C_Net) [] := by
  refine met T.cl_Net T.me_Net__send sc_Net__send (fun vs H Q E h => ?_) (fun f cdv A outer s H vs Q E hr h => ?_)
  · obtain ⟨p, l, xs, a, b, c, rfl, _⟩ := h; rfl
  obtain ⟨p, l, xs, a, b, c, rfl, ⟨⟨dx, g⟩, hl⟩, hn, q⟩ := h
  refine ⟨_, (pss_one (ps_expr (pe_bm PySem.F.plainAttrs_list PySem.F.slot_list_append PySem.F.type_list_append mt_append (pe_fld (pv 0) rfl) (pa_cons (pe_tup (pa_cons (pv 1) (pa_cons (pv 2) (pa_cons (pv 3) pa_nil)))) pa_nil)))), ?_⟩
  walk_at "rds"
  refine ⟨p, _, dx, _, _, rfl, g, T.cl_Net, T.na_Net__packets, rfl, ?_⟩
  walk_at "rds"
  refine ⟨.inl ⟨rfl, _, sq hl⟩, ?_⟩
  walk_at "rds"
  intro t ht
  have hl2 := (same_upd (o := .tup [a, b, c]) ht) _ _ hl
  refine ⟨l, xs, .ref t, rfl, rfl, hl2, sz1000' (by omega), ?_⟩
  exact q _ t ((Same.but1 (same_upd ht)).trans but1_upd) ht (by rw [upd_ne (ne_of_none hl ht).symm]; exact upd_same) upd_same
theorem m_Net___check {C_Net : Addr} {C_BadSchedule : Addr} (T : Txt K mg C_Net C_BadSchedule) : MetX P w K mg base 3 C_Net "_check" (spNCheck C_Net C_BadSchedule) := by
  have c_is_integer := c_is_integer (P := P) (w := w) (base := base) T
  have i_BadSchedule := i_BadSchedule (P := P) (w := w) (base := base) T
  refine metX T.cl_Net T.me_Net___check sc_Net___check (fun vs H Q E h => ?_) (fun f cdv A outer s H vs Q E hr h => ?_)
  · obtain ⟨p, l, xs, i, rfl, _⟩ := h; rfl
  obtain ⟨p, l, xs, i, rfl, ⟨⟨dx, g⟩, hl⟩, q, qe⟩ := h
  refine ⟨_, (pss_one (ps_if (pt_not (pt_val (pe_c c_is_integer hr (by decide) (by rfl) (pa_cons (pv 1) (pa_cons pe_int (pa_cons (pe_op op_sub (pe_callB (klen (K := K)) (by rfl) T.z_len (by decide +kernel) (pa_cons (pe_fld (pv 0) rfl) pa_nil)) pe_int) pa_nil)))))) (pss_one (ps_raise rfl (takes_of rfl rfl rfl rfl) (pmk_ei i_BadSchedule hr (by decide) (by rfl) (pa_cons pe_int (pa_cons pe_str pa_nil))))) pss_nil)), ?_⟩
  walk_at "rds"
  refine ⟨p, _, dx, _, _, rfl, g, T.cl_Net, T.na_Net__packets, rfl, ?_⟩
  walk_at "rds"
  refine ⟨l, xs, rfl, .inl (sq hl), ?_⟩
  walk_at "rds"
  refine ⟨.int i, 0, (xs.length : Int) - 1, rfl, .inl ⟨i, rfl, ?_⟩⟩
  walk_at "rds"
  by_cases h : 0 ≤ i ∧ i < xs.length
  · rw [decide_eq_true (show 0 ≤ i ∧ i ≤ (xs.length : Int) - 1 by omega)]
    exact q h
  · rw [decide_eq_false (show ¬ (0 ≤ i ∧ i ≤ (xs.length : Int) - 1) by omega)]
    refine ifT rfl ?_
    walk_at "rds"
    exact mk_two fun H' d s1 _ hd => qe h H' d s1 hd
theorem m_Net__take {C_Net : Addr} {C_BadSchedule : Addr} (T : Txt K mg C_Net C_BadSchedule) : MetX P w K mg base 4 C_Net "take" (spNAt C_Net C_BadSchedule fTake id) := by
  have m_Net___check := m_Net___check (P := P) (w := w) (base := base) T
  refine metX T.cl_Net T.me_Net__take sc_Net__take (fun vs H Q E h => ?_) (fun f cdv A outer s H vs Q E hr h => ?_)
  · obtain ⟨p, l, xs, i, rfl, _⟩ := h; rfl
  obtain ⟨p, l, xs, i, rfl, na, hn, q, qe⟩ := h
  obtain ⟨⟨dx, g⟩, hl⟩ := id na
  refine ⟨_, (pss_cons (ps_expr (pe_mtX m_Net___check hr (by decide) (fun σ => passAt (takes_of rfl rfl rfl rfl) σ) (pv 0) (pa_cons (pv 1) pa_nil)))
      (pss_one (ps_ret (pe_bm PySem.F.plainAttrs_list PySem.F.slot_list_pop PySem.F.type_list_pop mt_popAt (pe_fld (pv 0) rfl) (pa_cons (pv 1) pa_nil))))), ?_⟩
  walk_at "rds"
  refine ⟨p, dx, _, rfl, g, rfl, ?_⟩
  walk_at "rds"
  refine ⟨p, l, xs, i, rfl, na, fun h => ?_, fun h => ?_⟩
  · obtain ⟨k, y, rfl, hy⟩ := get_of h
    walk_at "rds"
    refine ⟨p, _, dx, _, _, rfl, g, T.cl_Net, T.na_Net__packets, rfl, ?_⟩
    walk_at "rds"
    refine ⟨.inl ⟨rfl, _, sq hl⟩, ?_⟩
    walk_at "rds"
    refine ⟨l, xs, (k : Int), k, y, rfl, rfl, hl, by omega, by omega, seqIdx (Int.ofNat_lt.mp h.2), hy, ?_⟩
    exact q k y rfl hy _ but1_upd upd_same
  · exact qe h
theorem m_Net__double {C_Net : Addr} {C_BadSchedule : Addr} (T : Txt K mg C_Net C_BadSchedule) : MetX P w K mg base 4 C_Net "double" (spNAt C_Net C_BadSchedule fDouble fun _ => .non) := by
  have m_Net___check := m_Net___check (P := P) (w := w) (base := base) T
  refine metX T.cl_Net T.me_Net__double sc_Net__double (fun vs H Q E h => ?_) (fun f cdv A outer s H vs Q E hr h => ?_)
  · obtain ⟨p, l, xs, i, rfl, _⟩ := h; rfl
  obtain ⟨p, l, xs, i, rfl, na, hn, q, qe⟩ := h
  obtain ⟨⟨dx, g⟩, hl⟩ := id na
  refine ⟨_, (pss_cons (ps_expr (pe_mtX m_Net___check hr (by decide) (fun σ => passAt (takes_of rfl rfl rfl rfl) σ) (pv 0) (pa_cons (pv 1) pa_nil)))
      (pss_one (ps_expr (pe_bm PySem.F.plainAttrs_list PySem.F.slot_list_append PySem.F.type_list_append mt_append (pe_fld (pv 0) rfl) (pa_cons (pe_ix (kixl (K := K)) (pe_fld (pv 0) rfl) (pv 1) (fun _ _ => rfl)) pa_nil))))), ?_⟩
  walk_at "rds"
  refine ⟨p, dx, _, rfl, g, rfl, ?_⟩
  walk_at "rds"
  refine ⟨p, l, xs, i, rfl, na, fun h => ?_, fun h => ?_⟩
  · obtain ⟨k, y, rfl, hy⟩ := get_of h
    walk_at "rds"
    refine ⟨p, _, dx, _, _, rfl, g, T.cl_Net, T.na_Net__packets, rfl, ?_⟩
    walk_at "rds"
    refine ⟨.inl ⟨rfl, _, sq hl⟩, ?_⟩
    walk_at "rds"
    refine ⟨p, _, dx, _, _, rfl, g, T.cl_Net, T.na_Net__packets, rfl, ?_⟩
    walk_at "rds"
    refine ⟨l, _, _, _, rfl, rfl, sq hl, atI_nat hy, ?_⟩
    walk_at "rds"
    refine ⟨l, xs, y, rfl, rfl, hl, sz1000' (by omega), ?_⟩
    exact q k y rfl hy _ but1_upd upd_same
  · exact qe h
theorem m_Net__move {C_Net : Addr} {C_BadSchedule : Addr} (T : Txt K mg C_Net C_BadSchedule) : MetX P w K mg base 5 C_Net "move" (spNAt C_Net C_BadSchedule fMove fun _ => .non) := by
  have m_Net__take := m_Net__take (P := P) (w := w) (base := base) T
  refine metX T.cl_Net T.me_Net__move sc_Net__move (fun vs H Q E h => ?_) (fun f cdv A outer s H vs Q E hr h => ?_)
  · obtain ⟨p, l, xs, i, rfl, _⟩ := h; rfl
  obtain ⟨p, l, xs, i, rfl, na, hn, q, qe⟩ := h
  obtain ⟨⟨dx, g⟩, hl⟩ := id na
  refine ⟨_, (pss_cons (ps_set (i := 2) sc_Net__move.nd rfl (Or.inl rfl) (pe_mtX m_Net__take hr (by decide) (fun σ => passAt (takes_of rfl rfl rfl rfl) σ) (pv 0) (pa_cons (pv 1) pa_nil)))
      (pss_one (ps_expr (pe_bm PySem.F.plainAttrs_list PySem.F.slot_list_append PySem.F.type_list_append mt_append (pe_fld (pv 0) rfl) (pa_cons (pv 2) pa_nil))))), ?_⟩
  walk_at "rds"
  refine ⟨p, dx, _, rfl, g, rfl, ?_⟩
  walk_at "rds"
  refine ⟨p, l, xs, i, rfl, na, hn, fun k y hi hy H' b e => ?_, fun h => ?_⟩
  · obtain ⟨⟨dx, g⟩, hl⟩ := na.put b e
    walk_at "rds"
    refine ⟨p, _, dx, _, _, rfl, g, T.cl_Net, T.na_Net__packets, rfl, ?_⟩
    walk_at "rds"
    refine ⟨.inl ⟨rfl, _, sq hl⟩, ?_⟩
    walk_at "rds"
    refine ⟨l, _, y, rfl, rfl, hl, sz1000' (by unfold fTake; have := List.length_eraseIdx_le xs k; omega), ?_⟩
    exact q k y hi hy _ (b.trans but1_upd) upd_same
  · exact qe h
theorem m_Net__packets {C_Net : Addr} {C_BadSchedule : Addr} (T : Txt K mg C_Net C_BadSchedule) : Met P w K mg base 1 C_Net "packets" (spNPackets C_Net) [] := by
  refine met T.cl_Net T.me_Net__packets sc_Net__packets (fun vs H Q E h => ?_) (fun f cdv A outer s H vs Q E hr h => ?_)
  · obtain ⟨p, l, xs, rfl, _⟩ := h; rfl
  obtain ⟨p, l, xs, rfl, ⟨⟨dx, g⟩, hl⟩, q⟩ := h
  refine ⟨_, (pss_one (ps_ret (pe_callTy call_list_of (by rfl) T.z_list (by decide +kernel) (pa_cons (pe_fld (pv 0) rfl) pa_nil)))), ?_⟩
  walk_at "rds"
  refine ⟨p, _, dx, _, _, rfl, g, T.cl_Net, T.na_Net__packets, rfl, ?_⟩
  walk_at "rds"
  exact ⟨l, xs, rfl, .inl (sq hl), fun r hr => q r hr⟩
theorem m_Net__count {C_Net : Addr} {C_BadSchedule : Addr} (T : Txt K mg C_Net C_BadSchedule) : Met P w K mg base 1 C_Net "count" (spNCount C_Net) [] := by
  refine met T.cl_Net T.me_Net__count sc_Net__count (fun vs H Q E h => ?_) (fun f cdv A outer s H vs Q E hr h => ?_)
  · obtain ⟨p, l, xs, rfl, _⟩ := h; rfl
  obtain ⟨p, l, xs, rfl, ⟨⟨dx, g⟩, hl⟩, q⟩ := h
  refine ⟨_, (pss_one (ps_ret (pe_callB (klen (K := K)) (by rfl) T.z_len (by decide +kernel) (pa_cons (pe_fld (pv 0) rfl) pa_nil)))), ?_⟩
  walk_at "rds"
  refine ⟨p, _, dx, _, _, rfl, g, T.cl_Net, T.na_Net__packets, rfl, ?_⟩
  walk_at "rds"
  exact ⟨l, xs, rfl, .inl (sq hl), q⟩
end

/-! ### _law_rich -/
def spRich : Sp := fun vs H Q _ => ∃ (c k : Int), vs = [.int c, .int k] ∧ 0 ≤ k ∧ k ≤ 100 ∧ ∀ r : Int, Q (.int r) H
section
variable {P : Program} {w : World} {K : PySem.W.Frag} {mg : Str → Option Value} {base : Heap}
theorem c__law_rich {C_Net : Addr} {C_BadSchedule : Addr} (T : Txt K mg C_Net C_BadSchedule) : Cal P w K mg base 1 "_law_rich" spRich [] := by
  refine cal T.d__law_rich sc__law_rich (fun vs H Q E h => ?_) (fun f cdv A' outer s H vs Q E hr h => ?_)
  · obtain ⟨c, k, rfl, _⟩ := h; rfl
  obtain ⟨c, k, rfl, hk0, hk1, q⟩ := h
  refine ⟨_, (pss_cons (ps_if (pt_cmpR op_ge (pv 0) (pe_op op_pow pe_int pe_int) (nomark _)) (pss_one (ps_ret (pe_callTy call_int1 (by rfl) T.z_int (by decide +kernel) (pa_cons (pv 0) pa_nil)))) pss_nil)
      (pss_cons (ps_set (i := 2) sc__law_rich.nd rfl (Or.inl rfl) (pe_op op_mod (pe_callTy call_int1 (by rfl) T.z_int (by decide +kernel) (pa_cons (pe_op op_add (pe_op op_add (pe_op op_mul (pv 0) pe_int) (pe_op op_mul (pv 1) pe_int)) pe_int) pa_nil)) pe_int))
      (pss_one (ps_ret (pe_op op_add (pe_op op_mul (pv 2) pe_int) (pe_op op_mod (pe_callTy call_int1 (by rfl) T.z_int (by decide +kernel) (pa_cons (pe_op op_add (pe_op op_mul (pv 2) pe_int) (pv 0)) pa_nil)) pe_int)))))), ?_⟩
  walk_at "rds"
  refine ite2 (fun _ => ?_) (fun _ => ?_)
  · walk_at "rds"
    exact q _
  · walk_at "rds"
    exact q _
end

/-! ### the law -/
def pk (a b k : Int) : PyData := .tuple [.int a, .int b, .tuple [.str "claim", .int k]]
def IsPk (d : PyData) : Prop := ∃ a b k, d = pk a b k
theorem DtAll.erase {K : PySem.W.Frag} {H : Hp} {A : Option Addr} : ∀ {xs : List V} {ds : List PyData} (k : Nat), DtAll K H A xs ds → DtAll K H A (xs.eraseIdx k) (ds.eraseIdx k)
  | _, _, _, .nil => .nil
  | _, _, 0, .cons _ r => r
  | _, _, k + 1, .cons h r => .cons h (DtAll.erase k r)
theorem pk_lay {d : PyData} (h : IsPk d) : d.canLay0 = true ∧ d.depth ≤ 2 ∧ noL d = true := by
  obtain ⟨a, b, k, rfl⟩ := h
  exact ⟨by simp [pk, PyData.canLay0, PyData.canLayAll0]; decide +kernel, by simp [pk, PyData.depth, PyData.depthAll], rfl⟩
theorem pks_lay : ∀ {ds : List PyData}, (∀ d ∈ ds, IsPk d) → PyData.canLayAll0 ds = true ∧ PyData.depthAll ds ≤ 2
  | [], _ => ⟨by simp [PyData.canLayAll0], by simp [PyData.depthAll]⟩
  | d :: r, h => by
    obtain ⟨i1, i2⟩ := pks_lay fun z hz => h z (List.mem_cons_of_mem _ hz)
    obtain ⟨l1, l2, _⟩ := pk_lay (h d List.mem_cons_self)
    constructor
    · rw [PyData.canLayAll0, i1, l1]; rfl
    · rw [PyData.depthAll]; omega
theorem pks_noLs {ds : List PyData} (h : ∀ d ∈ ds, IsPk d) : noLs ds = true := noLs_all fun d hd => (pk_lay (h d hd)).2.2
theorem shp {d : PyData} (h1 : d.canLay0 = true) (h2 : d.depth ≤ 20) : SeqAt.shaped d = true ∧ PyData.eqv d d = true := by
  refine ⟨?_, SeqAt.eqv_refl _ h1⟩
  unfold SeqAt.shaped
  rw [h1, decide_eq_true (by omega)]; rfl
def nxt (z : Str) (xs : List V) (k : Nat) (y : V) : List V := if z = "take" then fTake xs k y else if z = "double" then fDouble xs k y else fMove xs k y
def nxd (z : Str) (ds : List PyData) (k : Nat) (y : PyData) : List PyData := if z = "take" then ds.eraseIdx k else if z = "double" then ds ++ [y] else ds.eraseIdx k ++ [y]
def ansV (z : Str) (y : V) : V := if z = "take" then y else .non
def IsVerb (z : Str) : Prop := z = "take" ∨ z = "double" ∨ z = "move"
theorem nxt_dt {K : PySem.W.Frag} {H : Hp} {A : Option Addr} {xs : List V} {ds : List PyData} {z : Str} {k : Nat} {y : V} {d : PyData} (h : DtAll K H A xs ds) (hy : Dt K H A y d) : DtAll K H A (nxt z xs k y) (nxd z ds k d) := by
  unfold nxt nxd
  split
  · exact h.erase k
  · split
    · exact h.snoc hy
    · exact (h.erase k).snoc hy
theorem nxd_pk {z : Str} {ds : List PyData} {k : Nat} {d : PyData} (h : ∀ d ∈ ds, IsPk d) (hd : IsPk d) : ∀ e ∈ nxd z ds k d, IsPk e := by
  unfold nxd
  intro e he
  have er : ∀ e ∈ ds.eraseIdx k, IsPk e := fun e he => h e (List.mem_of_mem_eraseIdx he)
  split at he
  · exact er e he
  · split at he
    · rcases List.mem_append.mp he with he | he
      · exact h e he
      · rw [List.mem_singleton.mp he]; exact hd
    · rcases List.mem_append.mp he with he | he
      · exact er e he
      · rw [List.mem_singleton.mp he]; exact hd
theorem nxd_len {z : Str} {ds : List PyData} {k : Nat} {d : PyData} : (nxd z ds k d).length ≤ ds.length + 1 := by
  unfold nxd
  have := List.length_eraseIdx_le ds k
  split
  · omega
  · split <;> rw [List.length_append, List.length_singleton] <;> omega
def posT (H' : Hp) (t : Addr) : Prop := H' t = some (.tup [.str "refused", .int 0, .str "position"])
def spNCall (C : Addr) : Sp := fun vs H Q _ => ∃ (p l : Addr) (xs : List V) (z : Str) (i : Int), vs = [.ref p, .str z, .int i] ∧ IsVerb z ∧ NetAt C H p l xs ∧ xs.length < 1000 ∧
  (∀ (k : Nat) y, i = k → xs[k]? = some y → ∀ H', But1 l H H' → H' l = some (.lst (nxt z xs k y)) → Q (ansV z y) H') ∧ (¬ (0 ≤ i ∧ i < xs.length) → ∀ H' t, Same H H' → H t = none → posT H' t → Q (.ref t) H')
def spNDue : Sp := fun vs H Q _ => ∃ (l : Addr) (xs : List V) (z : Str) (i : Int), vs = [.ref l, .str z, .int i] ∧ IsVerb z ∧ H l = some (.lst xs) ∧ xs.length < 1000 ∧
  (∀ (k : Nat) y, i = k → xs[k]? = some y → ∀ H', But1 l H H' → H' l = some (.lst (nxt z xs k y)) → Q (ansV z y) H') ∧ (¬ (0 ≤ i ∧ i < xs.length) → ∀ H' t, Same H H' → H t = none → posT H' t → Q (.ref t) H')
theorem NetAt.put2 {C : Addr} {H H' : Hp} {p l M : Addr} {xs ms : List V} (h : NetAt C H p l xs) (hM : H M = some (.lst ms)) (ne : l ≠ M) (b : But1 M H H') : NetAt C H' p l xs :=
  ⟨h.1.imp fun _ g => b _ _ (ne_of g hM (by intro z; cases z)) g, b _ _ ne h.2⟩
theorem NetAt.side {C : Addr} {H : Hp} {p l M : Addr} {xs ms ys : List V} (h : NetAt C H p l xs) (hM : H M = some (.lst ms)) (ne : l ≠ M) : NetAt C (upd H M (.lst ys)) p l xs :=
  ⟨h.1.imp fun _ g => by rw [upd_ne (ne_of g hM (by intro z; cases z))]; exact g, by rw [upd_ne ne]; exact h.2⟩
structure LS (C : Addr) (K : PySem.W.Frag) (H H' : Hp) (p l M : Addr) (xs ms : List V) (ds : List PyData) : Prop where
  sm : Same H H'
  hl : H l = none
  hM : H M = none
  na : NetAt C H' p l xs
  md : H' M = some (.lst ms)
  d1 : DtAll K H' none xs ds
  d2 : DtAll K H' none ms ds
  ne : l ≠ M
  ok : ∀ d ∈ ds, IsPk d
theorem LS.on {C : Addr} {K : PySem.W.Frag} {H H1 H2 : Hp} {p l M : Addr} {xs ms : List V} {ds : List PyData} (h : LS C K H H1 p l M xs ms ds) (s : Same H1 H2) : LS C K H H2 p l M xs ms ds :=
  { h with sm := h.sm.trans s, na := h.na.on s, md := s _ _ h.md, d1 := h.d1.on s, d2 := h.d2.on s }
section
variable {P : Program} {w : World} {K : PySem.W.Frag} {mg : Str → Option Value} {base : Heap}
theorem c__law_call {C_Net : Addr} {C_BadSchedule : Addr} (T : Txt K mg C_Net C_BadSchedule) : Cal P w K mg base 6 "_law_call" (spNCall C_Net) [] := by
  have m_Net__take := m_Net__take (P := P) (w := w) (base := base) T
  have m_Net__double := m_Net__double (P := P) (w := w) (base := base) T
  have m_Net__move := m_Net__move (P := P) (w := w) (base := base) T
  refine cal T.d__law_call sc__law_call (fun vs H Q E h => ?_) (fun f cdv A' outer s H vs Q E hr h => ?_)
  · obtain ⟨p, l, xs, z, i, rfl, _⟩ := h; rfl
  obtain ⟨p, l, xs, z, i, rfl, hz, na, hn, q, qe⟩ := h
  obtain ⟨⟨dx, g⟩, hl⟩ := id na
  refine ⟨_, (pss_one (ps_try_as (i := 3) (Wout := fun _ _ _ _ => False) rfl rfl sc__law_call.nd rfl rfl ⟨by rfl, by decide, .inl T.x_BadSchedule.g⟩ takes0 (fun W pn xe tk _ => (pss_cons (ps_if (pt_cmpR op_eq (pv 1) pe_str (nomark _)) (pss_one (ps_ret (pe_mtX m_Net__take hr (by decide) (fun σ => passAt tk σ) (pv 0) (pa_cons (pv 2) pa_nil)))) pss_nil)
      (pss_cons (ps_if (pt_cmpR op_eq (pv 1) pe_str (nomark _)) (pss_one (ps_ret (pe_mtX m_Net__double hr (by decide) (fun σ => passAt tk σ) (pv 0) (pa_cons (pv 2) pa_nil)))) pss_nil)
      (pss_one (ps_ret (pe_mtX m_Net__move hr (by decide) (fun σ => passAt tk σ) (pv 0) (pa_cons (pv 2) pa_nil))))))) (fun a oe cls d pn hz hf => (pss_one (ps_ret (pe_tup (pa_cons pe_str (pa_cons (pe_xf T.x_BadSchedule.xf T.xn_BadSchedule_line hz hf (pv 3)) (pa_cons (pe_xf T.x_BadSchedule.xf T.xn_BadSchedule_reason hz hf (pv 3)) pa_nil))))))))), ?_⟩
  walk_at "rds"
  rcases hz with rfl | rfl | rfl
  · refine ite2 (fun _ => ?_) (fun e => absurd (by decide +kernel) e)
    walk_at "rds"
    refine ⟨p, dx, _, rfl, g, rfl, ?_⟩
    walk_at "rds"
    refine ⟨p, l, xs, i, rfl, na, hn, q, fun h H' d s1 hd => ?_⟩
    refine ⟨true, T.x_BadSchedule.exm T.u_BadSchedule_BadSchedule, fun _ b hb => ?_, fun z => nomatch z⟩
    walk_at "rds"
    refine ⟨rfl, rfl, d, _, _, rfl, hd, rfl, ?_⟩
    walk_at "rds"
    refine ⟨rfl, rfl, d, _, _, rfl, hd, rfl, ?_⟩
    walk_at "rds"
    intro t ht
    exact qe h _ t (s1.trans (same_upd ht)) (same_none s1 ht) upd_same
  · refine ite2 (fun e => absurd e (by decide +kernel)) (fun _ => ?_)
    walk_at "rds"
    refine ⟨p, dx, _, rfl, g, rfl, ?_⟩
    walk_at "rds"
    refine ⟨p, l, xs, i, rfl, na, hn, q, fun h H' d s1 hd => ?_⟩
    refine ⟨true, T.x_BadSchedule.exm T.u_BadSchedule_BadSchedule, fun _ b hb => ?_, fun z => nomatch z⟩
    walk_at "rds"
    refine ⟨rfl, rfl, d, _, _, rfl, hd, rfl, ?_⟩
    walk_at "rds"
    refine ⟨rfl, rfl, d, _, _, rfl, hd, rfl, ?_⟩
    walk_at "rds"
    intro t ht
    exact qe h _ t (s1.trans (same_upd ht)) (same_none s1 ht) upd_same
  · refine ite2 (fun e => absurd e (by decide +kernel)) (fun _ => ?_)
    walk_at "rds"
    refine ⟨p, dx, _, rfl, g, rfl, ?_⟩
    walk_at "rds"
    refine ⟨p, l, xs, i, rfl, na, hn, q, fun h H' d s1 hd => ?_⟩
    refine ⟨true, T.x_BadSchedule.exm T.u_BadSchedule_BadSchedule, fun _ b hb => ?_, fun z => nomatch z⟩
    walk_at "rds"
    refine ⟨rfl, rfl, d, _, _, rfl, hd, rfl, ?_⟩
    walk_at "rds"
    refine ⟨rfl, rfl, d, _, _, rfl, hd, rfl, ?_⟩
    walk_at "rds"
    intro t ht
    exact qe h _ t (s1.trans (same_upd ht)) (same_none s1 ht) upd_same
theorem c__law_due {C_Net : Addr} {C_BadSchedule : Addr} (T : Txt K mg C_Net C_BadSchedule) : Cal P w K mg base 1 "_law_due" spNDue [] := by
  refine cal T.d__law_due sc__law_due (fun vs H Q E h => ?_) (fun f cdv A' outer s H vs Q E hr h => ?_)
  · obtain ⟨l, xs, z, i, rfl, _⟩ := h; rfl
  obtain ⟨l, xs, z, i, rfl, hz, hl, hn, q, qe⟩ := h
  refine ⟨_, (pss_cons (ps_if (PW.pt (pw_or (pt_cmpR op_lt (pv 2) pe_int (nomark _)) (pw_or1 (pt_cmpR op_ge (pv 2) (pe_callB (klen (K := K)) (by rfl) T.z_len (by decide +kernel) (pa_cons (pv 0) pa_nil)) (nomark _))))) (pss_one (ps_ret (pe_tup (pa_cons pe_str (pa_cons pe_int (pa_cons pe_str pa_nil)))))) pss_nil)
      (pss_cons (ps_if (pt_cmpR op_eq (pv 1) pe_str (nomark _)) (pss_cons (ps_expr (pe_bm PySem.F.plainAttrs_list PySem.F.slot_list_append PySem.F.type_list_append mt_append (pv 0) (pa_cons (pe_ix (kixl (K := K)) (pv 0) (pv 2) (fun _ _ => rfl)) pa_nil)))
      (pss_one (ps_ret pe_non))) pss_nil)
      (pss_cons (ps_set (i := 3) sc__law_due.nd rfl (Or.inl rfl) (pe_bm PySem.F.plainAttrs_list PySem.F.slot_list_pop PySem.F.type_list_pop mt_popAt (pv 0) (pa_cons (pv 2) pa_nil)))
      (pss_cons (ps_if (pt_cmpR op_eq (pv 1) pe_str (nomark _)) (pss_cons (ps_expr (pe_bm PySem.F.plainAttrs_list PySem.F.slot_list_append PySem.F.type_list_append mt_append (pv 0) (pa_cons (pv 3) pa_nil)))
      (pss_one (ps_ret pe_non))) pss_nil)
      (pss_one (ps_ret (pv 3))))))), ?_⟩
  have hx : ¬ (0 ≤ i ∧ i < xs.length) → ∀ t, H t = none → Q (.ref t) (upd H t (.tup [.str "refused", .int 0, .str "position"])) := fun h t ht => qe h _ t (same_upd ht) ht upd_same
  walk_at "rds"
  refine ite2 (fun e => ?_) (fun e => ?_)
  · have e := of_decide_eq_true e
    walk_at "rds"
    intro t ht
    exact hx (by omega) t ht
  have e : ¬ i < 0 := fun z => e (decide_eq_true z)
  walk_at "rds"
  refine ⟨l, xs, rfl, .inl (sq hl), ?_⟩
  walk_at "rds"
  refine ite2 (fun e2 => ?_) (fun e2 => ?_)
  · have e2 := of_decide_eq_true e2
    walk_at "rds"
    intro t ht
    exact hx (by omega) t ht
  have e2 : ¬ i ≥ xs.length := fun z => e2 (decide_eq_true z)
  obtain ⟨k, y, rfl, hy⟩ := get_of (show 0 ≤ i ∧ i < xs.length by omega)
  have hk : k < xs.length := by omega
  have le := List.length_eraseIdx_le xs k
  walk_at "rds"
  rcases hz with rfl | rfl | rfl
  · refine ite2 (fun e => absurd e (by decide +kernel)) (fun _ => ?_)
    walk_at "rds"
    refine ⟨.inl ⟨rfl, _, sq hl⟩, ?_⟩
    walk_at "rds"
    refine ⟨l, xs, (k : Int), k, y, rfl, rfl, hl, by omega, by omega, seqIdx hk, hy, ?_⟩
    walk_at "rds"
    exact q k y rfl hy _ but1_upd upd_same
  · refine ite2 (fun _ => ?_) (fun e => absurd (by decide +kernel) e)
    walk_at "rds"
    refine ⟨.inl ⟨rfl, _, sq hl⟩, ?_⟩
    walk_at "rds"
    refine ⟨l, _, _, _, rfl, rfl, sq hl, atI_nat hy, ?_⟩
    walk_at "rds"
    refine ⟨l, xs, y, rfl, rfl, hl, sz1000' (by omega), ?_⟩
    exact q k y rfl hy _ but1_upd upd_same
  · refine ite2 (fun e => absurd e (by decide +kernel)) (fun _ => ?_)
    walk_at "rds"
    refine ⟨.inl ⟨rfl, _, sq hl⟩, ?_⟩
    walk_at "rds"
    refine ⟨l, xs, (k : Int), k, y, rfl, rfl, hl, by omega, by omega, seqIdx hk, hy, ?_⟩
    walk_at "rds"
    refine ⟨.inl ⟨rfl, _, sq upd_same⟩, ?_⟩
    walk_at "rds"
    refine ⟨l, _, y, rfl, rfl, upd_same, sz1000' (by omega), ?_⟩
    exact q k y rfl hy _ (but1_upd.trans but1_upd) upd_same
theorem ok_law {C_Net : Addr} {C_BadSchedule : Addr} {f : Addr} {fd : FuncData} (F : L2.Fun K "law" "law" s_law f fd) (T : Txt K mg C_Net C_BadSchedule) : FnOk P w K mg base L2.CX0 8 f fd ["script"] (spLaw K) := by
  have c__law_rich := c__law_rich (P := P) (w := w) (base := base) T
  have c__law_call := c__law_call (P := P) (w := w) (base := base) T
  have c__law_due := c__law_due (P := P) (w := w) (base := base) T
  have k_Net := k_Net (P := P) (w := w) (base := base) T
  have m_Net__send := m_Net__send (P := P) (w := w) (base := base) T
  have m_Net__packets := m_Net__packets (P := P) (w := w) (base := base) T
  have m_Net__count := m_Net__count (P := P) (w := w) (base := base) T
  refine F.ok sc_law (fun vs H Q E h => ?_) (fun cdv A outer s H vs Q E hr h => ?_)
  · obtain ⟨a, ns, rfl, _⟩ := h; rfl
  obtain ⟨a, ns, rfl, hS, hlen, q⟩ := h
  refine ⟨_, (pss_cons (ps_set (i := 1) sc_law.nd rfl (Or.inl rfl) (pe_mk0 k_Net hr (by decide) (by rfl)))
      (pss_cons (ps_set (i := 2) sc_law.nd rfl (Or.inl rfl) (pe_lst pa_nil))
      (pss_cons (ps_for PassesOwn.never rfl (pi_range1 (by rfl) T.z_range (pa_cons (pe_callB (klen (K := K)) (by rfl) T.z_len (by decide +kernel) (pa_cons (pv 0) pa_nil)) pa_nil)) (pg_name (i := 3) sc_law.nd rfl (Or.inl rfl)) (pss_cons (ps_set (i := 4) sc_law.nd rfl (Or.inl rfl) (pe_c c__law_rich hr (by decide) (by rfl) (pa_cons (pe_ix (kixl (K := K)) (pv 0) (pv 3) (fun _ _ => rfl)) (pa_cons (pv 3) pa_nil))))
      (pss_cons (ps_set (i := 5) sc_law.nd rfl (Or.inl rfl) (pe_ix (kixl (K := K)) (pe_lst (pa_cons pe_str (pa_cons pe_str (pa_cons pe_str (pa_cons pe_str (pa_cons pe_str pa_nil)))))) (pe_op op_mod (pv 4) pe_int) (fun _ _ => rfl)))
      (pss_cons (ps_set (i := 6) sc_law.nd rfl (Or.inl rfl) (pe_op op_fdiv (pv 4) pe_int))
      (pss_cut (ps_if (pt_cmpR op_eq (pv 5) pe_str (nomark _)) (pss_cons (ps_set (i := 7) sc_law.nd rfl (Or.inl rfl) (pe_tup (pa_cons (pe_op op_mod (pv 6) pe_int) (pa_cons (pe_op op_sub (pe_op op_mod (pe_op op_fdiv (pv 6) pe_int) pe_int) pe_int) (pa_cons (pe_tup (pa_cons pe_str (pa_cons (pv 3) pa_nil))) pa_nil)))))
      (pss_cons (ps_if (pt_cmpR op_notN (pe_mt m_Net__send hr (by decide) (pv 1) (pa_cons (pe_ix (kixt (K := K)) (pv 7) pe_int (fun _ _ => rfl)) (pa_cons (pe_ix (kixt (K := K)) (pv 7) pe_int (fun _ _ => rfl)) (pa_cons (pe_ix (kixt (K := K)) (pv 7) pe_int (fun _ _ => rfl)) pa_nil)))) pe_non (nomark _)) (pss_one (ps_ret pe_bl)) pss_nil)
      (pss_one (ps_expr (pe_bm PySem.F.plainAttrs_list PySem.F.slot_list_append PySem.F.type_list_append mt_append (pv 2) (pa_cons (pv 7) pa_nil)))))) (pss_cons (ps_set (i := 8) sc_law.nd rfl (Or.inl rfl) (pe_op op_sub (pe_op op_mod (pv 6) (pe_op op_add (pe_callB (klen (K := K)) (by rfl) T.z_len (by decide +kernel) (pa_cons (pv 2) pa_nil)) pe_int)) pe_int))
      (pss_cut (ps_if (pt_cmpR op_eq (pe_op op_mod (pe_op op_fdiv (pv 6) pe_int) pe_int) pe_int (nomark _)) (pss_one (ps_set (i := 8) sc_law.nd rfl (Or.inl rfl) (pe_op op_add (pe_callB (klen (K := K)) (by rfl) T.z_len (by decide +kernel) (pa_cons (pv 2) pa_nil)) (pe_op op_fdiv (pv 6) pe_int)))) pss_nil)
      (pss_cons (ps_set (i := 9) sc_law.nd rfl (Or.inl rfl) (pe_c c__law_due hr (by decide) (by rfl) (pa_cons (pv 2) (pa_cons (pv 5) (pa_cons (pv 8) pa_nil)))))
      (pss_cons (ps_set (i := 10) sc_law.nd rfl (Or.inl rfl) (pe_c c__law_call hr (by decide) (by rfl) (pa_cons (pv 1) (pa_cons (pv 5) (pa_cons (pv 8) pa_nil)))))
      (pss_one (ps_if (PW.pt (pw_or (PW.pt (pw_and (pt_cmpR op_isN (pv 9) pe_non (nomark _)) (pw_and1 (pt_cmpR op_notN (pv 10) pe_non (nomark _))))) (pw_or1 (pt_cmpR (op_neD hr.units) (pv 10) (pv 9) (nomark _))))) (pss_one (ps_ret pe_bl)) pss_nil)))))))
      (pss_cons (ps_set (i := 11) sc_law.nd rfl (Or.inl rfl) (pe_mt0 m_Net__packets hr (by decide) (pv 1)))
      (pss_cons (ps_if (PW.pt (pw_or (pt_not (pt_val (pe_callB (kisi (K := K)) (by rfl) T.z_isinstance (by decide +kernel) (pa_cons (pv 11) (pa_cons (pe_bltn (v := .ty "list") (by rfl) T.z_list (by decide +kernel) rfl) pa_nil))))) (pw_or (pt_cmpR (op_neD hr.units) (pv 11) (pv 2) (nomark _)) (pw_or1 (pt_cmpR op_ne (pe_mt0 m_Net__count hr (by decide) (pv 1)) (pe_callB (klen (K := K)) (by rfl) T.z_len (by decide +kernel) (pa_cons (pv 2) pa_nil)) (nomark _)))))) (pss_one (ps_ret pe_bl)) pss_nil)
      (pss_one (ps_expr (pe_bm PySem.F.plainAttrs_list PySem.F.slot_list_append PySem.F.type_list_append mt_append (pv 11) (pa_cons pe_int pa_nil)))))))))))
      (pss_one (ps_ret (pe_cmpR (op_eqD hr.units) (pe_mt0 m_Net__packets hr (by decide) (pv 1)) (pv 2) (nomark _))))))), ?_⟩
  walk_at "rds"
  intro p dx hp hdx hne
  refine ⟨p, dx, rfl, upd_same, fun H1 l kp hl na1 => ⟨rfl, ?_⟩⟩
  have s1 : Same H H1 := Same.made hp hdx kp
  have sMk : Same H (upd (upd H dx (.own p)) p (.ins C_Net dx [])) := (same_upd hdx).trans (same_upd (by rw [upd_ne hne.symm]; exact hp))
  walk_at "rds"
  intro M hM
  have sM : Same H1 (upd H1 M (.lst [])) := same_upd hM
  have ls0 : LS C_Net K H (upd H1 M (.lst [])) p l M [] [] [] :=
    { sm := s1.trans sM, hl := same_none sMk hl, hM := same_none s1 hM, na := na1.on sM, md := upd_same, d1 := .nil, d2 := .nil, ne := ne_of_none na1.2 hM, ok := fun _ m => nomatch m }
  generalize upd H1 M (.lst []) = H4 at ls0
  walk_at "rds"
  refine ⟨a, _, rfl, .inl (ls0.sm.seq hS), ?_⟩
  walk_at "rds"
  refine ⟨by rw [List.length_map]; omega, by rw [List.length_map]; omega, ?_⟩
  refine for_it walk_range (Pv := fun i σ' H' => ∃ xs ms ds y3 y4 y5 y6 y7 y8 y9 y10 y11, σ' = [some (.ref a), some (.ref p), some (.ref M), y3, y4, y5, y6, y7, y8, y9, y10, y11] ∧ LS C_Net K H H' p l M xs ms ds ∧ ds.length ≤ i) ⟨[], [], [], none, none, none, none, none, none, none, none, none, rfl, ls0, Nat.le_refl _⟩ (fun _ _ _ _ _ => trivial) (fun i x σ' H5 H6 hi hp' hy => ?_) (fun σ' H5 hp' => ?_)
  · obtain ⟨xs, ms, ds, y3, y4, y5, y6, y7, y8, y9, y10, y11, rfl, ls, hel⟩ := hp'
    obtain ⟨rfl, rfl⟩ := hy
    rw [List.length_map] at hi
    have g : (ns.map V.int)[i]? = some (.int ns[i]) := by
      rw [List.getElem?_map, List.getElem?_eq_getElem hi]; rfl
    have e0 : (0 : Int) + (i : Int) = (i : Int) := by omega
    walk_at "rds"
    refine ⟨a, _, (i : Int), _, rfl, by show V.int (0 + (i : Int)) = V.int i; rw [e0], ls.sm.seq hS, atI_nat g, ?_⟩
    walk_at "rds"
    refine ⟨_, _, rfl, by omega, by omega, fun r => ?_⟩
    walk_at "rds"
    intro L hL
    walk_at "rds"
    obtain ⟨v, hv, hat⟩ := atI_lt (xs := [V.str "send", .str "send", .str "take", .str "double", .str "move"]) (i := r % 5) (by omega) (by show r % 5 < 5; omega)
    have : ∃ z : Str, v = .str z ∧ (z = "send" ∨ (z ≠ "send" ∧ IsVerb z)) := by
      simp only [List.mem_cons, List.not_mem_nil, or_false] at hv
      rcases hv with rfl | rfl | rfl | rfl | rfl
      · exact ⟨_, rfl, .inl rfl⟩
      · exact ⟨_, rfl, .inl rfl⟩
      · exact ⟨_, rfl, .inr ⟨by decide +kernel, .inl rfl⟩⟩
      · exact ⟨_, rfl, .inr ⟨by decide +kernel, .inr (.inl rfl)⟩⟩
      · exact ⟨_, rfl, .inr ⟨by decide +kernel, .inr (.inr rfl)⟩⟩
    obtain ⟨z, rfl, hz⟩ := this
    refine ⟨L, _, _, _, rfl, rfl, sq upd_same, hat, ?_⟩
    have ls := ls.on (same_upd (o := .lst [V.str "send", .str "send", .str "take", .str "double", .str "move"]) hL)
    generalize upd H6 L (.lst [V.str "send", .str "send", .str "take", .str "double", .str "move"]) = H7 at ls
    walk_at "rds"
    refine ⟨fun σ' H' => ∃ xs ms ds y7 y8 y9 y10, σ' = [some (.ref a), some (.ref p), some (.ref M), some (.int (0 + (i : Int))), some (.int r), some (.str z), some (.int (r / 5)), y7, y8, y9, y10, y11] ∧ LS C_Net K H H' p l M xs ms ds ∧ ds.length ≤ i + 1, ?_, ?_⟩
    · walk_at "rds"
      refine ite2 (fun e => ?_) (fun e => ?_)
      · walk_at "rds"
        intro t1 ht1
        walk_at "rds"
        intro t2 ht2
        have ls := (ls.on (same_upd (o := .tup [.str "claim", .int (0 + (i : Int))]) ht1)).on (same_upd (o := .tup [.int (r / 5 % 7), .int (r / 5 / 7 % 7 - 3), .ref t1]) ht2)
        have e2 : upd (upd H7 t1 (.tup [.str "claim", .int (0 + (i : Int))])) t2 (.tup [.int (r / 5 % 7), .int (r / 5 / 7 % 7 - 3), .ref t1]) t2 = some (.tup [.int (r / 5 % 7), .int (r / 5 / 7 % 7 - 3), .ref t1]) := upd_same
        have e1 : upd (upd H7 t1 (.tup [.str "claim", .int (0 + (i : Int))])) t2 (.tup [.int (r / 5 % 7), .int (r / 5 / 7 % 7 - 3), .ref t1]) t1 = some (.tup [.str "claim", .int (0 + (i : Int))]) := (same_upd ht2) _ _ upd_same
        obtain ⟨⟨dx9, g9⟩, _⟩ := id ls.na
        walk_at "rds"
        refine ⟨p, dx9, _, rfl, g9, rfl, ?_⟩
        walk_at "rds"
        refine ⟨t2, _, 0, _, rfl, rfl, SqT.of e2, atI_nat (j := 0) rfl, ?_⟩
        walk_at "rds"
        refine ⟨t2, _, 1, _, rfl, rfl, SqT.of e2, atI_nat (j := 1) rfl, ?_⟩
        walk_at "rds"
        refine ⟨t2, _, 2, _, rfl, rfl, SqT.of e2, atI_nat (j := 2) rfl, ?_⟩
        walk_at "rds"
        refine ⟨p, l, xs, _, _, _, rfl, ls.na, by have := ls.d1.length; omega, fun H8 t3 b3 ht3 e3 e4 => ?_⟩
        walk_at "rds"
        have e5 := b3 _ _ (ne_of e2 ls.na.2 (by intro z; cases z)) e2
        have e6 := b3 _ _ (ne_of e1 ls.na.2 (by intro z; cases z)) e1
        have lm := b3 _ _ ls.ne.symm ls.md
        refine ⟨.inl ⟨rfl, _, sq lm⟩, ?_⟩
        walk_at "rds"
        refine ⟨M, ms, .ref t2, rfl, rfl, lm, sz1000' (by have := ls.d2.length; omega), ?_⟩
        have tp := b3.tp ls.na.2
        have tp2 := tp_put (ys := ms ++ [.ref t2]) lm
        have hcl : Dt K H8 none (.ref t1) (.tuple [.str "claim", .int (0 + (i : Int))]) := .tup (.inl e6) (.cons (.str _ (by decide)) (.cons (.int _) .nil))
        have hp1 : Dt K H8 none (.ref t2) (pk (r / 5 % 7) (r / 5 / 7 % 7 - 3) (0 + (i : Int))) := .tup (.inl e5) (.cons (.int _) (.cons (.int _) (.cons hcl .nil)))
        have hp2 : Dt K H8 none (.ref t3) (pk (r / 5 % 7) (r / 5 / 7 % 7 - 3) (0 + (i : Int))) := .tup (.inl e3) (.cons (.int _) (.cons (.int _) (.cons hcl .nil)))
        have nl := pks_noLs ls.ok
        have hall : ∀ d ∈ ds ++ [pk (r / 5 % 7) (r / 5 / 7 % 7 - 3) (0 + (i : Int))], IsPk d := fun d hd => by
          rcases List.mem_append.mp hd with hd | hd
          · exact ls.ok d hd
          · rw [List.mem_singleton.mp hd]; exact ⟨_, _, _, rfl⟩
        refine ⟨xs ++ [.ref t3], ms ++ [.ref t2], ds ++ [pk (r / 5 % 7) (r / 5 / 7 % 7 - 3) (0 + (i : Int))], _, _, _, _, rfl, ⟨?_, ls.hl, ls.hM, ?_, upd_same, ?_, ?_, ls.ne, ?_⟩, ?_⟩
        · exact same_mut (fun b o e => b3 _ _ (ne_of_none e ls.hl) (ls.sm _ _ e)) ls.hM
        · exact (ls.na.put b3 e4).side lm ls.ne
        · exact DtAll.keep (tp2) _ _ (pks_noLs hall) ((DtAll.keep tp _ _ nl ls.d1).snoc hp2)
        · exact DtAll.keep (tp2) _ _ (pks_noLs hall) ((DtAll.keep tp _ _ nl ls.d2).snoc hp1)
        · exact hall
        · rw [List.length_append, List.length_singleton]; omega
      · have hz : IsVerb z := hz.elim (fun h => absurd (by rw [h]; decide +kernel) e) (·.2)
        walk_at "rds"
        refine ⟨M, ms, rfl, .inl (sq ls.md), ?_⟩
        walk_at "rds"
        refine ⟨fun σ' H' => H' = H7 ∧ ∃ at_ : Int, σ' = [some (.ref a), some (.ref p), some (.ref M), some (.int (0 + (i : Int))), some (.int r), some (.str z), some (.int (r / 5)), y7, some (.int at_), y9, y10, y11], ?_, ?_⟩
        · walk_at "rds"
          refine ite2 (fun _ => ?_) (fun _ => ?_)
          · walk_at "rds"
            refine ⟨M, ms, rfl, .inl (sq ls.md), ?_⟩
            walk_at "rds"
            exact ⟨rfl, _, rfl⟩
          · exact ⟨rfl, _, rfl⟩
        rintro σ' H8 ⟨rfl, at_, rfl⟩
        have hml : ms.length = xs.length := by rw [ls.d1.length, ls.d2.length]
        have hxl := ls.d1.length
        obtain ⟨⟨dx9, g9⟩, _⟩ := id ls.na
        walk_at "rds"
        refine ⟨M, ms, z, at_, rfl, hz, ls.md, by omega, fun k y hk hy H9 b9 e9 => ?_, fun hk H9 t9 s9 hn9 ht9 => ?_⟩
        · walk_at "rds"
          have na9 := ls.na.put2 ls.md ls.ne b9
          refine ⟨p, l, xs, z, at_, rfl, hz, na9, by omega, fun k' y' hk' hy' H10 b10 e10 => ?_, fun hk' => absurd (by have := (List.getElem?_eq_some_iff.mp hy).1; omega) hk'⟩
          obtain rfl : k = k' := by omega
          obtain ⟨d, gd, hd⟩ := ls.d1.get hy'
          obtain ⟨d', gd', hd'⟩ := ls.d2.get hy
          obtain rfl : d = d' := by rw [gd] at gd'; exact Option.some.inj gd'
          have hpk := ls.ok d (List.mem_of_getElem? gd)
          obtain ⟨p1, p2, p3⟩ := pk_lay hpk
          obtain ⟨sh, ev⟩ := shp p1 (by omega)
          have tp9 := b9.tp ls.md
          have tp10 := b10.tp na9.2
          have nls := pks_noLs ls.ok
          have hy9 : Dt K H10 none y d := Dt.keep (A := none) tp10 _ _ p3 (Dt.keep tp9 _ _ p3 hd')
          have hy10 : Dt K H10 none y' d := Dt.keep (A := none) tp10 _ _ p3 (Dt.keep tp9 _ _ p3 hd)
          have dl := nxd_len (z := z) (ds := ds) (k := k) (d := d)
          have lsN : LS C_Net K H H10 p l M (nxt z xs k y') (nxt z ms k y) (nxd z ds k d) :=
            { sm := fun b o e => b10 _ _ (ne_of_none e ls.hl) (b9 _ _ (ne_of_none e ls.hM) (ls.sm _ _ e)), hl := ls.hl, hM := ls.hM, na := na9.put b10 e10, md := b10 _ _ ls.ne.symm e9
              d1 := nxt_dt (DtAll.keep (A := none) tp10 _ _ nls (DtAll.keep tp9 _ _ nls ls.d1)) hy10, d2 := nxt_dt (DtAll.keep (A := none) tp10 _ _ nls (DtAll.keep tp9 _ _ nls ls.d2)) hy9, ne := ls.ne, ok := nxd_pk ls.ok hpk }
          unfold ansV
          by_cases hv : z = "take"
          · rw [if_pos hv, if_pos hv]
            walk_at "rds"
            refine ifF (by obtain ⟨_, _, _, rfl⟩ := hpk; cases hd'; rfl) ?_
            walk_at "rds"
            refine ⟨d, d, Dt.dp _ _ hy10, Dt.dp _ _ hy9, sh, sh, ?_⟩
            rw [ev]
            walk_at "rds"
            exact ⟨_, _, _, _, _, _, _, rfl, lsN, by omega⟩
          · rw [if_neg hv, if_neg hv]
            walk_at "rds"
            refine ⟨.none, .none, .non, .non, by decide +kernel, by decide +kernel, ?_⟩
            walk_at "rds"
            exact ⟨_, _, _, _, _, _, _, rfl, lsN, by omega⟩
        · walk_at "rds"
          have ls := ls.on s9
          refine ⟨p, l, xs, z, at_, rfl, hz, ls.na, by omega, fun k' y' hk' hy' => absurd (by have := (List.getElem?_eq_some_iff.mp hy').1; omega) hk, fun _ H10 t10 s10 hn10 ht10 => ?_⟩
          have ls := ls.on s10
          have ht9 := s10 _ _ ht9
          have l1 : (PyData.tuple [.str "refused", .int 0, .str "position"]).canLay0 = true := by simp [PyData.canLay0, PyData.canLayAll0]; decide +kernel
          obtain ⟨sh, ev⟩ := shp l1 (by simp [PyData.depth, PyData.depthAll])
          walk_at "rds"
          refine ⟨_, _, .tup (SqT.of ht10) (.cons (.str _) (.cons (.int _) (.cons (.str _) .nil))), .tup (SqT.of ht9) (.cons (.str _) (.cons (.int _) (.cons (.str _) .nil))), sh, sh, ?_⟩
          rw [ev]
          walk_at "rds"
          exact ⟨_, _, _, _, _, _, _, rfl, ls, by omega⟩
    rintro σ' H8 ⟨xs, ms, ds, y7, y8, y9, y10, rfl, ls, hel⟩
    obtain ⟨⟨dx9, g9⟩, _⟩ := id ls.na
    walk_at "rds"
    refine ⟨p, dx9, _, rfl, g9, rfl, ?_⟩
    walk_at "rds"
    refine ⟨p, l, xs, rfl, ls.na, fun R hR => ?_⟩
    have hRR : upd H8 R (.lst xs) R = some (.lst xs) := upd_same
    have hR0 : H R = none := same_none ls.sm hR
    have hRl : l ≠ R := ne_of_none ls.na.2 hR
    have hRM : M ≠ R := ne_of_none ls.md hR
    have ls := ls.on (same_upd (o := .lst xs) hR)
    generalize upd H8 R (.lst xs) = H9 at ls hRR
    obtain ⟨c1, c2⟩ := pks_lay ls.ok
    obtain ⟨sh, ev⟩ := shp (d := .list ds) (by rw [PyData.canLay0]; exact c1) (by rw [PyData.depth]; omega)
    walk_at "rds"
    walk_at "isi"
    walk_at "rds"
    refine ⟨.list ds, .list ds, .lst (sq hRR) (DtAll.dp _ _ ls.d1), .lst (sq ls.md) (DtAll.dp _ _ ls.d2), sh, sh, ?_⟩
    rw [ev]
    walk_at "rds"
    obtain ⟨⟨dx9, g9⟩, _⟩ := id ls.na
    refine ⟨p, dx9, _, rfl, g9, rfl, ?_⟩
    walk_at "rds"
    refine ⟨p, l, xs, rfl, ls.na, ?_⟩
    walk_at "rds"
    refine ⟨M, ms, rfl, .inl (sq ls.md), ?_⟩
    walk_at "rds"
    refine ifF (by show (!decide (V.int (xs.length : Int) = V.int (ms.length : Int))) = false; rw [ls.d1.length, ls.d2.length, decide_eq_true rfl]; rfl) ?_
    walk_at "rds"
    refine ⟨.inl ⟨rfl, _, sq hRR⟩, ?_⟩
    walk_at "rds"
    refine ⟨R, xs, _, rfl, rfl, hRR, sz1000' (by have := ls.d1.length; omega), ?_⟩
    have nl := pks_noLs ls.ok
    have tp := tp_put (ys := xs ++ [.int 0]) hRR
    refine ⟨xs, ms, ds, _, _, _, _, _, _, _, _, _, rfl, ⟨same_mut ls.sm hR0, ls.hl, ls.hM, ls.na.side hRR hRl, by rw [upd_ne hRM]; exact ls.md, DtAll.keep tp _ _ nl ls.d1, DtAll.keep tp _ _ nl ls.d2, ls.ne, ls.ok⟩, hel⟩
  · obtain ⟨xs, ms, ds, y3, y4, y5, y6, y7, y8, y9, y10, y11, rfl, ls, hel⟩ := hp'
    obtain ⟨⟨dx9, g9⟩, _⟩ := id ls.na
    walk_at "rds"
    refine ⟨p, dx9, _, rfl, g9, rfl, ?_⟩
    walk_at "rds"
    refine ⟨p, l, xs, rfl, ls.na, fun R hR => ?_⟩
    have ls := ls.on (same_upd (o := .lst xs) hR)
    obtain ⟨c1, c2⟩ := pks_lay ls.ok
    obtain ⟨sh, ev⟩ := shp (d := .list ds) (by rw [PyData.canLay0]; exact c1) (by rw [PyData.depth]; omega)
    walk_at "rds"
    refine ⟨.list ds, .list ds, .lst (sq upd_same) (DtAll.dp _ _ ls.d1), .lst (sq ls.md) (DtAll.dp _ _ ls.d2), sh, sh, ?_⟩
    rw [ev]
    exact q _
end

theorem fin {C_Net : Addr} {C_BadSchedule : Addr} {P : Program} {w : World} {K : PySem.W.Frag} {mg : Str → Option Value} {fa : Addr} (hfa : mg "law" = some (.ref fa)) (T : Txt K mg C_Net C_BadSchedule) :
    ∃ fd : FuncData, (∀ (s : Shared) (u : Value), BindsTo s fd ⟨[u], []⟩ [("script", u)]) ∧ ∀ base : Heap, K.In base → base.Ns mainGlobals mg → FnOk P w K mg base L2.CX0 8 fa fd ["script"] (spLaw K) := by
  obtain ⟨f, fd, F, hm, b⟩ := T.d_law.ex
  cases hfa.symm.trans hm
  refine ⟨fd, fun s u => ?_, fun base _ _ => ok_law F T⟩
  obtain ⟨oc, od, kV, doc, pm, an, cdv, ct, osl, rfl, l, _⟩ := F.ex
  exact .of_eq rfl

theorem all_mk {K : PySem.W.Frag} {h : Heap} {mg : Str → Option Value} (X : K.In h) (G : h.Ns mainGlobals mg)
    {f_is_integer : Addr} {od_is_integer an_is_integer : Option Addr} {sl_is_integer : Array (Option Value)} {oc_is_integer kV_is_integer dc_is_integer pm_is_integer cd_is_integer ct_is_integer : Value}
    {f__law_rich : Addr} {od__law_rich an__law_rich : Option Addr} {sl__law_rich : Array (Option Value)} {oc__law_rich kV__law_rich dc__law_rich pm__law_rich cd__law_rich ct__law_rich : Value}
    {f__law_call : Addr} {od__law_call an__law_call : Option Addr} {sl__law_call : Array (Option Value)} {oc__law_call kV__law_call dc__law_call pm__law_call cd__law_call ct__law_call : Value}
    {f__law_due : Addr} {od__law_due an__law_due : Option Addr} {sl__law_due : Array (Option Value)} {oc__law_due kV__law_due dc__law_due pm__law_due cd__law_due ct__law_due : Value}
    {f_law : Addr} {od_law an_law : Option Addr} {sl_law : Array (Option Value)} {oc_law kV_law dc_law pm_law cd_law ct_law : Value}
    {C_Net : Addr}
    {f_Net____init__ : Addr} {od_Net____init__ an_Net____init__ : Option Addr} {sl_Net____init__ : Array (Option Value)} {oc_Net____init__ kV_Net____init__ dc_Net____init__ pm_Net____init__ cd_Net____init__ ct_Net____init__ : Value}
    {f_Net__send : Addr} {od_Net__send an_Net__send : Option Addr} {sl_Net__send : Array (Option Value)} {oc_Net__send kV_Net__send dc_Net__send pm_Net__send cd_Net__send ct_Net__send : Value}
    {f_Net__take : Addr} {od_Net__take an_Net__take : Option Addr} {sl_Net__take : Array (Option Value)} {oc_Net__take kV_Net__take dc_Net__take pm_Net__take cd_Net__take ct_Net__take : Value}
    {f_Net__double : Addr} {od_Net__double an_Net__double : Option Addr} {sl_Net__double : Array (Option Value)} {oc_Net__double kV_Net__double dc_Net__double pm_Net__double cd_Net__double ct_Net__double : Value}
    {f_Net__move : Addr} {od_Net__move an_Net__move : Option Addr} {sl_Net__move : Array (Option Value)} {oc_Net__move kV_Net__move dc_Net__move pm_Net__move cd_Net__move ct_Net__move : Value}
    {f_Net__packets : Addr} {od_Net__packets an_Net__packets : Option Addr} {sl_Net__packets : Array (Option Value)} {oc_Net__packets kV_Net__packets dc_Net__packets pm_Net__packets cd_Net__packets ct_Net__packets : Value}
    {f_Net__count : Addr} {od_Net__count an_Net__count : Option Addr} {sl_Net__count : Array (Option Value)} {oc_Net__count kV_Net__count dc_Net__count pm_Net__count cd_Net__count ct_Net__count : Value}
    {f_Net___check : Addr} {od_Net___check an_Net___check : Option Addr} {sl_Net___check : Array (Option Value)} {oc_Net___check kV_Net___check dc_Net___check pm_Net___check cd_Net___check ct_Net___check : Value}
    {C_BadSchedule : Addr} {nm_BadSchedule qn_BadSchedule : Str} {NN_BadSchedule : Addr} {bs_BadSchedule bm_BadSchedule sub_BadSchedule : List Value} {sn_BadSchedule : List Str} {ab_BadSchedule : Bool} {col_BadSchedule : Option Bool} {dd_BadSchedule : Option Addr} {m0_BadSchedule m1_BadSchedule m2_BadSchedule m3_BadSchedule m5_BadSchedule : Option Value}
    {f_BadSchedule____init__ : Addr} {od_BadSchedule____init__ an_BadSchedule____init__ : Option Addr} {sl_BadSchedule____init__ : Array (Option Value)} {oc_BadSchedule____init__ kV_BadSchedule____init__ dc_BadSchedule____init__ pm_BadSchedule____init__ cd_BadSchedule____init__ ct_BadSchedule____init__ : Value}
    (a_is_integer : PySem.W.nsIn K mainGlobals "is_integer" = some (some (.ref f_is_integer)))
    (l_is_integer : K.lookup f_is_integer = some ⟨oc_is_integer, od_is_integer, .func (PySem.W.fnOf "is_integer" "is_integer" (defArgs s_is_integer) (defBody s_is_integer) (defScope s_is_integer) .none kV_is_integer dc_is_integer pm_is_integer an_is_integer cd_is_integer ct_is_integer), sl_is_integer⟩)
    (e_is_integer : PySem.W.codeIn K cd_is_integer "is_integer" = true)
    (k_is_integer : PySem.W.keepIn K (.ref f_is_integer) = true)
    (a__law_rich : PySem.W.nsIn K mainGlobals "_law_rich" = some (some (.ref f__law_rich)))
    (l__law_rich : K.lookup f__law_rich = some ⟨oc__law_rich, od__law_rich, .func (PySem.W.fnOf "_law_rich" "_law_rich" (defArgs s__law_rich) (defBody s__law_rich) (defScope s__law_rich) .none kV__law_rich dc__law_rich pm__law_rich an__law_rich cd__law_rich ct__law_rich), sl__law_rich⟩)
    (e__law_rich : PySem.W.codeIn K cd__law_rich "_law_rich" = true)
    (k__law_rich : PySem.W.keepIn K (.ref f__law_rich) = true)
    (a__law_call : PySem.W.nsIn K mainGlobals "_law_call" = some (some (.ref f__law_call)))
    (l__law_call : K.lookup f__law_call = some ⟨oc__law_call, od__law_call, .func (PySem.W.fnOf "_law_call" "_law_call" (defArgs s__law_call) (defBody s__law_call) (defScope s__law_call) .none kV__law_call dc__law_call pm__law_call an__law_call cd__law_call ct__law_call), sl__law_call⟩)
    (e__law_call : PySem.W.codeIn K cd__law_call "_law_call" = true)
    (k__law_call : PySem.W.keepIn K (.ref f__law_call) = true)
    (a__law_due : PySem.W.nsIn K mainGlobals "_law_due" = some (some (.ref f__law_due)))
    (l__law_due : K.lookup f__law_due = some ⟨oc__law_due, od__law_due, .func (PySem.W.fnOf "_law_due" "_law_due" (defArgs s__law_due) (defBody s__law_due) (defScope s__law_due) .none kV__law_due dc__law_due pm__law_due an__law_due cd__law_due ct__law_due), sl__law_due⟩)
    (e__law_due : PySem.W.codeIn K cd__law_due "_law_due" = true)
    (k__law_due : PySem.W.keepIn K (.ref f__law_due) = true)
    (a_law : PySem.W.nsIn K mainGlobals "law" = some (some (.ref f_law)))
    (l_law : K.lookup f_law = some ⟨oc_law, od_law, .func (PySem.W.fnOf "law" "law" (defArgs s_law) (defBody s_law) (defScope s_law) .none kV_law dc_law pm_law an_law cd_law ct_law), sl_law⟩)
    (e_law : PySem.W.codeIn K cd_law "law" = true)
    (k_law : PySem.W.keepIn K (.ref f_law) = true)
    (ac_Net : PySem.W.nsIn K mainGlobals "Net" = some (some (.ref C_Net)))
    (pg_Net : PySem.W.plainGet K C_Net Str.empty = true)
    (hd_Net : PySem.W.hasDictIn K C_Net = true)
    (po_Net : PySem.W.plainOver K C_Net = true)
    (sa_Net : PySem.W.findIn K (.ref C_Net) "__setattr__" = some (some (.builtin "object.__setattr__")))
    (mk_Net : PySem.W.makesIn K C_Net = true)
    (kc_Net : PySem.W.keepIn K (.ref C_Net) = true)
    (na_Net__packets : PySem.W.findIn K (.ref C_Net) "_packets" = some none)
    (a_Net____init__ : PySem.W.findIn K (.ref C_Net) "__init__" = some (some (.ref f_Net____init__)))
    (i_Net____init__ : PySem.W.isFn K (.ref f_Net____init__) = true)
    (l_Net____init__ : K.lookup f_Net____init__ = some ⟨oc_Net____init__, od_Net____init__, .func (PySem.W.fnOf "__init__" "Net.__init__" (defArgs s_Net____init__) (defBody s_Net____init__) (defScope s_Net____init__) .none kV_Net____init__ dc_Net____init__ pm_Net____init__ an_Net____init__ cd_Net____init__ ct_Net____init__), sl_Net____init__⟩)
    (e_Net____init__ : PySem.W.codeIn K cd_Net____init__ "Net.__init__" = true)
    (k_Net____init__ : PySem.W.keepIn K (.ref f_Net____init__) = true)
    (a_Net__send : PySem.W.findIn K (.ref C_Net) "send" = some (some (.ref f_Net__send)))
    (i_Net__send : PySem.W.isFn K (.ref f_Net__send) = true)
    (l_Net__send : K.lookup f_Net__send = some ⟨oc_Net__send, od_Net__send, .func (PySem.W.fnOf "send" "Net.send" (defArgs s_Net__send) (defBody s_Net__send) (defScope s_Net__send) .none kV_Net__send dc_Net__send pm_Net__send an_Net__send cd_Net__send ct_Net__send), sl_Net__send⟩)
    (e_Net__send : PySem.W.codeIn K cd_Net__send "Net.send" = true)
    (k_Net__send : PySem.W.keepIn K (.ref f_Net__send) = true)
    (a_Net__take : PySem.W.findIn K (.ref C_Net) "take" = some (some (.ref f_Net__take)))
    (i_Net__take : PySem.W.isFn K (.ref f_Net__take) = true)
    (l_Net__take : K.lookup f_Net__take = some ⟨oc_Net__take, od_Net__take, .func (PySem.W.fnOf "take" "Net.take" (defArgs s_Net__take) (defBody s_Net__take) (defScope s_Net__take) .none kV_Net__take dc_Net__take pm_Net__take an_Net__take cd_Net__take ct_Net__take), sl_Net__take⟩)
    (e_Net__take : PySem.W.codeIn K cd_Net__take "Net.take" = true)
    (k_Net__take : PySem.W.keepIn K (.ref f_Net__take) = true)
    (a_Net__double : PySem.W.findIn K (.ref C_Net) "double" = some (some (.ref f_Net__double)))
    (i_Net__double : PySem.W.isFn K (.ref f_Net__double) = true)
    (l_Net__double : K.lookup f_Net__double = some ⟨oc_Net__double, od_Net__double, .func (PySem.W.fnOf "double" "Net.double" (defArgs s_Net__double) (defBody s_Net__double) (defScope s_Net__double) .none kV_Net__double dc_Net__double pm_Net__double an_Net__double cd_Net__double ct_Net__double), sl_Net__double⟩)
    (e_Net__double : PySem.W.codeIn K cd_Net__double "Net.double" = true)
    (k_Net__double : PySem.W.keepIn K (.ref f_Net__double) = true)
    (a_Net__move : PySem.W.findIn K (.ref C_Net) "move" = some (some (.ref f_Net__move)))
    (i_Net__move : PySem.W.isFn K (.ref f_Net__move) = true)
    (l_Net__move : K.lookup f_Net__move = some ⟨oc_Net__move, od_Net__move, .func (PySem.W.fnOf "move" "Net.move" (defArgs s_Net__move) (defBody s_Net__move) (defScope s_Net__move) .none kV_Net__move dc_Net__move pm_Net__move an_Net__move cd_Net__move ct_Net__move), sl_Net__move⟩)
    (e_Net__move : PySem.W.codeIn K cd_Net__move "Net.move" = true)
    (k_Net__move : PySem.W.keepIn K (.ref f_Net__move) = true)
    (a_Net__packets : PySem.W.findIn K (.ref C_Net) "packets" = some (some (.ref f_Net__packets)))
    (i_Net__packets : PySem.W.isFn K (.ref f_Net__packets) = true)
    (l_Net__packets : K.lookup f_Net__packets = some ⟨oc_Net__packets, od_Net__packets, .func (PySem.W.fnOf "packets" "Net.packets" (defArgs s_Net__packets) (defBody s_Net__packets) (defScope s_Net__packets) .none kV_Net__packets dc_Net__packets pm_Net__packets an_Net__packets cd_Net__packets ct_Net__packets), sl_Net__packets⟩)
    (e_Net__packets : PySem.W.codeIn K cd_Net__packets "Net.packets" = true)
    (k_Net__packets : PySem.W.keepIn K (.ref f_Net__packets) = true)
    (a_Net__count : PySem.W.findIn K (.ref C_Net) "count" = some (some (.ref f_Net__count)))
    (i_Net__count : PySem.W.isFn K (.ref f_Net__count) = true)
    (l_Net__count : K.lookup f_Net__count = some ⟨oc_Net__count, od_Net__count, .func (PySem.W.fnOf "count" "Net.count" (defArgs s_Net__count) (defBody s_Net__count) (defScope s_Net__count) .none kV_Net__count dc_Net__count pm_Net__count an_Net__count cd_Net__count ct_Net__count), sl_Net__count⟩)
    (e_Net__count : PySem.W.codeIn K cd_Net__count "Net.count" = true)
    (k_Net__count : PySem.W.keepIn K (.ref f_Net__count) = true)
    (a_Net___check : PySem.W.findIn K (.ref C_Net) "_check" = some (some (.ref f_Net___check)))
    (i_Net___check : PySem.W.isFn K (.ref f_Net___check) = true)
    (l_Net___check : K.lookup f_Net___check = some ⟨oc_Net___check, od_Net___check, .func (PySem.W.fnOf "_check" "Net._check" (defArgs s_Net___check) (defBody s_Net___check) (defScope s_Net___check) .none kV_Net___check dc_Net___check pm_Net___check an_Net___check cd_Net___check ct_Net___check), sl_Net___check⟩)
    (e_Net___check : PySem.W.codeIn K cd_Net___check "Net._check" = true)
    (k_Net___check : PySem.W.keepIn K (.ref f_Net___check) = true)
    (xa_BadSchedule : PySem.W.nsIn K mainGlobals "BadSchedule" = some (some (.ref C_BadSchedule)))
    (xl_BadSchedule : K.lookup C_BadSchedule = some (excClassObj nm_BadSchedule qn_BadSchedule C_BadSchedule NN_BadSchedule bs_BadSchedule bm_BadSchedule true sn_BadSchedule sub_BadSchedule ab_BadSchedule col_BadSchedule dd_BadSchedule m0_BadSchedule m1_BadSchedule m2_BadSchedule m3_BadSchedule m5_BadSchedule "ValueError.__new__"))
    (xr_BadSchedule : PySem.HandSPX.refsVE bm_BadSchedule = true)
    (xs_BadSchedule : PySem.W.findIn K (.ref C_BadSchedule) "__setattr__" = some (some (.builtin "object.__setattr__")))
    (xk_BadSchedule : PySem.W.keepIn K (.ref C_BadSchedule) = true)
    (xb_BadSchedule : PySem.W.subIn K (.ref C_BadSchedule) (.type "BaseException") = some true)
    (xt_BadSchedule : PySem.W.typeIn K (.ref C_BadSchedule) = some (.type "type"))
    (xh_BadSchedule : PySem.W.hasDictIn K C_BadSchedule = true)
    (xg_BadSchedule : PySem.W.findIn K (.ref C_BadSchedule) "__getattribute__" = some (some (.builtin "BaseException.__getattribute__")))
    (xq_BadSchedule : PySem.W.findIn K (.ref C_BadSchedule) "__getattr__" = some none)
    (xn_BadSchedule_line : PySem.W.findIn K (.ref C_BadSchedule) "line" = some none)
    (xn_BadSchedule_reason : PySem.W.findIn K (.ref C_BadSchedule) "reason" = some none)
    (a_BadSchedule____init__ : PySem.W.findIn K (.ref C_BadSchedule) "__init__" = some (some (.ref f_BadSchedule____init__)))
    (ty_BadSchedule____init__ : PySem.W.typeIn K (.ref f_BadSchedule____init__) = some (.type "function"))
    (l_BadSchedule____init__ : K.lookup f_BadSchedule____init__ = some ⟨oc_BadSchedule____init__, od_BadSchedule____init__, .func (PySem.W.fnOf "__init__" "BadSchedule.__init__" (defArgs s_BadSchedule____init__) (defBody s_BadSchedule____init__) (defScope s_BadSchedule____init__) .none kV_BadSchedule____init__ dc_BadSchedule____init__ pm_BadSchedule____init__ an_BadSchedule____init__ cd_BadSchedule____init__ ct_BadSchedule____init__), sl_BadSchedule____init__⟩)
    (e_BadSchedule____init__ : PySem.W.codeIn K cd_BadSchedule____init__ "BadSchedule.__init__" = true)
    (k_BadSchedule____init__ : PySem.W.keepIn K (.ref f_BadSchedule____init__) = true)
    (u_BadSchedule_BadSchedule : PySem.W.subIn K (.ref C_BadSchedule) (.ref C_BadSchedule) = some true)
    (z_bool : PySem.W.nsIn K mainGlobals "bool" = some none)
    (z_int : PySem.W.nsIn K mainGlobals "int" = some none)
    (z_isinstance : PySem.W.nsIn K mainGlobals "isinstance" = some none)
    (z_len : PySem.W.nsIn K mainGlobals "len" = some none)
    (z_list : PySem.W.nsIn K mainGlobals "list" = some none)
    (z_range : PySem.W.nsIn K mainGlobals "range" = some none) : Txt K mg C_Net C_BadSchedule :=
  { d_is_integer := ⟨_, _, (fun_mk l_is_integer e_is_integer k_is_integer), PySem.W.mg_of X G a_is_integer, ((fun_mk (st := s_is_integer) l_is_integer e_is_integer k_is_integer).binds (ps := ["value", "least", "greatest"]) fun _ _ _ _ _ _ us hl => match us, hl with | [_, _, _], _ => rfl)⟩,
    d__law_rich := ⟨_, _, (fun_mk l__law_rich e__law_rich k__law_rich), PySem.W.mg_of X G a__law_rich, ((fun_mk (st := s__law_rich) l__law_rich e__law_rich k__law_rich).binds (ps := ["cell", "k"]) fun _ _ _ _ _ _ us hl => match us, hl with | [_, _], _ => rfl)⟩,
    d__law_call := ⟨_, _, (fun_mk l__law_call e__law_call k__law_call), PySem.W.mg_of X G a__law_call, ((fun_mk (st := s__law_call) l__law_call e__law_call k__law_call).binds (ps := ["net", "verb", "at"]) fun _ _ _ _ _ _ us hl => match us, hl with | [_, _, _], _ => rfl)⟩,
    d__law_due := ⟨_, _, (fun_mk l__law_due e__law_due k__law_due), PySem.W.mg_of X G a__law_due, ((fun_mk (st := s__law_due) l__law_due e__law_due k__law_due).binds (ps := ["model", "verb", "at"]) fun _ _ _ _ _ _ us hl => match us, hl with | [_, _, _], _ => rfl)⟩,
    d_law := ⟨_, _, (fun_mk l_law e_law k_law), PySem.W.mg_of X G a_law, ((fun_mk (st := s_law) l_law e_law k_law).binds (ps := ["script"]) fun _ _ _ _ _ _ us hl => match us, hl with | [_], _ => rfl)⟩,
    cl_Net := ⟨pg_Net, hd_Net, po_Net, sa_Net⟩,
    g_Net := PySem.W.mg_of X G ac_Net,
    na_Net__packets := na_Net__packets,
    mk_Net := ⟨_, _, ⟨mk_Net, a_Net____init__, i_Net____init__, kc_Net⟩, (fun_mk l_Net____init__ e_Net____init__ k_Net____init__), ((fun_mk (st := s_Net____init__) l_Net____init__ e_Net____init__ k_Net____init__).binds (ps := ["self"]) fun _ _ _ _ _ _ us hl => match us, hl with | [_], _ => rfl)⟩,
    me_Net__send := ⟨_, _, ⟨a_Net__send, i_Net__send, k_Net__send⟩, (fun_mk l_Net__send e_Net__send k_Net__send), ((fun_mk (st := s_Net__send) l_Net__send e_Net__send k_Net__send).binds (ps := ["self", "sender", "receiver", "letter"]) fun _ _ _ _ _ _ us hl => match us, hl with | [_, _, _, _], _ => rfl)⟩,
    me_Net__take := ⟨_, _, ⟨a_Net__take, i_Net__take, k_Net__take⟩, (fun_mk l_Net__take e_Net__take k_Net__take), ((fun_mk (st := s_Net__take) l_Net__take e_Net__take k_Net__take).binds (ps := ["self", "position"]) fun _ _ _ _ _ _ us hl => match us, hl with | [_, _], _ => rfl)⟩,
    me_Net__double := ⟨_, _, ⟨a_Net__double, i_Net__double, k_Net__double⟩, (fun_mk l_Net__double e_Net__double k_Net__double), ((fun_mk (st := s_Net__double) l_Net__double e_Net__double k_Net__double).binds (ps := ["self", "position"]) fun _ _ _ _ _ _ us hl => match us, hl with | [_, _], _ => rfl)⟩,
    me_Net__move := ⟨_, _, ⟨a_Net__move, i_Net__move, k_Net__move⟩, (fun_mk l_Net__move e_Net__move k_Net__move), ((fun_mk (st := s_Net__move) l_Net__move e_Net__move k_Net__move).binds (ps := ["self", "position"]) fun _ _ _ _ _ _ us hl => match us, hl with | [_, _], _ => rfl)⟩,
    me_Net__packets := ⟨_, _, ⟨a_Net__packets, i_Net__packets, k_Net__packets⟩, (fun_mk l_Net__packets e_Net__packets k_Net__packets), ((fun_mk (st := s_Net__packets) l_Net__packets e_Net__packets k_Net__packets).binds (ps := ["self"]) fun _ _ _ _ _ _ us hl => match us, hl with | [_], _ => rfl)⟩,
    me_Net__count := ⟨_, _, ⟨a_Net__count, i_Net__count, k_Net__count⟩, (fun_mk l_Net__count e_Net__count k_Net__count), ((fun_mk (st := s_Net__count) l_Net__count e_Net__count k_Net__count).binds (ps := ["self"]) fun _ _ _ _ _ _ us hl => match us, hl with | [_], _ => rfl)⟩,
    me_Net___check := ⟨_, _, ⟨a_Net___check, i_Net___check, k_Net___check⟩, (fun_mk l_Net___check e_Net___check k_Net___check), ((fun_mk (st := s_Net___check) l_Net___check e_Net___check k_Net___check).binds (ps := ["self", "position"]) fun _ _ _ _ _ _ us hl => match us, hl with | [_, _], _ => rfl)⟩,
    x_BadSchedule := ⟨PySem.W.mg_of X G xa_BadSchedule, ⟨⟨_, _, _, _, _, _, _, _, _, _, _, _, _, _, _, xl_BadSchedule, xr_BadSchedule⟩, xs_BadSchedule, xb_BadSchedule, xt_BadSchedule, xk_BadSchedule⟩, ⟨xg_BadSchedule, xq_BadSchedule, xb_BadSchedule, xh_BadSchedule⟩⟩,
    xn_BadSchedule_line := xn_BadSchedule_line,
    xn_BadSchedule_reason := xn_BadSchedule_reason,
    ei_BadSchedule := ⟨_, _, a_BadSchedule____init__, ty_BadSchedule____init__, (fun_mk l_BadSchedule____init__ e_BadSchedule____init__ k_BadSchedule____init__), ((fun_mk (st := s_BadSchedule____init__) l_BadSchedule____init__ e_BadSchedule____init__ k_BadSchedule____init__).binds (ps := ["self", "line", "reason"]) fun _ _ _ _ _ _ us hl => match us, hl with | [_, _, _], _ => rfl)⟩,
    u_BadSchedule_BadSchedule := u_BadSchedule_BadSchedule,
    z_bool := PySem.W.mg_none_of X G z_bool,
    z_int := PySem.W.mg_none_of X G z_int,
    z_isinstance := PySem.W.mg_none_of X G z_isinstance,
    z_len := PySem.W.mg_none_of X G z_len,
    z_list := PySem.W.mg_none_of X G z_list,
    z_range := PySem.W.mg_none_of X G z_range }
end Law
open PySem PySem.W PyProof.Rows
set_option maxRecDepth 100000 in
set_option maxHeartbeats 0 in
theorem PySem.Challenge.cw_oathledger_k70_net_of_packets_holds : PySem.Challenge.rw_oathledger_k70_net_of_packets.Holds := by
  w_on; o_law; k_head; (case hw => w_witness2)
  k_fill
  refine L2.walk_of (l := PySem.Challenge.rw_oathledger_k70_net_of_packets) (n := 63) (k := 8) (x := "script") (CX := fun _ => L2.CX0) (sp := fun w => Law.spLaw _) rfl (by decide) rfl ⟨rfl, by decide, by decide⟩ (fun w h Y => PySem.W.kIn_of Y) ?F (fun _ _ a ns hl _ hS => ⟨a, ns, rfl, hS, hl, fun _ => rfl⟩) (fun _ _ _ _ _ h => h)
  case F =>
    intro w mg fa h KX G hmg
    refine' Law.fin hmg (Law.all_mk KX G ?a_is_integer ?l_is_integer ?e_is_integer ?k_is_integer ?a__law_rich ?l__law_rich ?e__law_rich ?k__law_rich ?a__law_call ?l__law_call ?e__law_call ?k__law_call ?a__law_due ?l__law_due ?e__law_due ?k__law_due ?a_law ?l_law ?e_law ?k_law ?ac_Net ?pg_Net ?hd_Net ?po_Net ?sa_Net ?mk_Net ?kc_Net ?na_Net__packets ?a_Net____init__ ?i_Net____init__ ?l_Net____init__ ?e_Net____init__ ?k_Net____init__ ?a_Net__send ?i_Net__send ?l_Net__send ?e_Net__send ?k_Net__send ?a_Net__take ?i_Net__take ?l_Net__take ?e_Net__take ?k_Net__take ?a_Net__double ?i_Net__double ?l_Net__double ?e_Net__double ?k_Net__double ?a_Net__move ?i_Net__move ?l_Net__move ?e_Net__move ?k_Net__move ?a_Net__packets ?i_Net__packets ?l_Net__packets ?e_Net__packets ?k_Net__packets ?a_Net__count ?i_Net__count ?l_Net__count ?e_Net__count ?k_Net__count ?a_Net___check ?i_Net___check ?l_Net___check ?e_Net___check ?k_Net___check ?xa_BadSchedule ?xl_BadSchedule ?xr_BadSchedule ?xs_BadSchedule ?xk_BadSchedule ?xb_BadSchedule ?xt_BadSchedule ?xh_BadSchedule ?xg_BadSchedule ?xq_BadSchedule ?xn_BadSchedule_line ?xn_BadSchedule_reason ?a_BadSchedule____init__ ?ty_BadSchedule____init__ ?l_BadSchedule____init__ ?e_BadSchedule____init__ ?k_BadSchedule____init__ ?u_BadSchedule_BadSchedule ?z_bool ?z_int ?z_isinstance ?z_len ?z_list ?z_range)
    (case a_is_integer => k_is)
    (case l_is_integer => k_is)
    (case e_is_integer => k_is)
    (case k_is_integer => k_is)
    (case a__law_rich => k_is)
    (case l__law_rich => k_is)
    (case e__law_rich => k_is)
    (case k__law_rich => k_is)
    (case a__law_call => k_is)
    (case l__law_call => k_is)
    (case e__law_call => k_is)
    (case k__law_call => k_is)
    (case a__law_due => k_is)
    (case l__law_due => k_is)
    (case e__law_due => k_is)
    (case k__law_due => k_is)
    (case a_law => k_is)
    (case l_law => k_is)
    (case e_law => k_is)
    (case k_law => k_is)
    (case ac_Net => k_is)
    (case pg_Net => k_is)
    (case hd_Net => k_is)
    (case po_Net => k_is)
    (case sa_Net => k_is)
    (case mk_Net => k_is)
    (case kc_Net => k_is)
    (case na_Net__packets => k_is)
    (case a_Net____init__ => k_is)
    (case i_Net____init__ => k_is)
    (case l_Net____init__ => k_is)
    (case e_Net____init__ => k_is)
    (case k_Net____init__ => k_is)
    (case a_Net__send => k_is)
    (case i_Net__send => k_is)
    (case l_Net__send => k_is)
    (case e_Net__send => k_is)
    (case k_Net__send => k_is)
    (case a_Net__take => k_is)
    (case i_Net__take => k_is)
    (case l_Net__take => k_is)
    (case e_Net__take => k_is)
    (case k_Net__take => k_is)
    (case a_Net__double => k_is)
    (case i_Net__double => k_is)
    (case l_Net__double => k_is)
    (case e_Net__double => k_is)
    (case k_Net__double => k_is)
    (case a_Net__move => k_is)
    (case i_Net__move => k_is)
    (case l_Net__move => k_is)
    (case e_Net__move => k_is)
    (case k_Net__move => k_is)
    (case a_Net__packets => k_is)
    (case i_Net__packets => k_is)
    (case l_Net__packets => k_is)
    (case e_Net__packets => k_is)
    (case k_Net__packets => k_is)
    (case a_Net__count => k_is)
    (case i_Net__count => k_is)
    (case l_Net__count => k_is)
    (case e_Net__count => k_is)
    (case k_Net__count => k_is)
    (case a_Net___check => k_is)
    (case i_Net___check => k_is)
    (case l_Net___check => k_is)
    (case e_Net___check => k_is)
    (case k_Net___check => k_is)
    (case xa_BadSchedule => k_is)
    (case xl_BadSchedule => k_is)
    (case xr_BadSchedule => decide +kernel)
    (case xs_BadSchedule => k_is)
    (case xk_BadSchedule => k_is)
    (case xb_BadSchedule => k_is)
    (case xt_BadSchedule => k_is)
    (case xh_BadSchedule => k_is)
    (case xg_BadSchedule => k_is)
    (case xq_BadSchedule => k_is)
    (case xn_BadSchedule_line => k_is)
    (case xn_BadSchedule_reason => k_is)
    (case a_BadSchedule____init__ => k_is)
    (case ty_BadSchedule____init__ => k_is)
    (case l_BadSchedule____init__ => k_is)
    (case e_BadSchedule____init__ => k_is)
    (case k_BadSchedule____init__ => k_is)
    (case u_BadSchedule_BadSchedule => k_is)
    (case z_bool => k_is)
    (case z_int => k_is)
    (case z_isinstance => k_is)
    (case z_len => k_is)
    (case z_list => k_is)
    (case z_range => k_is)

