--@ins
import PyProof.Rows.All
import Wide.All
import OpenK.AllK
import Wide.FinOn
import HandS.ForMost
import HandS.Walk
import HandS.Flow
import HandS.Codes
import HandS.IsInst
import HandS.Conv
import HandS.StrMore
import PyProof.MeetsSeq2
import PyProof.DictTable
import HandS.Wide
import HandS.TupAny
import HandS.More
import HandS.Dict
import HandS.ForExc
import HandS.ExcIs
import HandS.ExcField
import HandS.DeepEq
import HandS.TupLe
import HandS.Steps
import HandS.ExcInit
import HandS.HotCalls
import HandS.TryMany
import HandS.FStr
import HandS.WideBits
import HandS.SortRule
import HandS.SortKw
import HandS.Keys
import KE.SortKeyHeap
import KE.DataMinMax
import KE.SortData
import HandS.RaiseMore
import HandS.Zip
import HandS.DictSubView
import HandS.Deep
import HandS.Sort
import HandS.SetKeys
import HandS.Strs
import HandS.SetFor
import HandS.DictComp
import HandS.Style
import HandS.StrSplit
import PySem.Challenge.RW_oathledger_k14_sector_texts
set_option Elab.async false
set_option linter.all false
set_option maxRecDepth 100000
set_option maxHeartbeats 4000000
namespace Law
open PySem PySem.Spec PyProof.Rows L2
open C8 (Cal Met Mak pe_c pe_mk pe_mt pe_mt0 pe_gc pss_cut tCut)
/-! ### a def of the top, by its name -/
structure DefOk (K : PySem.W.Frag) (mg : Str → Option Value) (x : Str) (st : Stmt) (ps : List Str) : Prop where
  ex : ∃ (f : Addr) (fd : FuncData), L2.Fun K x x st f fd ∧ mg x = some (.ref f) ∧ Binds K fd ps []
section
variable {P : Program} {w : World} {K : PySem.W.Frag} {mg : Str → Option Value} {base : Heap}
/-- a def's promise, by its body -/
theorem cal {x : Str} {st : Stmt} {N ps : List Str} {k : Nat} {sp : Sp} (D : DefOk K mg x st ps) (S : FnScope N ps (defScope st)) (len : ∀ vs H Q E, sp vs H Q E → vs.length = ps.length)
    (hbody : ∀ (f : Addr) (cdv : Value) (A : Around) (outer : List Env) (s : Shared) (H : Hp) (vs : List V) (Q : VK) (E : XK), Room k (A.deeper (envOfC x (defScope st) s.heap.objs.size f cdv)) → sp vs H Q E →
      ∃ t, PSs (cxOf L2.CX0 P w K mg base N x (defScope st) f cdv A outer s H E).nox (defBody st) t ∧ t { nx := fun _ H' => Q .non H', rt := Q } (start N vs) H) : Cal P w K mg base (k + 1) x sp [] := by
  obtain ⟨f, fd, F, hm, b⟩ := D.ex
  exact ⟨f, fd, ps, [], F.ok S len (fun cdv A outer s H vs Q E hr h => hbody f cdv A outer s H vs Q E hr h), hm, F.kp, b, .nil⟩
/-- a call without arguments -/
theorem pe_c0 {X : Cx} {k j : Nat} {x : Str} {sp : Sp} {dvs : List V} {p pos : Pos} (c : Cal X.prog X.w X.K X.mg X.base k x sp dvs) (hr : Room j X.A) (hk : k ≤ j) (hg : Gl X x)
    (hdb : (x == ("__debug__" : Str)) = false := by decide) : PE X (.Call (.Name x p) [] [] pos) (tCall sp dvs L2.E0 tNil) := by
  obtain ⟨f, fd, ps, ds, F, hm, kp, b, d⟩ := c.ex
  exact pe_call0 F (hr.mono hk) hg hm kp b d pass0 hdb
end
/-! ### small things -/
theorem same_upd {H : Hp} {p : Addr} {o : HO} (h : H p = none) : Same H (upd H p o) := fun b x e => by
  rw [upd_ne (ne_of_none e h)]
  exact e
theorem same_mut {H H' : Hp} {p : Addr} {o : HO} (s : Same H H') (h : H p = none) : Same H (upd H' p o) := fun b x e => by
  rw [upd_ne (ne_of_none e h)]
  exact s b x e
theorem sz1000 {n : Nat} (h : n ≤ 100000) : n ≤ sizeLine := Nat.le_trans h (by decide)
theorem sz1000' {n : Nat} (h : n < 100000) : n < sizeLine := Nat.lt_of_lt_of_le h (by decide)
theorem sz1000'' {n : Nat} (h : n ≤ 16777216) : n ≤ sizeLine := by rw [sizeLine_eq]; exact h
theorem sq {K : PySem.W.Frag} {H : Hp} {a : Addr} {xs : List V} (h : H a = some (.lst xs)) : SqL K H a xs := .inl (.inl h)
def spLaw (K : PySem.W.Frag) : Sp := fun vs H Q _ => ∃ (a : Addr) (ns : List Int), vs = [.ref a] ∧ SqL K H a (ns.map V.int) ∧ ns.length ≤ 63 ∧ ∀ H', Q (.bl true) H'
/-! ### the reading, step by step -/
local macro_rules | `(tactic| walk_at "sd") => `(tactic| first
  | omega
  | decide
  | assumption
  | (show _ ∨ _; exact Or.inl ⟨by omega, by omega⟩)
  | (show _ ∨ _; exact Or.inr ⟨by omega, by omega⟩)
  | (show _ ∧ _; exact ⟨by omega, by omega⟩)
  | (show _ ∧ _; exact ⟨by decide, by decide⟩)
  | exact sz1000 (by omega)
  | exact sz1000' (by omega))
local macro_rules | `(tactic| walk_at "sz") => `(tactic| first
  | exact sz1000 (Nat.le_of_ble_eq_true rfl)
  | exact sz1000 (by omega)
  | exact sz1000'' (by omega)
  | assumption)
/-- one step of a reading: a slot, an operator upon numbers, a call upon values -/
local macro_rules | `(tactic| walk_at "rd") => `(tactic| first
  | refine ⟨_, (rfl : (_ : List (Option V))[_]? = some (some _)), ?_⟩
  | refine ⟨_, _, (rfl : (_ : V) = _), (rfl : (_ : V) = _), (by walk_at "sd" : (_ : Prop)), ?_⟩
  | refine ⟨_, _, (rfl : (_ : V) = _), (rfl : (_ : V) = _), ?_⟩
  | refine ⟨_, (rfl : (_ : List V) = _), (by walk_at "sd" : (_ : Prop)), (by walk_at "sd" : (_ : Prop)), ?_⟩
  | refine ⟨_, (rfl : (_ : List V) = _), ?_⟩
  | refine ⟨_, (rfl : (_ : V) = _), ?_⟩
  | refine .inl ⟨_, (rfl : (_ : List V) = _), ?_⟩
  | refine ⟨⟨_, (rfl : (_ : V) = _)⟩, ?_⟩
  | refine ⟨(rfl : scal _ _ = true), ?_⟩
  | refine ⟨(rfl : V.non = V.non), ?_⟩
  | refine ⟨(by walk_at "sz" : (_ ≤ sizeLine)), ?_⟩)
local macro_rules | `(tactic| walk_at "rds") => `(tactic| repeat walk_at "rd")
theorem tyes {σ : L2.St} {H : Hp} {A B : Hp → Prop} (h : A H) : tYes σ H (fun b H3 => if b = true then A H3 else B H3) := by
  show (if true = true then A H else B H)
  rw [if_pos rfl]
  exact h
theorem sum_ones {ys : List Str} (h : ∀ y ∈ ys, y.length = 1) : (ys.map (fun x => x.length)).sum = ys.length := by
  induction ys with
  | nil => rfl
  | cons y r ih =>
    rw [List.map_cons, List.sum_cons, ih (fun z hz => h z (List.mem_cons_of_mem _ hz)), h y List.mem_cons_self, List.length_cons]
    omega
theorem chr_at {z : Str} {i : Int} (h0 : 0 ≤ i) (h1 : i < z.length) : ∃ c, atI z.cps.toList i = some c := by
  obtain ⟨j, rfl⟩ := Int.eq_ofNat_of_zero_le h0
  have hj : j < z.cps.toList.length := by
    rw [Array.length_toList]
    exact Int.ofNat_lt.mp h1
  exact ⟨z.cps.toList[j], atI_nat (List.getElem?_eq_getElem hj)⟩
/-- what an append to a tracked new list leaves -/
theorem lst_app {α : Type} {H : Hp} {D : Addr} {f : α → V} {ys : List α} {y : α} : upd H D (.lst (ys.map f ++ [f y])) D = some (.lst ((ys ++ [y]).map f)) := by
  rw [upd_same, List.map_append]
  rfl
theorem rg40 {n : Nat} (h : n ≤ 100000) : RgC 0 n 40 ((n + 39) / 40) := by
  have e : Builtin.Range.rangeSize 0 (n : Int) 40 = (((n + 39) / 40 : Nat) : Int) := by
    rw [rangeSize_pos (by decide) (by omega)]
    omega
  refine ⟨by decide, by decide, ?_, e⟩
  unfold Builtin.Range.small
  rw [e]
  unfold Builtin.Range.rangeFitsLong
  simp
  omega
theorem isi {K : PySem.W.Frag} {H : Hp} {x : V} {T1 T2 : String} {b : Bool} {Q : VK} (ty : TyX K H x (.type T1)) (e : kitB T1 T2 = some b) (q : Q (.bl b) H) : rIsi K [x, .ty T2] H Q :=
  ⟨x, .ty T2, _, _, b, rfl, .ty _, ty, kit_ty e, q⟩
theorem ifT {c : Bool} {A B : Prop} (hc : c = true) (h : A) : if c = true then A else B := by
  rw [if_pos hc]
  exact h
theorem ifF {c : Bool} {A B : Prop} (hc : c = false) (h : B) : if c = true then A else B := by
  rw [if_neg (by rw [hc]; decide)]
  exact h
local macro_rules | `(tactic| walk_at "isk") => `(tactic| first
  | exact .base (.int _) | exact .base (.str _) | exact .base (.bl _) | exact .base .non
  | exact .base (.lst (by assumption)) | exact .base (.tup (by assumption)) | exact .base (.dK (by assumption)))
/-- isinstance(x, T) with a built-in T; the object's fact stands in the context -/
local macro_rules | `(tactic| walk_at "isi") => `(tactic| first
  | refine ⟨_, .ty _, _, _, true, (rfl : (_ : List V) = _), .ty _, (by walk_at "isk"), kit_ty (by decide +kernel), ?_⟩
  | refine ⟨_, .ty _, _, _, false, (rfl : (_ : List V) = _), .ty _, (by walk_at "isk"), kit_ty (by decide +kernel), ?_⟩)
/-! ### classes of the top -/
structure MethOk (K : PySem.W.Frag) (C : Addr) (m qual : Str) (st : Stmt) (ps : List Str) : Prop where
  ex : ∃ (f : Addr) (fd : FuncData), Meth K C m f ∧ L2.Fun K m qual st f fd ∧ Binds K fd ps []
structure MakOk (K : PySem.W.Frag) (C : Addr) (qual : Str) (st : Stmt) (ps : List Str) : Prop where
  ex : ∃ (f : Addr) (fd : FuncData), Mk K C f ∧ L2.Fun K "__init__" qual st f fd ∧ Binds K fd ps []
section
variable {P : Program} {w : World} {K : PySem.W.Frag} {mg : Str → Option Value} {base : Heap}
theorem met {C : Addr} {m qual : Str} {st : Stmt} {N ps : List Str} {k : Nat} {sp : Sp} (c : Cls K C) (D : MethOk K C m qual st ps) (S : FnScope N ps (defScope st)) (len : ∀ vs H Q E, sp vs H Q E → vs.length = ps.length)
    (hbody : ∀ (f : Addr) (cdv : Value) (A : Around) (outer : List Env) (s : Shared) (H : Hp) (vs : List V) (Q : VK) (E : XK), Room k (A.deeper (envOfC qual (defScope st) s.heap.objs.size f cdv)) → sp vs H Q E →
      ∃ t, PSs (cxOf L2.CX0 P w K mg base N qual (defScope st) f cdv A outer s H E).nox (defBody st) t ∧ t { nx := fun _ H' => Q .non H', rt := Q } (start N vs) H) : Met P w K mg base (k + 1) C m sp [] := by
  obtain ⟨f, fd, M, F, b⟩ := D.ex
  exact ⟨f, fd, ps, [], c, M, F.ok S len (fun cdv A outer s H vs Q E hr h => hbody f cdv A outer s H vs Q E hr h), b, .nil⟩
theorem mak {C : Addr} {x qual : Str} {st : Stmt} {N ps : List Str} {k : Nat} {sp : Sp} (hm : mg x = some (.ref C)) (D : MakOk K C qual st ps) (S : FnScope N ps (defScope st)) (len : ∀ vs H Q E, sp vs H Q E → vs.length = ps.length)
    (hbody : ∀ (f : Addr) (cdv : Value) (A : Around) (outer : List Env) (s : Shared) (H : Hp) (vs : List V) (Q : VK) (E : XK), Room k (A.deeper (envOfC qual (defScope st) s.heap.objs.size f cdv)) → sp vs H Q E →
      ∃ t, PSs (cxOf L2.CX0 P w K mg base N qual (defScope st) f cdv A outer s H E).nox (defBody st) t ∧ t { nx := fun _ H' => Q .non H', rt := Q } (start N vs) H) : Mak P w K mg base (k + 1) x C sp [] := by
  obtain ⟨f, fd, M, F, b⟩ := D.ex
  exact ⟨f, fd, ps, [], M, F.ok S len (fun cdv A outer s H vs Q E hr h => hbody f cdv A outer s H vs Q E hr h), hm, b, .nil⟩
end
/-- a tuple of the top, in the written part -/
def KTup (K : PySem.W.Frag) (a : Addr) (xs : List V) : Prop := ∃ o its n, K.lookup a = some o ∧ o.cls = Value.type "tuple" ∧ o.data = Data.seq its n ∧ its.size ≤ sizeLine ∧ Vals xs its.toList
theorem pe_mk0 {X : Cx} {k j : Nat} {x : Str} {C : Addr} {sp : Sp} {dvs : List V} {p pos : Pos} (c : Mak X.prog X.w X.K X.mg X.base k x C sp dvs) (hr : Room j X.A) (hk : k + 1 ≤ j) (hg : Gl X x)
    (hdb : (x == ("__debug__" : Str)) = false := by decide) : PE X (.Call (.Name x p) [] [] pos) (tMake C sp dvs L2.E0 tNil) := by
  obtain ⟨f, fd, ps, ds, M, F, hm, b, d⟩ := c.ex
  exact pe_make0 M F (hr.mono hk) hg hm b d pass0 hdb
/-! ### rules whose written part is named K (a comprehension's context is another one) -/
section
variable {X : Cx} {K : PySem.W.Frag}
theorem kin (h : X.K = K := by rfl) : OpR X (compareOp .In) (rIn K false) := by subst h; exact op_in_seq
theorem knin (h : X.K = K := by rfl) : OpR X (compareOp .NotIn) (rIn K true) := by subst h; exact op_notIn_seq
theorem kixl (h : X.K = K := by rfl) : IxR X (rIxL K) := by subst h; exact ix_list
theorem kixt (h : X.K = K := by rfl) : IxR X (rIxT K) := by subst h; exact ix_tup
theorem ksll (h : X.K = K := by rfl) : SlR X (rSlL K) := by subst h; exact sl_list
theorem kisi (h : X.K = K := by rfl) : CallR X (.builtin "isinstance") (rIsi K) := by subst h; exact call_isi
theorem kfld {o : Expr} {f : Str} {pos : Pos} {ta : TE} (he : PE X o ta) (hb : attributeBase o f X.env (eval o X.env) = eval o X.env := by rfl) (h : X.K = K := by rfl) : PE X (.Attribute o f pos) (tFld K ta f) := by subst h; exact pe_fld he hb
def rLenK (K : PySem.W.Frag) : List V → Hp → VK → Prop := fun xs H Q => ∃ p ys, xs = [.ref p] ∧ (SqL K H p ys ∨ SqT K H p ys) ∧ Q (.int ys.length) H
theorem klen (h : X.K = K := by rfl) : CallR X (.builtin "len") (rLenK K) := by subst h; exact call_len_seq
end
theorem hu1 {k : Nat} {A : Around} (hr : Room k A) : A.units + 1 < cLine := by have := hr.units; omega
section
variable {X : Cx}
theorem kdin {d : Addr} (h : ∃ es n, KDict X.K X.w d es n) : OpR X (compareOp .In) (fun x y H Q => ∃ (z : Str) (r : Option Value), x = .str z ∧ y = .ref d ∧ PySem.W.nsIn X.K d z = some r ∧ Q (.bl r.isSome) H) := by
  obtain ⟨es, n, D⟩ := h
  exact op_in_kd D
theorem kdnin {d : Addr} (h : ∃ es n, KDict X.K X.w d es n) : OpR X (compareOp .NotIn) (fun x y H Q => ∃ (z : Str) (r : Option Value), x = .str z ∧ y = .ref d ∧ PySem.W.nsIn X.K d z = some r ∧ Q (.bl (!r.isSome)) H) := by
  obtain ⟨es, n, D⟩ := h
  exact op_notIn_kd D
end
theorem kgtup {X : Cx} {K : PySem.W.Frag} {es : List Expr} {k : Nat} {t : TGs} {n : Nat} {pos : Pos} (hc : X.calm = true) (h : PGs X es t)
    (hn : (assignEach es X.env).length = n := by rfl) (hst : (assignEach es X.env).findIdx? (·.1) = none := by rfl) (hK : X.K = K := by rfl) : PG X (.Tuple es k pos) (gTup K n t) := by subst hK; exact pg_tup hc h hn hst
theorem hu65 {A : Around} {k : Nat} (hr : Room k A) : A.units + 65 < cLine := by have := hr.un; omega
theorem keqD {X : Cx} {K : PySem.W.Frag} (hu : X.A.units + 64 < cLine) (h : X.K = K := by rfl) : OpR X (compareOp .Eq) (rEqD K) := by subst h; exact op_eqD hu
theorem kneD {X : Cx} {K : PySem.W.Frag} (hu : X.A.units + 64 < cLine) (h : X.K = K := by rfl) : OpR X (compareOp .NotEq) (rNeD K) := by subst h; exact op_neD hu

def topS (i : Nat) : Stmt := PySem.Challenge.pw_oathledger_k14_sector_texts.main.body.getD i (.Pass ⟨0, 0, 0, 0⟩)
abbrev s_is_decimal : Stmt := topS 1
theorem sc_is_decimal : FnScope ["word"] ["word"] (defScope s_is_decimal) := ⟨rfl, rfl, rfl, by decide +kernel, rfl, by decide +kernel, by decide +kernel⟩
abbrev s_format_head : Stmt := topS 5
theorem sc_format_head : FnScope ["generation", "area"] ["generation", "area"] (defScope s_format_head) := ⟨rfl, rfl, rfl, by decide +kernel, rfl, by decide +kernel, by decide +kernel⟩
abbrev s_format_piece : Stmt := topS 6
theorem sc_format_piece : FnScope ["generation", "place", "left", "payload"] ["generation", "place", "left", "payload"] (defScope s_format_piece) := ⟨rfl, rfl, rfl, by decide +kernel, rfl, by decide +kernel, by decide +kernel⟩
abbrev s_parse_sector : Stmt := topS 7
theorem sc_parse_sector : FnScope ["text"] ["text"] (defScope s_parse_sector) := ⟨rfl, rfl, rfl, by decide +kernel, rfl, by decide +kernel, by decide +kernel⟩
abbrev s_parse_head : Stmt := topS 8
theorem sc_parse_head : FnScope ["words"] ["words"] (defScope s_parse_head) := ⟨rfl, rfl, rfl, by decide +kernel, rfl, by decide +kernel, by decide +kernel⟩
abbrev s_parse_piece : Stmt := topS 9
theorem sc_parse_piece : FnScope ["words"] ["words"] (defScope s_parse_piece) := ⟨rfl, rfl, rfl, by decide +kernel, rfl, by decide +kernel, by decide +kernel⟩
abbrev s_is_generation : Stmt := topS 10
theorem sc_is_generation : FnScope ["word"] ["word"] (defScope s_is_generation) := ⟨rfl, rfl, rfl, by decide +kernel, rfl, by decide +kernel, by decide +kernel⟩
abbrev s__law_cell : Stmt := topS 12
theorem sc__law_cell : FnScope ["script", "k"] ["script", "k"] (defScope s__law_cell) := ⟨rfl, rfl, rfl, by decide +kernel, rfl, by decide +kernel, by decide +kernel⟩
abbrev s__law_is_integer : Stmt := topS 13
theorem sc__law_is_integer : FnScope ["actual"] ["actual"] (defScope s__law_is_integer) := ⟨rfl, rfl, rfl, by decide +kernel, rfl, by decide +kernel, by decide +kernel⟩
abbrev s__law_text : Stmt := topS 14
theorem sc__law_text : FnScope ["cell", "size", "chars", "k"] ["cell", "size"] (defScope s__law_text) := ⟨rfl, rfl, rfl, by decide +kernel, rfl, by decide +kernel, by decide +kernel⟩
abbrev s__law_number : Stmt := topS 15
theorem sc__law_number : FnScope ["text", "digit"] ["text"] (defScope s__law_number) := ⟨rfl, rfl, rfl, by decide +kernel, rfl, by decide +kernel, by decide +kernel⟩
abbrev s__law_parse : Stmt := topS 16
theorem sc__law_parse : FnScope ["text", "parts", "generation", "numbers", "payload", "part"] ["text"] (defScope s__law_parse) := ⟨rfl, rfl, rfl, by decide +kernel, rfl, by decide +kernel, by decide +kernel⟩
abbrev s__law_change : Stmt := topS 17
theorem sc__law_change : FnScope ["text", "how", "cell", "at", "sign"] ["text", "how", "cell"] (defScope s__law_change) := ⟨rfl, rfl, rfl, by decide +kernel, rfl, by decide +kernel, by decide +kernel⟩
abbrev s__law_same : Stmt := topS 18
theorem sc__law_same : FnScope ["actual", "expected", "k"] ["actual", "expected"] (defScope s__law_same) := ⟨rfl, rfl, rfl, by decide +kernel, rfl, by decide +kernel, by decide +kernel⟩
abbrev s_law : Stmt := topS 19
theorem sc_law : FnScope ["script", "generation", "place", "left", "area", "payload", "piece", "head", "text", "k"] ["script"] (defScope s_law) := ⟨rfl, rfl, rfl, by decide +kernel, rfl, by decide +kernel, by decide +kernel⟩
structure Txt (K : PySem.W.Frag) (mg : Str → Option Value) : Prop where
  d_is_decimal : DefOk K mg "is_decimal" s_is_decimal ["word"]
  d_format_head : DefOk K mg "format_head" s_format_head ["generation", "area"]
  d_format_piece : DefOk K mg "format_piece" s_format_piece ["generation", "place", "left", "payload"]
  d_parse_sector : DefOk K mg "parse_sector" s_parse_sector ["text"]
  d_parse_head : DefOk K mg "parse_head" s_parse_head ["words"]
  d_parse_piece : DefOk K mg "parse_piece" s_parse_piece ["words"]
  d_is_generation : DefOk K mg "is_generation" s_is_generation ["word"]
  d__law_cell : DefOk K mg "_law_cell" s__law_cell ["script", "k"]
  d__law_is_integer : DefOk K mg "_law_is_integer" s__law_is_integer ["actual"]
  d__law_text : DefOk K mg "_law_text" s__law_text ["cell", "size"]
  d__law_number : DefOk K mg "_law_number" s__law_number ["text"]
  d__law_parse : DefOk K mg "_law_parse" s__law_parse ["text"]
  d__law_change : DefOk K mg "_law_change" s__law_change ["text", "how", "cell"]
  d__law_same : DefOk K mg "_law_same" s__law_same ["actual", "expected"]
  d_law : DefOk K mg "law" s_law ["script"]
  c_PIECE_SIZE : ∃ u, mg "PIECE_SIZE" = some u ∧ RelV (.int 40) u
  c_SECTOR_SIZE : ∃ u, mg "SECTOR_SIZE" = some u ∧ RelV (.int 96) u
  z_bool : mg "bool" = none
  z_int : mg "int" = none
  z_isinstance : mg "isinstance" = none
  z_len : mg "len" = none
  z_max : mg "max" = none
  z_range : mg "range" = none
  z_str : mg "str" = none
  z_tuple : mg "tuple" = none
set_option pp.maxSteps 150
/-! ### drawn numbers and strings -/
def prC (c : Nat) : Bool := decide (32 ≤ c) && decide (c ≤ 126) && decide (c ≠ 37)
def isPr (z : Str) : Bool := z.cps.toList.all prC
theorem app_tl (a b : Str) : (a ++ b).cps.toList = a.cps.toList ++ b.cps.toList := by
  show (a.cps ++ b.cps).toList = _
  rw [Array.toList_append]
theorem len_tl (z : Str) : z.cps.toList.length = z.length := Array.length_toList
theorem isPr_app (a b : Str) : isPr (a ++ b) = (isPr a && isPr b) := by
  unfold isPr
  rw [app_tl, List.all_append]

theorem asc_list {z : Str} : Txt.isascii z = true ↔ ∀ c ∈ z.cps.toList, c < 128 := by
  unfold Txt.isascii
  rw [← Array.all_toList, List.all_eq_true]
  simp

/-! ### is_decimal -/
def dg (c : Nat) : Bool := decide (48 ≤ c) && decide (c ≤ 57)
/-- a number in decimal digits, by its codes -/
def dcL (l : List Nat) : Bool := !l.isEmpty && l.all dg && (l == [48] || l.head? != some 48)
def inL (l ch : List Nat) : Bool := l.all fun c => decide (c ∈ ch)
theorem digit128 : ∀ c : Nat, c < 128 → Unicode.isDigit c = dg c := by
  intro c hc
  have h : ∀ c : Fin 128, Unicode.isDigit c.val = dg c.val := by decide +kernel
  exact h ⟨c, hc⟩
theorem dg_lt {c : Nat} (h : dg c = true) : 48 ≤ c ∧ c ≤ 57 := by
  unfold dg at h
  rw [Bool.and_eq_true] at h
  exact ⟨of_decide_eq_true h.1, of_decide_eq_true h.2⟩
theorem all_digits {z : Str} (ha : Txt.isascii z = true) : Txt.isdigit z = (!z.cps.toList.isEmpty && z.cps.toList.all dg) := by
  unfold Txt.isdigit
  have h := asc_list.mp ha
  rw [← Array.all_toList]
  have e1 : decide (z.length > 0) = !z.cps.toList.isEmpty := by
    rw [← len_tl]
    cases z.cps.toList <;> simp
  rw [e1]
  congr 1
  revert h
  generalize z.cps.toList = l
  intro h
  induction l with
  | nil => rfl
  | cons c r ih =>
    rw [List.all_cons, List.all_cons, digit128 c (h c List.mem_cons_self), ih (fun d hd => h d (List.mem_cons_of_mem _ hd))]
theorem dcL_asc {z : Str} (h : Txt.isascii z = false) : dcL z.cps.toList = false := by
  cases e : dcL z.cps.toList with
  | false => rfl
  | true =>
    unfold dcL at e
    rw [Bool.and_eq_true, Bool.and_eq_true] at e
    have := asc_list.mpr (fun c hc => by have := dg_lt (List.all_eq_true.mp e.1.2 c hc); omega)
    rw [h] at this; cases this
theorem str_eq_l {a b : Str} : a = b ↔ a.cps.toList = b.cps.toList := by
  constructor
  · rintro rfl; rfl
  · intro h
    cases a; cases b
    simp only [Str.mk.injEq]
    exact Array.toList_inj.mp h
def spStrB (K : PySem.W.Frag) (f : List Nat → Bool) : Sp := fun vs H Q _ => ∃ (z : Str), vs = [.str z] ∧ z.length ≤ 10000 ∧ ∀ H', Same H H' → Q (.bl (f z.cps.toList)) H'
section
variable {P : Program} {w : World} {K : PySem.W.Frag} {mg : Str → Option Value} {base : Heap}
theorem c_is_decimal (T : Txt K mg) : Cal P w K mg base 1 "is_decimal" (spStrB K dcL) [] := by
  refine cal T.d_is_decimal sc_is_decimal (fun vs H Q E h => ?_) (fun f cdv A' outer s H vs Q E hr h => ?_)
  · obtain ⟨z, rfl, _⟩ := h; rfl
  obtain ⟨z, rfl, hz, q⟩ := h
  refine ⟨_, (pss_one (ps_ret (pe_and (pe_bm0 PySem.F.plainAttrs_str PySem.F.slot_str_isascii PySem.F.type_str_isascii mt_isascii (pv 0)) (pe_and (pe_bm0 PySem.F.plainAttrs_str PySem.F.slot_str_isdigit PySem.F.type_str_isdigit mt_isdigit (pv 0)) (pe_one (pe_or (pe_cmpR op_eq (pv 0) pe_str (nomark _)) (pe_one (pe_cmpR op_ne (pe_ix ix_str (pv 0) pe_int (fun _ _ => rfl)) pe_str (nomark _))))))))), ?_⟩
  have q := q H (Same.refl H)
  walk_at "rds"
  refine ⟨rfl, _, rfl, rfl, trivial, ?_⟩
  walk_at "rds"
  cases ha : Txt.isascii z with
  | false =>
    rw [dcL_asc ha] at q
    refine ifF rfl ?_
    exact q
  | true =>
    refine ifT rfl ?_
    walk_at "rds"
    refine ⟨rfl, _, rfl, rfl, trivial, ?_⟩
    walk_at "rds"
    rw [all_digits ha]
    cases hd : (!z.cps.toList.isEmpty && z.cps.toList.all dg) with
    | false =>
      have e : dcL z.cps.toList = false := by unfold dcL; rw [hd]; rfl
      rw [e] at q
      refine ifF rfl ?_
      exact q
    | true =>
      have e : dcL z.cps.toList = (z.cps.toList == [48] || z.cps.toList.head? != some 48) := by unfold dcL; rw [hd]; rfl
      rw [e] at q
      refine ifT rfl ?_
      walk_at "rds"
      have l0 : (Str.ofString "0").cps.toList = [48] := by decide
      refine ite2 (fun e0 => ?_) (fun e0 => ?_)
      · have e0 : z = Str.ofString "0" := V.str.inj (of_decide_eq_true e0)
        rw [e0, l0] at q
        exact q
      · have e0 : ¬ z = Str.ofString "0" := fun h => e0 (decide_eq_true (by rw [h]))
        have e1 : z.cps.toList ≠ [48] := fun h => e0 (str_eq_l.mpr (h.trans l0.symm))
        obtain ⟨c, r, hl⟩ : ∃ c r, z.cps.toList = c :: r := by
          cases hl : z.cps.toList with
          | nil => rw [hl] at hd; simp at hd
          | cons c r => exact ⟨c, r, rfl⟩
        have h0 : atI z.cps.toList 0 = some c := atI_nat (j := 0) (by rw [hl]; rfl)
        walk_at "rds"
        refine ⟨z, _, c, rfl, rfl, sz1000 (by omega), h0, ?_⟩
        walk_at "rds"
        have e2 : (z.cps.toList == [48]) = false := by simpa using e1
        rw [e2, hl, Bool.false_or] at q
        have e3 : (!decide (V.str ⟨#[c]⟩ = V.str (Str.ofString "0"))) = ((c :: r).head? != some 48) := by
          by_cases h : c = 48
          · subst h; rfl
          · rw [decide_eq_false (fun z => h (by
              have := congrArg (fun v => match v with | V.str s => s.cps.toList | _ => []) z
              have : [c] = [48] := this
              simpa using this))]
            simp [h]
        rw [← e3] at q
        exact q
end

/-! ### numbers have one form -/
def prL (l : List Nat) : Bool := l.all prC
theorem dg_all {l : List Nat} (h : l.all dg = true) : PySem.NumText.AllDigits l := fun c hc => dg_lt (List.all_eq_true.mp h c hc)
theorem digitsVal_snoc (l : List Nat) (c : Nat) : PySem.NumText.digitsVal (l ++ [c]) = PySem.NumText.digitsVal l * 10 + (c - 48) := by
  unfold PySem.NumText.digitsVal
  rw [List.foldl_append]; rfl
theorem numL_back : ∀ (n : Nat) (l : List Nat), l.length = n → l ≠ [] → PySem.NumText.AllDigits l → (l = [48] ∨ l.head? ≠ some 48) → TL.numL (PySem.NumText.digitsVal l) = l := by
  intro n
  induction n with
  | zero => intro l h1 h2; exact absurd (List.length_eq_zero_iff.mp h1) h2
  | succ n ih =>
    intro l h1 h2 h3 h4
    obtain ⟨q, c, rfl⟩ : ∃ q c, l = q ++ [c] := ⟨_, _, (List.dropLast_concat_getLast h2).symm⟩
    have hc := h3 c (by simp)
    rw [digitsVal_snoc]
    cases q with
    | nil =>
      show TL.numL (0 * 10 + (c - 48)) = [c]
      rw [TL.numL_lt (by omega)]
      exact congrArg (· :: []) (by omega)
    | cons a r =>
      have ha := h3 a (by simp)
      have hd : a ≠ 48 := by
        rintro rfl
        rcases h4 with h4 | h4
        · simp at h4
        · exact h4 rfl
      have ih := ih (a :: r) (by simpa using h1) (by simp) (fun d m => h3 d (by simp only [List.mem_append]; exact .inl m)) (.inr (by simpa using hd))
      have hp : 1 ≤ PySem.NumText.digitsVal (a :: r) := by
        cases e : PySem.NumText.digitsVal (a :: r) with
        | zero =>
          rw [e, TL.numL_lt (by omega)] at ih
          injection ih with e1 _
          omega
        | succ k => omega
      rw [TL.numL_step (by omega)]
      rw [show (PySem.NumText.digitsVal (a :: r) * 10 + (c - 48)) / 10 = PySem.NumText.digitsVal (a :: r) by omega, ih,
        show 48 + (PySem.NumText.digitsVal (a :: r) * 10 + (c - 48)) % 10 = c by omega]
theorem dcL_iff {l : List Nat} : dcL l = true ↔ l ≠ [] ∧ PySem.NumText.AllDigits l ∧ (l = [48] ∨ l.head? ≠ some 48) := by
  unfold dcL
  rw [Bool.and_eq_true, Bool.and_eq_true, Bool.or_eq_true]
  constructor
  · rintro ⟨⟨a, b⟩, c⟩
    refine ⟨fun z => (by rw [z] at a; cases a), dg_all b, c.imp (fun z => eq_of_beq z) (fun z y => by rw [y] at z; simp at z)⟩
  · rintro ⟨a, b, c⟩
    refine ⟨⟨by cases l; exact absurd rfl a; rfl, List.all_eq_true.mpr fun x hx => by have := b x hx; unfold dg; rw [decide_eq_true this.1, decide_eq_true this.2]; rfl⟩, ?_⟩
    rcases c with c | c
    · exact .inl (by rw [c]; rfl)
    · exact .inr (by simpa using c)
theorem dcL_num {l : List Nat} (h : dcL l = true) : TL.numL (PySem.NumText.digitsVal l) = l := by
  obtain ⟨a, b, c⟩ := dcL_iff.mp h
  exact numL_back _ l rfl a b c
theorem numL_head {n : Nat} (h : 10 ≤ n) : ∃ a r, TL.numL n = a :: r ∧ a ≠ 48 := by
  induction n using Nat.strongRecOn with
  | _ n ih =>
    rw [TL.numL_step h]
    by_cases g : n / 10 < 10
    · rw [TL.numL_lt g]
      exact ⟨_, _, rfl, by omega⟩
    · obtain ⟨a, r, e, ha⟩ := ih (n / 10) (by omega) (by omega)
      rw [e]
      exact ⟨a, _, rfl, ha⟩
theorem num_dcL (n : Nat) : dcL (TL.numL n) = true := by
  refine dcL_iff.mpr ⟨TL.numL_ne n, TL.numL_digits n, ?_⟩
  by_cases h : n < 10
  · rw [TL.numL_lt h]
    by_cases z : n = 0
    · subst z; exact .inl rfl
    · exact .inr (by simpa using z)
  · obtain ⟨a, r, e, ha⟩ := numL_head (n := n) (by omega)
    rw [e]
    exact .inr (by simpa using ha)

/-! ### split by one sign, by codes -/
def cutsN (c : Nat) : Nat → Nat → List Nat → List Nat
  | 0, _, _ => []
  | _ + 1, _, [] => []
  | n + 1, p, a :: r => if a = c then p :: cutsN c n (p + 1) r else cutsN c (n + 1) (p + 1) r
theorem cutsN_zero (c p : Nat) (l : List Nat) : cutsN c 0 p l = [] := by simp [cutsN]
theorem cutsN_nil (c n p : Nat) : cutsN c n p [] = [] := by cases n <;> simp [cutsN]
open PySem.StrLaws in
theorem occ_run (x : Str) (c lim : Nat) : ∀ (n a free : Nat) (arr : Array Nat), free ≤ a → a + n = x.length + 1 →
    (forIn (List.range' a n) (arr, free) (occBody x ⟨#[c]⟩ x.length lim)).run.fst.toList = arr.toList ++ cutsN c (lim - arr.size) a (x.cps.toList.drop a)
  | 0, a, free, arr, _, h => by
    rw [List.drop_eq_nil_of_le (by rw [len_tl]; omega), cutsN_nil, List.append_nil]; rfl
  | n + 1, a, free, arr, hf, h => by
    rw [List.range'_succ, List.forIn_cons]
    have one := subAt_one x c a
    have l1 : (⟨#[c]⟩ : Str).length = 1 := rfl
    by_cases e : a = x.length
    · have c2 : ¬ ((((arr, free).fst.size < lim ∧ (arr, free).snd ≤ a) ∧ a + (⟨#[c]⟩ : Str).length ≤ x.length) ∧ PySem.Builtin.Str.subAt x ⟨#[c]⟩ a = true) := fun h => by have := h.1.2; omega
      unfold occBody
      rw [if_neg c2]
      have ih := occ_run x c lim n (a + 1) free arr (by omega) (by omega)
      unfold occBody at ih
      refine ih.trans ?_
      rw [List.drop_eq_nil_of_le (by rw [len_tl]; omega), List.drop_eq_nil_of_le (by rw [len_tl]; omega), cutsN_nil, cutsN_nil]
    · have ha : a < x.cps.toList.length := by rw [len_tl]; omega
      have dr := List.drop_eq_getElem_cons ha
      by_cases ec : x.cps.toList[a] = c
      · by_cases hs : arr.size < lim
        · have hc := one.mpr (by rw [List.getElem?_eq_getElem ha, ec])
          have c1 : (((arr, free).fst.size < lim ∧ (arr, free).snd ≤ a) ∧ a + (⟨#[c]⟩ : Str).length ≤ x.length) ∧ PySem.Builtin.Str.subAt x ⟨#[c]⟩ a = true := ⟨⟨⟨hs, hf⟩, hc.1⟩, hc.2⟩
          unfold occBody
          rw [if_pos c1]
          have ih := occ_run x c lim n (a + 1) (a + (⟨#[c]⟩ : Str).length) (arr.push a) (by omega) (by omega)
          unfold occBody at ih
          refine ih.trans ?_
          rw [dr, ec, show lim - arr.size = (lim - (arr.push a).size) + 1 by rw [Array.size_push]; omega, cutsN, if_pos rfl, Array.toList_push, List.append_assoc]; rfl
        · have c2 : ¬ ((((arr, free).fst.size < lim ∧ (arr, free).snd ≤ a) ∧ a + (⟨#[c]⟩ : Str).length ≤ x.length) ∧ PySem.Builtin.Str.subAt x ⟨#[c]⟩ a = true) := fun h => hs h.1.1.1
          unfold occBody
          rw [if_neg c2]
          have ih := occ_run x c lim n (a + 1) free arr (by omega) (by omega)
          unfold occBody at ih
          refine ih.trans ?_
          rw [show lim - arr.size = 0 by omega, cutsN_zero, cutsN_zero]
      · have c2 : ¬ ((((arr, free).fst.size < lim ∧ (arr, free).snd ≤ a) ∧ a + (⟨#[c]⟩ : Str).length ≤ x.length) ∧ PySem.Builtin.Str.subAt x ⟨#[c]⟩ a = true) := fun h => by
          have := one.mp ⟨h.1.2, h.2⟩
          rw [List.getElem?_eq_getElem ha] at this
          exact ec (Option.some.inj this)
        unfold occBody
        rw [if_neg c2]
        have ih := occ_run x c lim n (a + 1) free arr (by omega) (by omega)
        unfold occBody at ih
        refine ih.trans ?_
        rw [dr]
        cases lim - arr.size with
        | zero => rw [cutsN_zero, cutsN_zero]
        | succ m => rw [cutsN, if_neg ec]
def hdL (u : List Nat) : List (List Nat) → List (List Nat)
  | [] => [u]
  | p :: q => (u ++ p) :: q
def spN (c : Nat) : Nat → List Nat → List (List Nat)
  | 0, l => [l]
  | _ + 1, [] => [[]]
  | n + 1, a :: r => if a = c then [] :: spN c n r else hdL [a] (spN c (n + 1) r)
theorem spN_zero (c : Nat) (l : List Nat) : spN c 0 l = [l] := by simp [spN]
theorem spN_nil (c : Nat) : ∀ n : Nat, spN c n [] = [[]]
  | 0 => spN_zero c []
  | n + 1 => by simp [spN]
theorem spN_ne (c : Nat) : ∀ (n : Nat) (l : List Nat), ∃ p q, spN c n l = p :: q
  | 0, l => ⟨_, _, spN_zero c l⟩
  | n + 1, [] => ⟨_, _, spN_nil c (n + 1)⟩
  | n + 1, a :: r => by
    rw [spN]
    split
    · exact ⟨_, _, rfl⟩
    · obtain ⟨p, q, e⟩ := spN_ne c (n + 1) r
      rw [e]; exact ⟨_, _, rfl⟩
theorem hdL_nil {l : List (List Nat)} (h : ∃ p q, l = p :: q) : hdL [] l = l := by
  obtain ⟨p, q, rfl⟩ := h; rfl
theorem hdL_app {l : List (List Nat)} {u v : List Nat} (h : ∃ p q, l = p :: q) : hdL (u ++ v) l = hdL u (hdL v l) := by
  obtain ⟨p, q, rfl⟩ := h; show (u ++ v ++ p) :: q = (u ++ (v ++ p)) :: q; rw [List.append_assoc]
open PySem.StrLaws in
theorem parts_spN (x : Str) (c : Nat) : ∀ (m n s p : Nat), s ≤ p → p + m = x.length →
    (partsFrom x 1 s (cutsN c n p (x.cps.toList.drop p))).map (fun z : Str => z.cps.toList) = hdL ((x.cps.toList.drop s).take (p - s)) (spN c n (x.cps.toList.drop p)) := by
  have base : ∀ s p : Nat, s ≤ p → p ≤ x.length → ((PySem.Builtin.Str.strSub x s x.length).cps.toList : List Nat) = (x.cps.toList.drop s).take (p - s) ++ x.cps.toList.drop p := by
    intro s p hs hp
    rw [strSub_toList, List.take_of_length_le (by rw [List.length_drop, len_tl]; omega)]
    conv => lhs; rw [← List.take_append_drop (p - s) (x.cps.toList.drop s), List.drop_drop, show s + (p - s) = p by omega]
  intro m
  induction m with
  | zero =>
    intro n s p hs hp
    have e : x.cps.toList.drop p = [] := List.drop_eq_nil_of_le (by rw [len_tl]; omega)
    have b := base s p hs (by omega)
    rw [e] at b ⊢
    rw [cutsN_nil, spN_nil]
    show [(PySem.Builtin.Str.strSub x s x.length).cps.toList] = _
    rw [b]
    rfl
  | succ m ih =>
    intro n s p hs hp
    have b := base s p hs (by omega)
    cases n with
    | zero =>
      rw [cutsN_zero, spN_zero]
      show [(PySem.Builtin.Str.strSub x s x.length).cps.toList] = [_ ++ _]
      rw [b]
    | succ n =>
      have ha : p < x.cps.toList.length := by rw [len_tl]; omega
      have dr := List.drop_eq_getElem_cons ha
      rw [dr, cutsN, spN]
      by_cases ec : x.cps.toList[p] = c
      · rw [if_pos ec, if_pos ec]
        show (PySem.Builtin.Str.strSub x s p).cps.toList :: (partsFrom x 1 (p + 1) _).map _ = (_ ++ []) :: _
        rw [ih n (p + 1) (p + 1) (Nat.le_refl _) (by omega), Nat.sub_self, List.take_zero, hdL_nil (spN_ne ..), strSub_toList, List.append_nil]
      · rw [if_neg ec, if_neg ec, ih (n + 1) s (p + 1) (by omega) (by omega), ← hdL_app (spN_ne ..)]
        congr 1
        rw [show p + 1 - s = (p - s) + 1 by omega, List.take_add_one, List.getElem?_drop, show s + (p - s) = p by omega, List.getElem?_eq_getElem ha]
        rfl
theorem spN_free {c : Nat} : ∀ {l : List Nat} {n : Nat}, c ∉ l → spN c n l = [l]
  | _, 0, _ => spN_zero ..
  | [], n + 1, _ => spN_nil c (n + 1)
  | a :: r, n + 1, h => by
    rw [spN, if_neg (fun e => h (by rw [e]; exact List.mem_cons_self)), spN_free (fun m => h (List.mem_cons_of_mem _ m))]; rfl
open PySem.StrLaws in
theorem splitMax_tl (x : Str) (c : Nat) (k : Int) : (Txt.splitMax x ⟨#[c]⟩ k).map (fun z : Str => z.cps.toList) = spN c (PySem.limitOf x k) x.cps.toList := by
  have key : (PySem.Builtin.Str.partsBetween x (PySem.Builtin.Str.occurrences x ⟨#[c]⟩ 0 x.length (PySem.limitOf x k)) (⟨#[c]⟩ : Str).length).map (fun z : Str => z.cps.toList) = spN c (PySem.limitOf x k) x.cps.toList := by
    rw [partsBetween_eq, occ_eq, occ_run x c (PySem.limitOf x k) _ 0 0 #[] (Nat.le_refl _) (by omega)]
    have h := parts_spN x c x.length (PySem.limitOf x k) 0 0 (Nat.le_refl _) (by omega)
    rw [List.drop_zero, Nat.sub_self, List.take_zero, hdL_nil (spN_ne ..)] at h
    exact h
  unfold Txt.splitMax
  split
  · rename_i h
    rw [Bool.or_eq_true, decide_eq_true_eq, decide_eq_true_eq] at h
    show [x.cps.toList] = _
    rw [spN_free]
    rcases h with h | h
    · have h : x.length < 1 := h
      rw [List.eq_nil_of_length_eq_zero (l := x.cps.toList) (by rw [len_tl]; omega)]; simp
    · exact kind_free x c h
  · split
    · rename_i he
      rw [List.isEmpty_iff.mp he, partsBetween_eq] at key
      rw [← key]
      show [x.cps.toList] = [(PySem.Builtin.Str.strSub x 0 x.length).cps.toList]
      rw [sub_whole]
    · exact key
theorem split_tl (x : Str) (c : Nat) : (Txt.split x ⟨#[c]⟩).map (fun z : Str => z.cps.toList) = spN c (x.length + 1) x.cps.toList := by
  have h := splitMax_tl x c (-1)
  have e : PySem.limitOf x (-1) = x.length + 1 := if_pos (by decide)
  unfold Txt.splitMax at h
  rw [e] at h
  unfold Txt.split
  exact h
/-- without a limit -/
def spA (c : Nat) : List Nat → List (List Nat)
  | [] => [[]]
  | a :: r => if a = c then [] :: spA c r else hdL [a] (spA c r)
theorem spA_ne (c : Nat) : ∀ (l : List Nat), ∃ p q, spA c l = p :: q
  | [] => ⟨_, _, rfl⟩
  | a :: r => by
    rw [spA]
    split
    · exact ⟨_, _, rfl⟩
    · obtain ⟨p, q, e⟩ := spA_ne c r
      rw [e]; exact ⟨_, _, rfl⟩
theorem spN_all {c : Nat} : ∀ {l : List Nat} {n : Nat}, l.length < n → spN c n l = spA c l
  | [], n + 1, _ => spN_nil c (n + 1)
  | a :: r, n + 1, h => by
    rw [spN, spA]
    simp only [List.length_cons] at h
    split
    · cases n with
      | zero => omega
      | succ n => rw [spN_all (by omega)]
    · rw [spN_all (by omega)]
def jnL (c : Nat) : List (List Nat) → List Nat
  | [] => []
  | [x] => x
  | x :: y :: r => x ++ c :: jnL c (y :: r)
theorem jnL_hd {c a : Nat} {l : List (List Nat)} (h : ∃ p q, l = p :: q) : jnL c (hdL [a] l) = a :: jnL c l := by
  obtain ⟨p, q, rfl⟩ := h
  cases q <;> rfl
theorem jnL_spA (c : Nat) : ∀ l : List Nat, jnL c (spA c l) = l
  | [] => rfl
  | a :: r => by
    rw [spA]
    have ih := jnL_spA c r
    obtain ⟨p, q, e⟩ := spA_ne c r
    split
    · rename_i h
      rw [e] at ih ⊢
      show c :: jnL c (p :: q) = _
      rw [ih, h]
    · rw [jnL_hd ⟨_, _, e⟩, ih]
def limL (c : Nat) : Nat → List (List Nat) → List (List Nat)
  | 0, l => [jnL c l]
  | _ + 1, [] => []
  | _ + 1, [x] => [x]
  | n + 1, x :: y :: r => x :: limL c n (y :: r)
theorem lim_hd {c a : Nat} : ∀ {n : Nat} {l : List (List Nat)}, (∃ p q, l = p :: q) → limL c n (hdL [a] l) = hdL [a] (limL c n l)
  | 0, l, h => by show [jnL c (hdL [a] l)] = _; rw [jnL_hd h]; rfl
  | n + 1, l, h => by
    obtain ⟨p, q, rfl⟩ := h
    cases q <;> rfl
theorem spN_lim (c : Nat) : ∀ (n : Nat) (l : List Nat), spN c n l = limL c n (spA c l)
  | 0, l => by rw [spN_zero, limL, jnL_spA]
  | n + 1, [] => by rw [spN_nil]; rfl
  | n + 1, a :: r => by
    rw [spN, spA]
    split
    · obtain ⟨p, q, e⟩ := spA_ne c r
      rw [spN_lim c n r, e]
      rfl
    · rw [spN_lim c (n + 1) r, lim_hd (spA_ne c r)]
theorem spA_word {c : Nat} : ∀ {u : List Nat} (r : List Nat), c ∉ u → spA c (u ++ c :: r) = u :: spA c r
  | [], r, _ => by rw [List.nil_append, spA, if_pos rfl]
  | a :: u, r, h => by
    rw [List.cons_append, spA, if_neg (fun e => h (by rw [e]; exact List.mem_cons_self)), spA_word r (fun m => h (List.mem_cons_of_mem _ m))]; rfl
theorem spA_free {c : Nat} {u : List Nat} (h : c ∉ u) : spA c u = [u] := by
  rw [← spN_all (Nat.lt_succ_self _), spN_free h]
theorem spA_len (c : Nat) : ∀ l : List Nat, (spA c l).length ≤ l.length + 1
  | [] => Nat.le_refl _
  | a :: r => by
    have ih := spA_len c r
    obtain ⟨p, q, e⟩ := spA_ne c r
    rw [spA, List.length_cons]
    split
    · rw [List.length_cons]; omega
    · rw [e] at ih ⊢
      show ((p :: q).length) ≤ _
      omega
theorem spA_short (c : Nat) : ∀ (l : List Nat), ∀ p ∈ spA c l, p.length ≤ l.length
  | [], p, hp => by rw [List.mem_singleton.mp hp]; exact Nat.le_refl _
  | a :: r, p, hp => by
    have ih := spA_short c r
    rw [spA] at hp
    rw [List.length_cons]
    split at hp
    · rcases List.mem_cons.mp hp with rfl | hp
      · exact Nat.zero_le _
      · have := ih p hp; omega
    · obtain ⟨u, q, e⟩ := spA_ne c r
      rw [e] at hp ih
      rcases List.mem_cons.mp hp with rfl | hp
      · have := ih u List.mem_cons_self
        simp only [List.length_append, List.length_cons, List.length_nil]; omega
      · have := ih p (List.mem_cons_of_mem _ hp); omega
theorem jnL_len_sum (c : Nat) : ∀ (l : List (List Nat)), (l.map (·.length)).sum ≤ (jnL c l).length
  | [] => Nat.le_refl _
  | [x] => by simp [jnL]
  | x :: y :: r => by
    have ih := jnL_len_sum c (y :: r)
    rw [List.map_cons, List.sum_cons, jnL, List.length_append, List.length_cons]; omega
theorem strjoin_tl (c : Nat) : ∀ ls : List (List Nat), (Str.join ⟨#[c]⟩ (ls.map fun l => (⟨l.toArray⟩ : Str))).cps.toList = jnL c ls
  | [] => rfl
  | [x] => rfl
  | x :: y :: r => by
    have ih := strjoin_tl c (y :: r)
    show ((⟨x.toArray⟩ : Str) ++ ⟨#[c]⟩ ++ Str.join ⟨#[c]⟩ ((y :: r).map fun l => (⟨l.toArray⟩ : Str))).cps.toList = _
    rw [app_tl, app_tl, ih, List.append_assoc]; rfl
theorem txtjoin_tl (c : Nat) (ls : List (List Nat)) : Txt.join ⟨#[c]⟩ (ls.map fun l => (⟨l.toArray⟩ : Str)) = ⟨(jnL c ls).toArray⟩ := by
  rw [eq_of_beq (join_closes (sep' := (⟨#[c]⟩ : Str)) rfl)]
  exact str_eq_l.mpr (strjoin_tl c ls)
theorem of_tl {ys : List Str} {ls : List (List Nat)} (h : ys.map (fun z : Str => z.cps.toList) = ls) : ys = ls.map fun l => (⟨l.toArray⟩ : Str) := by
  rw [← h, List.map_map]
  conv => lhs; rw [← List.map_id ys]
  exact List.map_congr_left fun z _ => rfl
theorem limL_len (c : Nat) : ∀ (n : Nat) (l : List (List Nat)), (limL c n l).length ≤ n + 1
  | 0, l => Nat.le_refl _
  | n + 1, [] => Nat.zero_le _
  | n + 1, [x] => by show 1 ≤ _; omega
  | n + 1, x :: y :: r => by
    have := limL_len c n (y :: r)
    show (limL c n (y :: r)).length + 1 ≤ _
    omega
theorem limL_short (c : Nat) : ∀ (n : Nat) (l : List (List Nat)), ∀ p ∈ limL c n l, p.length ≤ (jnL c l).length
  | 0, l, p, hp => by rw [List.mem_singleton.mp hp]; exact Nat.le_refl _
  | n + 1, [], p, hp => nomatch hp
  | n + 1, [x], p, hp => by rw [List.mem_singleton.mp hp]; exact Nat.le_refl _
  | n + 1, x :: y :: r, p, hp => by
    rw [jnL, List.length_append, List.length_cons]
    rcases List.mem_cons.mp hp with rfl | hp
    · omega
    · have := limL_short c n (y :: r) p hp
      omega

/-! ### the texts of sectors, without Python -/
inductive Sec
  | none
  | head (g a : Nat)
  | piece (g p l : Nat) (z : List Nat)
def dvL (l : List Nat) : Nat := PySem.NumText.digitsVal l
def gnL (l : List Nat) : Bool := dcL l && !(l == [48])
def secH : List (List Nat) → Sec
  | [_, g, a] => if gnL g = true ∧ (a = [48] ∨ a = [49]) then .head (dvL g) (dvL a) else .none
  | _ => .none
def secP : List (List Nat) → Sec
  | [h, g, p, l, z] => if h = [80] ∧ gnL g = true ∧ dcL p = true ∧ dcL l = true ∧ 1 ≤ z.length ∧ z.length ≤ 40 then .piece (dvL g) (dvL p) (dvL l) z else .none
  | _ => .none
def secS (cs : List Nat) : Sec := if cs.take 2 = [72, 32] then secH (spA 32 cs) else secP (limL 32 4 (spA 32 cs))
def sec (cs : List Nat) : Sec := if 96 < cs.length then .none else secS cs
def secQ : List (List Nat) → Sec
  | h :: g :: p :: l :: t => if t = [] then .none else secP [h, g, p, l, jnL 32 t]
  | _ => .none
def secLaw (ps : List (List Nat)) : Sec := if ps.head? = some [72] then secH ps else secQ ps
theorem secS_law (cs : List Nat) : secS cs = secLaw (spA 32 cs) := by
  obtain ⟨p, q, e⟩ := spA_ne 32 cs
  have j := jnL_spA 32 cs
  unfold secS secLaw
  by_cases h1 : cs.take 2 = [72, 32]
  · rw [if_pos h1]
    obtain ⟨r, rfl⟩ : ∃ r, cs = [72] ++ 32 :: r := by
      match cs, h1 with
      | [], h => cases h
      | [_], h => cases h
      | a :: b :: r, h =>
        have : [a, b] = [72, 32] := h
        injection this with h1 h2
        injection h2 with h2 _
        exact ⟨r, by rw [h1, h2]; rfl⟩
    rw [spA_word r (by decide)]
    exact (if_pos (c := ([72] :: spA 32 r).head? = some [72]) rfl).symm
  · rw [if_neg h1, e]
    by_cases h2 : p = [72]
    · subst h2
      rw [if_pos (show ([72] :: q).head? = some [72] from rfl)]
      cases q with
      | nil => rfl
      | cons y q =>
        rw [e] at j
        exact absurd (by rw [← j]; rfl) h1
    · rw [if_neg (show ¬ (p :: q).head? = some [72] by simpa using h2)]
      match q with
      | [] => rfl
      | [_] => rfl
      | [_, _] => rfl
      | [_, _, _] => rfl
      | g :: a :: b :: z :: t =>
        show secP [p, g, a, b, jnL 32 (z :: t)] = if z :: t = [] then Sec.none else _
        exact (if_neg (by simp)).symm
theorem sec_piece {g p l : Nat} {z : List Nat} (hg : 1 ≤ g) (hz1 : 1 ≤ z.length) (hz2 : z.length ≤ 40) (h : (TL.numL g).length + (TL.numL p).length + (TL.numL l).length ≤ 40) :
    sec ([80, 32] ++ TL.numL g ++ [32] ++ TL.numL p ++ [32] ++ TL.numL l ++ [32] ++ z) = .piece g p l z := by
  have nd : ∀ n, 32 ∉ TL.numL n := fun n m => by have := TL.numL_digits n _ m; omega
  have hl : ([80, 32] ++ TL.numL g ++ [32] ++ TL.numL p ++ [32] ++ TL.numL l ++ [32] ++ z) = [80] ++ 32 :: (TL.numL g ++ 32 :: (TL.numL p ++ 32 :: (TL.numL l ++ 32 :: z))) := by simp
  unfold sec
  rw [if_neg (by simp only [List.length_append, List.length_cons, List.length_nil]; omega), hl, secS_law, spA_word _ (by decide), spA_word _ (nd _), spA_word _ (nd _), spA_word _ (nd _)]
  obtain ⟨a, b, e⟩ := spA_ne 32 z
  have j := jnL_spA 32 z
  unfold secLaw
  rw [if_neg (by simp)]
  unfold secQ
  show (if spA 32 z = [] then Sec.none else secP [_, _, _, _, jnL 32 (spA 32 z)]) = _
  rw [if_neg (by rw [e]; simp), j]
  have gg : gnL (TL.numL g) = true := by
    unfold gnL
    rw [num_dcL, Bool.true_and]
    cases hb : TL.numL g == [48] with
    | false => rfl
    | true =>
      have := congrArg PySem.NumText.digitsVal (eq_of_beq hb)
      rw [TL.numL_val] at this
      have : g = 0 := this
      omega
  show (if _ then Sec.piece _ _ _ _ else _) = _
  rw [if_pos ⟨rfl, gg, num_dcL p, num_dcL l, hz1, hz2⟩]
  unfold dvL
  rw [TL.numL_val, TL.numL_val, TL.numL_val]
theorem sec_head {g a : Nat} (hg : 1 ≤ g) (ha : a = 0 ∨ a = 1) (h : (TL.numL g).length ≤ 40) : sec ([72, 32] ++ TL.numL g ++ [32] ++ TL.numL a) = .head g a := by
  have nd : ∀ n, 32 ∉ TL.numL n := fun n m => by have := TL.numL_digits n _ m; omega
  have na : TL.numL a = [48 + a] := TL.numL_lt (by omega)
  have hl : ([72, 32] ++ TL.numL g ++ [32] ++ TL.numL a) = [72] ++ 32 :: (TL.numL g ++ 32 :: TL.numL a) := by simp
  unfold sec
  rw [if_neg (by simp only [List.length_append, List.length_cons, List.length_nil]; rw [na]; simp only [List.length_cons, List.length_nil]; omega), hl, secS_law, spA_word _ (by decide), spA_word _ (nd _), spA_free (nd _)]
  have gg : gnL (TL.numL g) = true := by
    unfold gnL
    rw [num_dcL, Bool.true_and]
    cases hb : TL.numL g == [48] with
    | false => rfl
    | true =>
      have := congrArg PySem.NumText.digitsVal (eq_of_beq hb)
      rw [TL.numL_val] at this
      have : g = 0 := this
      omega
  unfold secLaw
  rw [if_pos (show ([[72], TL.numL g, TL.numL a] : List (List Nat)).head? = some [72] from rfl)]
  show (if _ then Sec.head _ _ else _) = _
  rw [if_pos ⟨gg, by rw [na]; rcases ha with rfl | rfl <;> simp⟩]
  unfold dvL
  rw [TL.numL_val, TL.numL_val]
def SecAt (H : Hp) (v : V) : Sec → Prop
  | .none => v = .non
  | .head g a => ∃ b, v = .ref b ∧ H b = some (.tup [.str (Str.ofString "head"), .int g, .int a])
  | .piece g p l z => ∃ b, v = .ref b ∧ H b = some (.tup [.str (Str.ofString "piece"), .int g, .int p, .int l, .str ⟨z.toArray⟩])
theorem SecAt.same {H H' : Hp} {v : V} {s : Sec} (h : SecAt H v s) (m : Same H H') : SecAt H' v s := by
  cases s with
  | none => exact h
  | head g a => obtain ⟨b, e, h⟩ := h; exact ⟨b, e, m _ _ h⟩
  | piece g p l z => obtain ⟨b, e, h⟩ := h; exact ⟨b, e, m _ _ h⟩

def wrd (l : List Nat) : V := .str ⟨l.toArray⟩
def spWords (f : List (List Nat) → Sec) : Sp := fun vs H Q _ => ∃ (b : Addr) (ls : List (List Nat)), vs = [.ref b] ∧ H b = some (.lst (ls.map wrd)) ∧ (∀ l ∈ ls, l.length ≤ 96) ∧ ls.length ≤ 100 ∧ ∀ H' v, Same H H' → SecAt H' v (f ls) → Q v H'
def spSec : Sp := fun vs H Q _ => ∃ (z : Str), vs = [.str z] ∧ z.length ≤ 1000 ∧ ∀ H' v, Same H H' → SecAt H' v (sec z.cps.toList) → Q v H'
def spNumber : Sp := fun vs H Q _ => ∃ (z : Str), vs = [.str z] ∧ z.length ≤ 96 ∧ Q (if dcL z.cps.toList = true then .int (dvL z.cps.toList) else .non) H
def spChange : Sp := fun vs H Q _ => ∃ (z : Str) (m c : Int), vs = [.str z, .int m, .int c] ∧ z.length ≤ 200 ∧ ∀ H' (y : Str), Same H H' → y.length ≤ 600 → Q (.str y) H'
def spSame : Sp := fun vs H Q _ => ∃ (x y : V) (s : Sec), vs = [x, y] ∧ SecAt H x s ∧ SecAt H y s ∧ ∀ H', Same H H' → Q (.bl true) H'
section
variable {P : Program} {w : World} {K : PySem.W.Frag} {mg : Str → Option Value} {base : Heap}
theorem c_is_generation (T : Txt K mg) : Cal P w K mg base 2 "is_generation" (spStrB K gnL) [] := by
  have c_is_decimal := c_is_decimal (P := P) (w := w) (base := base) T
  refine cal T.d_is_generation sc_is_generation (fun vs H Q E h => ?_) (fun f cdv A' outer s H vs Q E hr h => ?_)
  · obtain ⟨z, rfl, _⟩ := h; rfl
  obtain ⟨z, rfl, hz, q⟩ := h
  refine ⟨_, (pss_one (ps_ret (pe_and (pe_c c_is_decimal hr (by decide) (by rfl) (pa_cons (pv 0) pa_nil)) (pe_one (pe_cmpR op_ne (pv 0) pe_str (nomark _)))))), ?_⟩
  walk_at "rds"
  refine ⟨by omega, fun H1 s1 => ?_⟩
  have q := q H1 s1
  unfold gnL at q
  walk_at "rds"
  cases hd : dcL z.cps.toList with
  | false =>
    rw [hd] at q
    refine ifF rfl ?_
    exact q
  | true =>
    rw [hd, Bool.true_and] at q
    refine ifT rfl ?_
    walk_at "rds"
    have e3 : (!decide (V.str z = V.str (Str.ofString "0"))) = (!(z.cps.toList == [48])) := by
      congr 1
      by_cases h : z.cps.toList = [48]
      · rw [decide_eq_true (congrArg V.str (str_eq_l.mpr (h.trans (by decide)))), h]; rfl
      · rw [decide_eq_false (fun e => h (by rw [V.str.inj e]; decide))]
        exact (beq_eq_false_iff_ne.mpr h).symm
    rw [← e3] at q
    exact q
end
theorem secH_len {ls : List (List Nat)} (h : ls.length ≠ 3) : secH ls = .none := by
  match ls, h with
  | [], _ => rfl
  | [_], _ => rfl
  | [_, _], _ => rfl
  | [_, _, _], h => exact absurd rfl h
  | _ :: _ :: _ :: _ :: _, _ => rfl
theorem secP_len {ls : List (List Nat)} (h : ls.length ≠ 5) : secP ls = .none := by
  match ls, h with
  | [], _ => rfl
  | [_], _ => rfl
  | [_, _], _ => rfl
  | [_, _, _], _ => rfl
  | [_, _, _, _], _ => rfl
  | [_, _, _, _, _], h => exact absurd rfl h
  | _ :: _ :: _ :: _ :: _ :: _ :: _, _ => rfl
theorem wrd_eq {a : List Nat} {z : Str} : decide (wrd a = V.str z) = decide (a = z.cps.toList) := by
  apply decide_eq_decide.mpr
  constructor
  · intro h
    have := V.str.inj h
    rw [← this]
  · intro h
    exact congrArg V.str (str_eq_l.mpr h)
theorem eqw (z : Str) (a : List Nat) : eqV (.str z) (wrd a) = decide (a = z.cps.toList) := by
  show (z == (⟨a.toArray⟩ : Str)) = _
  by_cases h : a = z.cps.toList
  · rw [decide_eq_true h, str_eq_l.mpr (show z.cps.toList = (⟨a.toArray⟩ : Str).cps.toList from h.symm)]
    exact beq_self_eq_true _
  · rw [decide_eq_false h]
    exact beq_eq_false_iff_ne.mpr fun e => h (by rw [e])
theorem in01 (a : List Nat) : inV (wrd a) [.str (Str.ofString "0"), .str (Str.ofString "1")] = decide (a = [48] ∨ a = [49]) := by
  show (eqV _ _ || (eqV _ _ || false)) = _
  rw [eqw, eqw, Bool.or_false, ← Bool.decide_or]
  rfl
theorem dig_mem (c : Nat) : decide (c ∈ (Str.ofString "0123456789").cps.toList) = dg c := by
  by_cases hc : c < 128
  · exact (show ∀ c : Fin 128, decide (c.val ∈ (Str.ofString "0123456789").cps.toList) = dg c.val by decide +kernel) ⟨c, hc⟩
  · rw [decide_eq_false (fun m => hc ((show ∀ c ∈ (Str.ofString "0123456789").cps.toList, c < 128 by decide +kernel) c m))]
    cases e : dg c with
    | false => rfl
    | true => exact absurd (by have := dg_lt e; omega) hc
theorem wl (l : List Nat) : (⟨l.toArray⟩ : Str).length = l.length := by show l.toArray.size = _; rw [List.size_toArray]
theorem digit_int {l : List Nat} (h : dcL l = true) (hl : l.length ≤ 96) : PySem.intText? (⟨l.toArray⟩ : Str) = some (dvL l : Int) ∧ (⟨l.toArray⟩ : Str).length ≤ 640 := by
  obtain ⟨d1, d2, d3⟩ := dcL_iff.mp h
  exact ⟨PySem.intText_digits (x := ⟨l.toArray⟩) d2 d1 (by rw [wl]; omega), by rw [wl]; omega⟩
section
variable {P : Program} {w : World} {K : PySem.W.Frag} {mg : Str → Option Value} {base : Heap}
theorem c_parse_head (T : Txt K mg) : Cal P w K mg base 3 "parse_head" (spWords secH) [] := by
  have c_is_generation := c_is_generation (P := P) (w := w) (base := base) T
  refine cal T.d_parse_head sc_parse_head (fun vs H Q E h => ?_) (fun f cdv A' outer s H vs Q E hr h => ?_)
  · obtain ⟨b, ls, rfl, _⟩ := h; rfl
  obtain ⟨b, ls, rfl, hb, hs, hn, q⟩ := h
  refine ⟨_, (pss_cons (ps_if (PW.pt (pw_or (pt_cmpR op_ne (pe_callB (klen (K := K)) (by rfl) T.z_len (by decide +kernel) (pa_cons (pv 0) pa_nil)) pe_int (nomark _)) (pw_or (pt_not (pt_val (pe_c c_is_generation hr (by decide) (by rfl) (pa_cons (pe_ix (kixl (K := K)) (pv 0) pe_int (fun _ _ => rfl)) pa_nil)))) (pw_or1 (pt_cmpR (knin (K := K)) (pe_ix (kixl (K := K)) (pv 0) pe_int (fun _ _ => rfl)) (pe_tup (pa_cons pe_str (pa_cons pe_str pa_nil))) (by rfl)))))) (pss_one (ps_ret pe_non)) pss_nil)
      (pss_one (ps_ret (pe_tup (pa_cons pe_str (pa_cons (pe_callTy call_int_str (by rfl) T.z_int (by decide +kernel) (pa_cons (pe_ix (kixl (K := K)) (pv 0) pe_int (fun _ _ => rfl)) pa_nil)) (pa_cons (pe_callTy call_int_str (by rfl) T.z_int (by decide +kernel) (pa_cons (pe_ix (kixl (K := K)) (pv 0) pe_int (fun _ _ => rfl)) pa_nil)) pa_nil))))))), ?_⟩
  walk_at "rds"
  refine ⟨b, _, rfl, .inl (sq hb), ?_⟩
  walk_at "rds"
  rw [List.length_map]
  by_cases h3 : ¬ ls.length = 3
  · rw [secH_len h3] at q
    refine ifT (by rw [decide_eq_false (by intro z; injection z with z; omega)]; rfl) ?_
    walk_at "rds"
    exact q H _ (Same.refl H) rfl
  have h3 := Classical.byContradiction h3
  refine ifF (by rw [decide_eq_true (by rw [h3]; rfl)]; rfl) ?_
  match ls, h3 with
  | [x, g, a], _ =>
  have lg := hs g (by simp)
  have la := hs a (by simp)
  walk_at "rds"
  refine ⟨b, _, (1 : Nat), _, rfl, rfl, sq hb, atI_nat (by rfl), ?_⟩
  refine ⟨_, rfl, by rw [wl]; omega, fun H1 s1 => ?_⟩
  have hb1 := s1 _ _ hb
  have q : ∀ H' v, Same H H' → SecAt H' v (if gnL g = true ∧ (a = [48] ∨ a = [49]) then .head (dvL g) (dvL a) else .none) → Q v H' := q
  walk_at "rds"
  cases hg : gnL g with
  | false =>
    refine ifT rfl ?_
    walk_at "rds"
    exact q H1 _ s1 (by rw [if_neg (by rw [hg]; simp)]; rfl)
  | true =>
  refine ifF rfl ?_
  walk_at "rds"
  refine ⟨b, _, (2 : Nat), _, rfl, rfl, sq hb1, atI_nat (by rfl), ?_⟩
  walk_at "rds"
  refine fun t ht => ⟨t, _, rfl, .inr (.inl (.inl upd_same)), rfl, rfl, ?_⟩
  walk_at "rds"
  by_cases h01 : ¬ (a = [48] ∨ a = [49])
  · refine ifT (by rw [in01, decide_eq_false h01]; rfl) ?_
    walk_at "rds"
    exact q _ _ (s1.trans (same_upd ht)) (by rw [if_neg (fun z => h01 z.2)]; rfl)
  have h01 := Classical.byContradiction h01
  rw [if_pos ⟨hg, h01⟩] at q
  refine ifF (by rw [in01, decide_eq_true h01]; rfl) ?_
  have hb2 : upd H1 t (.tup [.str (Str.ofString "0"), .str (Str.ofString "1")]) b = _ := same_upd ht _ _ hb1
  have s2 : Same H (upd H1 t (.tup [.str (Str.ofString "0"), .str (Str.ofString "1")])) := s1.trans (same_upd ht)
  generalize upd H1 t (.tup [.str (Str.ofString "0"), .str (Str.ofString "1")]) = H2 at hb2 s2 ⊢
  obtain ⟨g1, g2⟩ := digit_int (l := g) (by unfold gnL at hg; rw [Bool.and_eq_true] at hg; exact hg.1) lg
  obtain ⟨a1, a2⟩ := digit_int (l := a) (by rcases h01 with rfl | rfl <;> rfl) la
  walk_at "rds"
  refine ⟨b, _, (1 : Nat), _, rfl, rfl, sq hb2, atI_nat (by rfl), ?_⟩
  refine ⟨_, _, rfl, g1, g2, ?_⟩
  walk_at "rds"
  refine ⟨b, _, (2 : Nat), _, rfl, rfl, sq hb2, atI_nat (by rfl), ?_⟩
  refine ⟨_, _, rfl, a1, a2, ?_⟩
  walk_at "rds"
  exact fun r hr => q _ _ (s2.trans (same_upd hr)) ⟨r, rfl, upd_same⟩
theorem c_parse_piece (T : Txt K mg) : Cal P w K mg base 3 "parse_piece" (spWords secP) [] := by
  have c_is_generation := c_is_generation (P := P) (w := w) (base := base) T
  have c_is_decimal := c_is_decimal (P := P) (w := w) (base := base) T
  refine cal T.d_parse_piece sc_parse_piece (fun vs H Q E h => ?_) (fun f cdv A' outer s H vs Q E hr h => ?_)
  · obtain ⟨b, ls, rfl, _⟩ := h; rfl
  obtain ⟨b, ls, rfl, hb, hs, hn, q⟩ := h
  refine ⟨_, (pss_cons (ps_if (PW.pt (pw_or (pt_cmpR op_ne (pe_callB (klen (K := K)) (by rfl) T.z_len (by decide +kernel) (pa_cons (pv 0) pa_nil)) pe_int (nomark _)) (pw_or (pt_cmpR op_ne (pe_ix (kixl (K := K)) (pv 0) pe_int (fun _ _ => rfl)) pe_str (nomark _)) (pw_or1 (pt_not (pt_val (pe_c c_is_generation hr (by decide) (by rfl) (pa_cons (pe_ix (kixl (K := K)) (pv 0) pe_int (fun _ _ => rfl)) pa_nil)))))))) (pss_one (ps_ret pe_non)) pss_nil)
      (pss_cons (ps_if (PW.pt (pw_or (pt_not (pt_val (pe_c c_is_decimal hr (by decide) (by rfl) (pa_cons (pe_ix (kixl (K := K)) (pv 0) pe_int (fun _ _ => rfl)) pa_nil)))) (pw_or (pt_not (pt_val (pe_c c_is_decimal hr (by decide) (by rfl) (pa_cons (pe_ix (kixl (K := K)) (pv 0) pe_int (fun _ _ => rfl)) pa_nil)))) (pw_or1 (pt_not (pt_chain op_le op_le pe_int (pe_callB call_len_str (by rfl) T.z_len (by decide +kernel) (pa_cons (pe_ix (kixl (K := K)) (pv 0) pe_int (fun _ _ => rfl)) pa_nil)) (pe_gc (by rfl) T.c_PIECE_SIZE))))))) (pss_one (ps_ret pe_non)) pss_nil)
      (pss_one (ps_ret (pe_tup (pa_cons pe_str (pa_cons (pe_callTy call_int_str (by rfl) T.z_int (by decide +kernel) (pa_cons (pe_ix (kixl (K := K)) (pv 0) pe_int (fun _ _ => rfl)) pa_nil)) (pa_cons (pe_callTy call_int_str (by rfl) T.z_int (by decide +kernel) (pa_cons (pe_ix (kixl (K := K)) (pv 0) pe_int (fun _ _ => rfl)) pa_nil)) (pa_cons (pe_callTy call_int_str (by rfl) T.z_int (by decide +kernel) (pa_cons (pe_ix (kixl (K := K)) (pv 0) pe_int (fun _ _ => rfl)) pa_nil)) (pa_cons (pe_ix (kixl (K := K)) (pv 0) pe_int (fun _ _ => rfl)) pa_nil)))))))))), ?_⟩
  walk_at "rds"
  refine ⟨b, _, rfl, .inl (sq hb), ?_⟩
  walk_at "rds"
  rw [List.length_map]
  by_cases h3 : ¬ ls.length = 5
  · rw [secP_len h3] at q
    refine ifT (by rw [decide_eq_false (by intro z; injection z with z; omega)]; rfl) ?_
    walk_at "rds"
    exact q H _ (Same.refl H) rfl
  have h3 := Classical.byContradiction h3
  refine ifF (by rw [decide_eq_true (by rw [h3]; rfl)]; rfl) ?_
  match ls, h3 with
  | [x, g, p, l, z], _ =>
  have lg := hs g (by simp)
  have lp := hs p (by simp)
  have ll := hs l (by simp)
  have lz := hs z (by simp)
  have q : ∀ H' v, Same H H' → SecAt H' v (if x = [80] ∧ gnL g = true ∧ dcL p = true ∧ dcL l = true ∧ 1 ≤ z.length ∧ z.length ≤ 40 then .piece (dvL g) (dvL p) (dvL l) z else .none) → Q v H' := q
  walk_at "rds"
  refine ⟨b, _, (0 : Nat), _, rfl, rfl, sq hb, atI_nat (by rfl), ?_⟩
  walk_at "rds"
  by_cases hx : ¬ x = [80]
  · refine ifT (by rw [wrd_eq, show decide (x = (Str.ofString "P").cps.toList) = false from decide_eq_false hx]; rfl) ?_
    walk_at "rds"
    exact q _ _ (Same.refl _) (by rw [if_neg (fun z => hx z.1)]; rfl)
  have hx := Classical.byContradiction hx
  refine ifF (by rw [wrd_eq, show decide (x = (Str.ofString "P").cps.toList) = true from decide_eq_true hx]; rfl) ?_
  walk_at "rds"
  refine ⟨b, _, (1 : Nat), _, rfl, rfl, sq hb, atI_nat (by rfl), ?_⟩
  refine ⟨_, rfl, by rw [wl]; omega, fun H1 s1 => ?_⟩
  have hb1 := s1 _ _ hb
  walk_at "rds"
  cases hg : gnL g with
  | false =>
    refine ifT rfl ?_
    walk_at "rds"
    exact q H1 _ s1 (by rw [if_neg (fun z => by have := z.2.1; rw [hg] at this; cases this)]; rfl)
  | true =>
  refine ifF rfl ?_
  walk_at "rds"
  refine ⟨b, _, (2 : Nat), _, rfl, rfl, sq hb1, atI_nat (by rfl), ?_⟩
  refine ⟨_, rfl, by rw [wl]; omega, fun H2 s2 => ?_⟩
  have hb2 := s2 _ _ hb1
  have s12 := s1.trans s2
  walk_at "rds"
  cases hp : dcL p with
  | false =>
    refine ifT rfl ?_
    walk_at "rds"
    exact q H2 _ s12 (by rw [if_neg (fun z => by have := z.2.2.1; rw [hp] at this; cases this)]; rfl)
  | true =>
  refine ifF rfl ?_
  walk_at "rds"
  refine ⟨b, _, (3 : Nat), _, rfl, rfl, sq hb2, atI_nat (by rfl), ?_⟩
  refine ⟨_, rfl, by rw [wl]; omega, fun H3 s3 => ?_⟩
  have hb3 := s3 _ _ hb2
  have s13 := s12.trans s3
  walk_at "rds"
  cases hl : dcL l with
  | false =>
    refine ifT rfl ?_
    walk_at "rds"
    exact q H3 _ s13 (by rw [if_neg (fun z => by have := z.2.2.2.1; rw [hl] at this; cases this)]; rfl)
  | true =>
  refine ifF rfl ?_
  walk_at "rds"
  refine ⟨b, _, (4 : Nat), _, rfl, rfl, sq hb3, atI_nat (by rfl), ?_⟩
  walk_at "rds"
  refine ⟨by rw [wl]; exact sz1000 (by omega), ?_⟩
  walk_at "rds"
  by_cases hz : ¬ (1 ≤ z.length ∧ z.length ≤ 40)
  · have e : Q .non H3 := q _ _ s13 (by rw [if_neg (fun y => hz y.2.2.2.2)]; rfl)
    by_cases z1 : 1 ≤ z.length
    · refine ifT (decide_eq_true (by rw [wl]; omega)) ?_
      walk_at "rds"
      refine ifT (by rw [decide_eq_false (by rw [wl]; omega)]; rfl) ?_
      walk_at "rds"
      exact e
    · refine ifF (decide_eq_false (by rw [wl]; omega)) ?_
      walk_at "rds"
      exact e
  have hz := Classical.byContradiction hz
  refine ifT (decide_eq_true (by rw [wl]; omega)) ?_
  walk_at "rds"
  refine ifF (by rw [decide_eq_true (by rw [wl]; omega)]; rfl) ?_
  rw [if_pos ⟨hx, hg, hp, hl, hz.1, hz.2⟩] at q
  obtain ⟨g1, g2⟩ := digit_int (l := g) (by unfold gnL at hg; rw [Bool.and_eq_true] at hg; exact hg.1) lg
  obtain ⟨p1, p2⟩ := digit_int hp lp
  obtain ⟨l1, l2⟩ := digit_int hl ll
  walk_at "rds"
  refine ⟨b, _, (1 : Nat), _, rfl, rfl, sq hb3, atI_nat (by rfl), ?_⟩
  refine ⟨_, _, rfl, g1, g2, ?_⟩
  walk_at "rds"
  refine ⟨b, _, (2 : Nat), _, rfl, rfl, sq hb3, atI_nat (by rfl), ?_⟩
  refine ⟨_, _, rfl, p1, p2, ?_⟩
  walk_at "rds"
  refine ⟨b, _, (3 : Nat), _, rfl, rfl, sq hb3, atI_nat (by rfl), ?_⟩
  refine ⟨_, _, rfl, l1, l2, ?_⟩
  walk_at "rds"
  refine ⟨b, _, (4 : Nat), _, rfl, rfl, sq hb3, atI_nat (by rfl), ?_⟩
  walk_at "rds"
  exact fun r hr => q _ _ (s13.trans (same_upd hr)) ⟨r, rfl, upd_same⟩
theorem starts2 (z : Str) : Txt.startswith z (Str.ofString "H ") = decide (z.cps.toList.take 2 = [72, 32]) := by
  show (decide (0 + (Str.ofString "H ").length ≤ z.length) && PySem.Builtin.Str.subAt z (Str.ofString "H ") 0) = _
  rw [PySem.StrLaws.subAt_eq, List.drop_zero, show (Str.ofString "H ").length = 2 from rfl, show (Str.ofString "H ").cps.toList = [72, 32] from by decide]
  by_cases h : z.cps.toList.take 2 = [72, 32]
  · have hl := congrArg List.length h
    rw [List.length_take, len_tl] at hl
    have hl : min 2 z.length = 2 := hl
    rw [decide_eq_true h, h, decide_eq_true (by omega)]; rfl
  · rw [decide_eq_false h, beq_eq_false_iff_ne.mpr h, Bool.and_false]
theorem split_wrd (z : Str) : ((Txt.split z (Str.ofString " ")).map V.str) = (spA 32 z.cps.toList).map wrd := by
  have h := of_tl ((split_tl z 32).trans (spN_all (by rw [len_tl]; omega)))
  rw [show Str.ofString " " = ⟨#[32]⟩ from by decide, h, List.map_map]; rfl
theorem split4_wrd (z : Str) : ((Txt.splitMax z (Str.ofString " ") 4).map V.str) = (limL 32 4 (spA 32 z.cps.toList)).map wrd := by
  have h := of_tl ((splitMax_tl z 32 4).trans (spN_lim 32 4 z.cps.toList))
  rw [show Str.ofString " " = ⟨#[32]⟩ from by decide, h, List.map_map]; rfl
theorem c_parse_sector (T : Txt K mg) : Cal P w K mg base 4 "parse_sector" spSec [] := by
  have c_parse_head := c_parse_head (P := P) (w := w) (K := K) (base := base) T
  have c_parse_piece := c_parse_piece (P := P) (w := w) (K := K) (base := base) T
  refine cal T.d_parse_sector sc_parse_sector (fun vs H Q E h => ?_) (fun f cdv A' outer s H vs Q E hr h => ?_)
  · obtain ⟨z, rfl, _⟩ := h; rfl
  obtain ⟨z, rfl, hz, q⟩ := h
  refine ⟨_, (pss_cons (ps_if (pt_cmpR op_gt (pe_callB call_len_str (by rfl) T.z_len (by decide +kernel) (pa_cons (pv 0) pa_nil)) (pe_gc (by rfl) T.c_SECTOR_SIZE) (nomark _)) (pss_one (ps_ret pe_non)) pss_nil)
      (pss_cons (ps_if (pt_val (pe_bm PySem.F.plainAttrs_str PySem.F.slot_str_startswith PySem.F.type_str_startswith mt_startswith (pv 0) (pa_cons pe_str pa_nil))) (pss_one (ps_ret (pe_c c_parse_head hr (by decide) (by rfl) (pa_cons (pe_split (pv 0) pe_str) pa_nil)))) pss_nil)
      (pss_one (ps_ret (pe_c c_parse_piece hr (by decide) (by rfl) (pa_cons (pe_bm PySem.F.plainAttrs_str PySem.F.slot_str_split PySem.F.type_str_split mt_splitMax (pv 0) (pa_cons pe_str (pa_cons pe_int pa_nil))) pa_nil)))))), ?_⟩
  have lz := len_tl z
  walk_at "rds"
  unfold sec at q
  by_cases h96 : 96 < z.length
  · rw [if_pos (by omega)] at q
    refine ifT (decide_eq_true (by omega)) ?_
    walk_at "rds"
    exact q H _ (Same.refl H) rfl
  rw [if_neg (by omega)] at q
  refine ifF (decide_eq_false (by omega)) ?_
  walk_at "rds"
  refine ⟨rfl, ?_⟩
  walk_at "rds"
  refine ⟨_, _, rfl, rfl, ?_⟩
  walk_at "rds"
  rw [starts2]
  unfold secS at q
  by_cases h2 : z.cps.toList.take 2 = [72, 32]
  · rw [if_pos h2] at q
    refine ifT (decide_eq_true h2) ?_
    walk_at "rds"
    have sl := sizeLine_eq
    refine ⟨_, _, rfl, rfl, rfl, by omega, fun p hp => ?_⟩
    rw [split_wrd]
    delta tNil
    have sh := spA_short 32 z.cps.toList
    have sn := spA_len 32 z.cps.toList
    exact ⟨p, _, rfl, upd_same, fun l hl => by have := sh l hl; omega, by omega, fun H' v s' hv => q H' v ((same_upd hp).trans s') hv⟩
  · rw [if_neg h2] at q
    refine ifF (decide_eq_false h2) ?_
    walk_at "rds"
    have sl := sizeLine_eq
    refine ⟨rfl, ?_⟩
    walk_at "rds"
    refine ⟨_, _, _, rfl, rfl, rfl, by decide, by decide, by omega, fun p hp => ?_⟩
    rw [split4_wrd]
    delta tNil
    have sh := limL_short 32 4 (spA 32 z.cps.toList)
    rw [jnL_spA] at sh
    have sn := limL_len 32 4 (spA 32 z.cps.toList)
    exact ⟨p, _, rfl, upd_same, fun l hl => by have := sh l hl; omega, by omega, fun H' v s' hv => q H' v ((same_upd hp).trans s') hv⟩
theorem c__law_number (T : Txt K mg) : Cal P w K mg base 1 "_law_number" spNumber [] := by
  refine cal T.d__law_number sc__law_number (fun vs H Q E h => ?_) (fun f cdv A' outer s H vs Q E hr h => ?_)
  · obtain ⟨z, rfl, _⟩ := h; rfl
  obtain ⟨z, rfl, hz, q⟩ := h
  refine ⟨_, (pss_cons (ps_if (PW.pt (pw_or (pt_cmpR op_eq (pv 0) pe_str (nomark _)) (pw_or1 (PW.pt (pw_and (pt_cmpR op_eq (pe_ix ix_str (pv 0) pe_int (fun _ _ => rfl)) pe_str (nomark _)) (pw_and1 (pt_cmpR op_gt (pe_callB call_len_str (by rfl) T.z_len (by decide +kernel) (pa_cons (pv 0) pa_nil)) pe_int (nomark _)))))))) (pss_one (ps_ret pe_non)) pss_nil)
      (pss_cons (ps_for PassesOwn.never rfl (pi_str (pv 0)) (pg_name (i := 1) sc__law_number.nd rfl (Or.inl rfl)) (pss_one (ps_if (pt_cmpR op_notInS (pv 1) pe_str (by rfl)) (pss_one (ps_ret pe_non)) pss_nil)))
      (pss_one (ps_ret (pe_callTy call_int_str (by rfl) T.z_int (by decide +kernel) (pa_cons (pv 0) pa_nil)))))), ?_⟩
  have lz := len_tl z
  walk_at "rds"
  have e0 : decide (V.str z = V.str (Str.ofString "")) = decide (z.cps.toList = []) := by
    apply decide_eq_decide.mpr
    constructor
    · intro h; rw [V.str.inj h]; rfl
    · intro h; exact congrArg V.str (str_eq_l.mpr h)
  have l0 : (Str.ofString "0").cps.toList = [48] := by decide
  rw [e0]
  cases hc : z.cps.toList with
  | nil =>
    rw [hc] at q
    refine ifT rfl ?_
    walk_at "rds"
    exact q
  | cons c r =>
  refine ifF rfl ?_
  have hl : r.length + 1 = z.length := by rw [← lz, hc]; rfl
  have h0 : atI z.cps.toList 0 = some c := atI_nat (j := 0) (by rw [hc]; rfl)
  walk_at "rds"
  refine ⟨z, _, c, rfl, rfl, sz1000 (by omega), h0, ?_⟩
  walk_at "rds"
  have e2 : decide (V.str ⟨#[c]⟩ = V.str (Str.ofString "0")) = decide (c = 48) := by
    apply decide_eq_decide.mpr
    constructor
    · intro h
      have := congrArg (fun v => match v with | V.str s => s.cps.toList | _ => []) h
      have : [c] = [48] := this
      simpa using this
    · rintro rfl; rfl
  rw [e2]
  rw [hc] at q
  by_cases hb : c = 48 ∧ r ≠ []
  · obtain ⟨rfl, hr⟩ := hb
    have hr2 : r.length ≠ 0 := fun h => hr (List.eq_nil_of_length_eq_zero h)
    refine ifT rfl ?_
    walk_at "rds"
    refine ifT (decide_eq_true (by omega)) ?_
    walk_at "rds"
    have e : dcL (48 :: r) = false := by
      cases hd : dcL (48 :: r) with
      | false => rfl
      | true =>
        rcases (dcL_iff.mp hd).2.2 with h | h
        · injection h with _ h; exact absurd h hr
        · exact absurd rfl h
    rw [e] at q
    exact q
  have hq : dcL (c :: r) = (c :: r).all dg := by
    unfold dcL
    have : ((c :: r == [48]) || (c :: r).head? != some 48) = true := by
      rw [Bool.or_eq_true]
      by_cases c48 : c = 48
      · have : r = [] := Classical.byContradiction fun h => hb ⟨c48, h⟩
        left; rw [c48, this]; rfl
      · right; simpa using c48
    rw [this, Bool.and_true]; rfl
  have lr : c = 48 → z.length = 1 := fun c48 => by
    have : r = [] := Classical.byContradiction fun h => hb ⟨c48, h⟩
    rw [this] at hl; simp only [List.length_nil] at hl; omega
  rcases Classical.em (c = 48) with c48 | c48
  all_goals first
    | (refine ifT (decide_eq_true c48) ?_; walk_at "rds"; refine ifF (decide_eq_false (by have := lr c48; omega)) ?_)
    | refine ifF (decide_eq_false c48) ?_
  all_goals
    walk_at "rds"
    refine for_it walk_str (Pv := fun i σ H' => H' = H ∧ ∃ (y : Option V), σ = [some (.str z), y] ∧ z.cps.toList.all dg = (z.cps.toList.drop i).all dg) ⟨rfl, _, rfl, rfl⟩ (fun _ _ _ _ _ => trivial) (fun i x σ H1 H2 hi hp hy => ?_) (fun σ H1 hp => ?_)
    · obtain ⟨rfl, y, rfl, eq⟩ := hp
      obtain ⟨rfl, d, gc, rfl⟩ := hy
      have gc : z.cps.toList[i]? = some d := by rw [Array.getElem?_toList]; exact gc
      have hid : i < z.cps.toList.length := (List.getElem?_eq_some_iff.mp gc).1
      rw [List.drop_eq_getElem_cons hid] at eq
      rw [List.getElem?_eq_getElem hid] at gc
      rw [Option.some.inj gc] at eq
      have eq : z.cps.toList.all dg = (dg d && (z.cps.toList.drop (i + 1)).all dg) := eq
      walk_at "rds"
      cases e : dg d with
      | false =>
        refine ifT (by rw [dig_mem, e]; rfl) ?_
        rw [hq, ← hc, eq, e] at q
        exact q
      | true =>
        refine ifF (by rw [dig_mem, e]; rfl) ?_
        exact ⟨rfl, _, rfl, by rw [eq, e, Bool.true_and]⟩
    · obtain ⟨rfl, y, rfl, eq⟩ := hp
      rw [List.drop_of_length_le (by rw [Array.length_toList]; exact Nat.le_refl _)] at eq
      have hd : dcL (c :: r) = true := by rw [hq, ← hc, eq]; rfl
      obtain ⟨d1, d2⟩ := digit_int (l := c :: r) hd (by simp only [List.length_cons]; omega)
      have ez : (⟨(c :: r).toArray⟩ : Str) = z := str_eq_l.mpr hc.symm
      rw [ez] at d1 d2
      walk_at "rds"
      rw [hd] at q
      exact ⟨_, _, rfl, d1, d2, q⟩
end

def spCell (K : PySem.W.Frag) : Sp := fun vs H Q _ => ∃ (a : Addr) (ns : List Int) (k : Nat), vs = [.ref a, .int k] ∧ SqL K H a (ns.map V.int) ∧ Q (.int (ns.getD k 0)) H
theorem cutV_mid {xs : List V} {i e : Nat} (h : i ≤ e) : cutV xs (some (i : Int)) (some (e : Int)) = (xs.drop i).take (e - i) := by
  unfold cutV
  rw [HT.sIx_nat, HT.sIx_nat]
  by_cases g : i ≤ xs.length
  · rw [Nat.min_eq_left g]
    by_cases g2 : e ≤ xs.length
    · rw [Nat.min_eq_left g2]
    · rw [Nat.min_eq_right (by omega), List.take_of_length_le (by rw [List.length_drop]; omega), List.take_of_length_le (by rw [List.length_drop]; omega)]
  · rw [show min i xs.length = xs.length from Nat.min_eq_right (by omega), List.drop_of_length_le (Nat.le_refl _), List.drop_of_length_le (by omega), List.take_nil, List.take_nil]
theorem cutV_from {xs : List V} {i : Nat} : cutV xs (some (i : Int)) none = xs.drop i := by
  unfold cutV
  rw [HT.sIx_none, HT.sIx_nat]
  by_cases g : i ≤ xs.length
  · rw [Nat.min_eq_left g, List.take_of_length_le (by rw [List.length_drop]; omega)]
  · rw [show min i xs.length = xs.length from Nat.min_eq_right (by omega), List.drop_of_length_le (Nat.le_refl _), List.drop_of_length_le (by omega), List.take_nil]
def nv (l : List Nat) : V := if dcL l = true then .int (dvL l) else .non
theorem in_nv (g p l : List Nat) : inV .non [nv g, nv p, nv l] = !(dcL g && dcL p && dcL l) := by
  unfold nv
  cases dcL g <;> cases dcL p <;> cases dcL l <;> rfl
theorem flat_nv (g p l : List Nat) : [nv g, nv p, nv l].all flatV = true := by
  unfold nv
  cases dcL g <;> cases dcL p <;> cases dcL l <;> rfl
theorem secQ_hd {x : List Nat} {t : List (List Nat)} (h : ¬ x = [80]) : secQ (x :: t) = .none := by
  match t with
  | [] => rfl
  | [_] => rfl
  | [_, _] => rfl
  | [g, p, l] => rfl
  | g :: p :: l :: y :: r =>
    show (if y :: r = [] then Sec.none else secP [x, g, p, l, jnL 32 (y :: r)]) = _
    rw [if_neg (by simp)]
    exact if_neg (fun z => h z.1)
theorem dv_zero {g : List Nat} (h : dcL g = true) : (dvL g : Int) < 1 ↔ g = [48] := by
  constructor
  · intro h0
    have e : dvL g = 0 := by omega
    rw [← dcL_num h]
    show TL.numL (dvL g) = [48]
    rw [e]; exact TL.numL_lt (by decide)
  · rintro rfl; decide
theorem len_app2 (a b : Str) : (a ++ b).length = a.length + b.length := Str.length_append a b
theorem numS {n : Nat} (h : n ≤ 10 ^ 19) : (n : Int).natAbs.log2 < 1920 ∧ (Str.ofString (toString (n : Int))).length ≤ 20 ∧ (Str.ofString (toString (n : Int))).cps.toList = TL.numL n := by
  have tt : (Str.ofString (toString (n : Int))).cps.toList = TL.numL n := TL.tl_num n
  refine ⟨?_, ?_, tt⟩
  · by_cases h0 : n = 0
    · subst h0; decide
    · exact (Nat.log2_lt (by omega)).mpr (Nat.lt_of_le_of_lt (show (n : Int).natAbs ≤ 10 ^ 19 by omega) (by decide +kernel))
  · rw [← len_tl, tt]
    exact TL.numL_len (k := 20) (by decide) (Nat.lt_of_le_of_lt h (by decide))
section
variable {P : Program} {w : World} {K : PySem.W.Frag} {mg : Str → Option Value} {base : Heap}
theorem c__law_parse (T : Txt K mg) : Cal P w K mg base 2 "_law_parse" spSec [] := by
  have c__law_number := c__law_number (P := P) (w := w) (K := K) (base := base) T
  refine cal T.d__law_parse sc__law_parse (fun vs H Q E h => ?_) (fun f cdv A' outer s H vs Q E hr h => ?_)
  · obtain ⟨z, rfl, _⟩ := h; rfl
  obtain ⟨z, rfl, hz, q⟩ := h
  refine ⟨_, (pss_cons (ps_if (pt_cmpR op_gt (pe_callB call_len_str (by rfl) T.z_len (by decide +kernel) (pa_cons (pv 0) pa_nil)) pe_int (nomark _)) (pss_one (ps_ret pe_non)) pss_nil)
      (pss_cons (ps_set (i := 1) sc__law_parse.nd rfl (Or.inl rfl) (pe_split (pv 0) pe_str))
      (pss_cons (ps_if (pt_cmpR op_eq (pe_ix (kixl (K := K)) (pv 1) pe_int (fun _ _ => rfl)) pe_str (nomark _)) (pss_cons (ps_if (pt_cmpR op_ne (pe_callB (klen (K := K)) (by rfl) T.z_len (by decide +kernel) (pa_cons (pv 1) pa_nil)) pe_int (nomark _)) (pss_one (ps_ret pe_non)) pss_nil)
      (pss_cons (ps_set (i := 2) sc__law_parse.nd rfl (Or.inl rfl) (pe_c c__law_number hr (by decide) (by rfl) (pa_cons (pe_ix (kixl (K := K)) (pv 1) pe_int (fun _ _ => rfl)) pa_nil)))
      (pss_cons (ps_if (PW.pt (pw_or (pt_cmpR op_isN (pv 2) pe_non (nomark _)) (pw_or (pt_cmpR op_lt (pv 2) pe_int (nomark _)) (pw_or1 (pt_cmpR (knin (K := K)) (pe_ix (kixl (K := K)) (pv 1) pe_int (fun _ _ => rfl)) (pe_lst (pa_cons pe_str (pa_cons pe_str pa_nil))) (by rfl)))))) (pss_one (ps_ret pe_non)) pss_nil)
      (pss_one (ps_ret (pe_tup (pa_cons pe_str (pa_cons (pv 2) (pa_cons (pe_callTy call_int_str (by rfl) T.z_int (by decide +kernel) (pa_cons (pe_ix (kixl (K := K)) (pv 1) pe_int (fun _ _ => rfl)) pa_nil)) pa_nil))))))))) pss_nil)
      (pss_cons (ps_if (PW.pt (pw_or (pt_cmpR op_ne (pe_ix (kixl (K := K)) (pv 1) pe_int (fun _ _ => rfl)) pe_str (nomark _)) (pw_or1 (pt_cmpR op_lt (pe_callB (klen (K := K)) (by rfl) T.z_len (by decide +kernel) (pa_cons (pv 1) pa_nil)) pe_int (nomark _))))) (pss_one (ps_ret pe_non)) pss_nil)
      (pss_cons (ps_setLc (i := 3) (own := [("part", 5)]) (g := gName 5) rfl sc__law_parse.nd rfl rfl (sw_true rfl rfl rfl (by decide +kernel)) (pi_list (pe_slice (ksll (K := K)) (pv 1) (po_some pe_int) (po_some pe_int))) (blkOk_by (own := [("part", 5)]) (N := ["text", "parts", "generation", "numbers", "payload", "part"]) (sc := defScope s__law_parse) (by decide +kernel)) (fun _ _ _ _ _ => pg_name (i := 5) sc__law_parse.nd rfl (Or.inl rfl)) (fun _ _ _ _ _ => pts_nil) (fun _ _ _ _ _ => (pe_c c__law_number hr (by decide) (by rfl) (pa_cons (pv 5) pa_nil))))
      (pss_cons (ps_set (i := 4) sc__law_parse.nd rfl (Or.inl rfl) (pe_join pe_str (pe_slice (ksll (K := K)) (pv 1) (po_some pe_int) po_none)))
      (pss_cons (ps_if (PW.pt (pw_or (pt_cmpR (kin (K := K)) pe_non (pv 3) (by rfl)) (pw_or (pt_cmpR op_lt (pe_ix (kixl (K := K)) (pv 3) pe_int (fun _ _ => rfl)) pe_int (nomark _)) (pw_or1 (pt_not (pt_chain op_le op_le pe_int (pe_callB call_len_str (by rfl) T.z_len (by decide +kernel) (pa_cons (pv 4) pa_nil)) pe_int)))))) (pss_one (ps_ret pe_non)) pss_nil)
      (pss_one (ps_ret (pe_tup (pa_cons pe_str (pa_cons (pe_ix (kixl (K := K)) (pv 3) pe_int (fun _ _ => rfl)) (pa_cons (pe_ix (kixl (K := K)) (pv 3) pe_int (fun _ _ => rfl)) (pa_cons (pe_ix (kixl (K := K)) (pv 3) pe_int (fun _ _ => rfl)) (pa_cons (pv 4) pa_nil))))))))))))))), ?_⟩
  have lz := len_tl z
  walk_at "rds"
  unfold sec at q
  by_cases h96 : 96 < z.length
  · rw [if_pos (by omega)] at q
    refine ifT (decide_eq_true (by omega)) ?_
    walk_at "rds"
    exact q H _ (Same.refl H) rfl
  rw [if_neg (by omega), secS_law] at q
  refine ifF (decide_eq_false (by omega)) ?_
  walk_at "rds"
  have sl := sizeLine_eq
  refine ⟨_, _, rfl, rfl, rfl, by omega, fun b hb => ?_⟩
  rw [split_wrd]
  have sh := spA_short 32 z.cps.toList
  have sn := spA_len 32 z.cps.toList
  have sj := jnL_len_sum 32 (spA 32 z.cps.toList)
  rw [jnL_spA] at sj
  have jz := jnL_spA 32 z.cps.toList
  obtain ⟨x, t, e⟩ := spA_ne 32 z.cps.toList
  rw [e] at q sh sn sj jz ⊢
  have s1 : Same H (upd H b (.lst ((x :: t).map wrd))) := same_upd hb
  have hb1 : upd H b (.lst ((x :: t).map wrd)) b = some (.lst ((x :: t).map wrd)) := upd_same
  generalize upd H b (.lst ((x :: t).map wrd)) = H1 at s1 hb1 ⊢
  walk_at "rds"
  refine ⟨b, _, (0 : Nat), _, rfl, rfl, sq hb1, atI_nat (by rfl), ?_⟩
  walk_at "rds"
  have hH : (Str.ofString "H").cps.toList = [72] := by decide
  by_cases hx : x = [72]
  · refine ifT (by rw [wrd_eq, hH]; exact decide_eq_true hx) ?_
    have q : ∀ H' v, Same H H' → SecAt H' v (secH (x :: t)) → Q v H' := by rw [hx] at q ⊢; exact q
    walk_at "rds"
    refine ⟨b, _, rfl, .inl (sq hb1), ?_⟩
    walk_at "rds"
    rw [List.length_map]
    by_cases h3 : ¬ (x :: t).length = 3
    · rw [secH_len h3] at q
      refine ifT (by rw [decide_eq_false (by intro z; injection z with z; omega)]; rfl) ?_
      walk_at "rds"
      exact q _ _ s1 rfl
    have h3 := Classical.byContradiction h3
    refine ifF (by rw [decide_eq_true (by rw [h3]; rfl)]; rfl) ?_
    match t, h3 with
    | [g, a], _ =>
    have lg := sh g (by simp)
    have la := sh a (by simp)
    have q : ∀ H' v, Same H H' → SecAt H' v (if gnL g = true ∧ (a = [48] ∨ a = [49]) then .head (dvL g) (dvL a) else .none) → Q v H' := q
    walk_at "rds"
    refine ⟨b, _, (1 : Nat), _, rfl, rfl, sq hb1, atI_nat (by rfl), ?_⟩
    refine ⟨_, rfl, by rw [wl]; omega, ?_⟩
    rw [show (⟨g.toArray⟩ : Str).cps.toList = g from rfl]
    cases hd : dcL g with
    | false =>
      walk_at "rds"
      refine ifT rfl ?_
      walk_at "rds"
      exact q _ _ s1 (by rw [if_neg (fun z => by have := z.1; unfold gnL at this; rw [hd] at this; cases this)]; rfl)
    | true =>
    walk_at "rds"
    by_cases g0 : g = [48]
    · refine ifT (decide_eq_true ((dv_zero hd).mpr g0)) ?_
      walk_at "rds"
      exact q _ _ s1 (by rw [if_neg (fun z => by have := z.1; rw [g0] at this; cases this)]; rfl)
    refine ifF (decide_eq_false (fun z => g0 ((dv_zero hd).mp z))) ?_
    have hg : gnL g = true := by unfold gnL; rw [hd, beq_eq_false_iff_ne.mpr g0]; rfl
    walk_at "rds"
    refine ⟨b, _, (2 : Nat), _, rfl, rfl, sq hb1, atI_nat (by rfl), ?_⟩
    walk_at "rds"
    refine fun r hr => ⟨r, _, rfl, .inl (sq upd_same), rfl, rfl, ?_⟩
    walk_at "rds"
    have hb2 := same_upd (o := .lst [.str (Str.ofString "0"), .str (Str.ofString "1")]) hr _ _ hb1
    have s2 := s1.trans (same_upd (o := .lst [.str (Str.ofString "0"), .str (Str.ofString "1")]) hr)
    by_cases h01 : ¬ (a = [48] ∨ a = [49])
    · refine ifT (by rw [in01, decide_eq_false h01]; rfl) ?_
      walk_at "rds"
      exact q _ _ s2 (by rw [if_neg (fun z => h01 z.2)]; rfl)
    have h01 := Classical.byContradiction h01
    rw [if_pos ⟨hg, h01⟩] at q
    refine ifF (by rw [in01, decide_eq_true h01]; rfl) ?_
    obtain ⟨a1, a2⟩ := digit_int (l := a) (by rcases h01 with rfl | rfl <;> rfl) (by omega)
    walk_at "rds"
    refine ⟨b, _, (2 : Nat), _, rfl, rfl, sq hb2, atI_nat (by rfl), ?_⟩
    refine ⟨_, _, rfl, a1, a2, ?_⟩
    walk_at "rds"
    exact fun r hr => q _ _ (s2.trans (same_upd hr)) ⟨r, rfl, upd_same⟩
  · refine ifF (by rw [wrd_eq, hH]; exact decide_eq_false hx) ?_
    have q : ∀ H' v, Same H H' → SecAt H' v (secQ (x :: t)) → Q v H' := by
      unfold secLaw at q
      rw [if_neg (by simpa using hx)] at q
      exact q
    have hP : (Str.ofString "P").cps.toList = [80] := by decide
    walk_at "rds"
    refine ⟨b, _, (0 : Nat), _, rfl, rfl, sq hb1, atI_nat (by rfl), ?_⟩
    walk_at "rds"
    by_cases hp : ¬ x = [80]
    · refine ifT (by rw [wrd_eq, hP, show decide (x = [80]) = false from decide_eq_false hp]; rfl) ?_
      walk_at "rds"
      exact q _ _ s1 (by rw [secQ_hd hp]; rfl)
    have hp := Classical.byContradiction hp
    refine ifF (by rw [wrd_eq, hP, show decide (x = [80]) = true from decide_eq_true hp]; rfl) ?_
    walk_at "rds"
    refine ⟨b, _, rfl, .inl (sq hb1), ?_⟩
    walk_at "rds"
    rw [List.length_map]
    match t with
    | [] =>
      refine ifT rfl ?_
      walk_at "rds"
      exact q _ _ s1 rfl
    | [_] =>
      refine ifT rfl ?_
      walk_at "rds"
      exact q _ _ s1 rfl
    | [_, _] =>
      refine ifT rfl ?_
      walk_at "rds"
      exact q _ _ s1 rfl
    | [_, _, _] =>
      refine ifT rfl ?_
      walk_at "rds"
      exact q _ _ s1 rfl
    | g :: p :: l :: y :: r =>
    have lg := sh g (by simp)
    have lp := sh p (by simp)
    have ll := sh l (by simp)
    refine ifF (decide_eq_false (by simp only [List.length_cons]; omega)) ?_
    walk_at "rds"
    refine ⟨b, _, rfl, sq hb1, fun c hc => ?_⟩
    have s2 := s1.trans (same_upd (o := .lst (cutV ((x :: g :: p :: l :: y :: r).map wrd) (some (1 : Nat)) (some (4 : Nat)))) hc)
    have hb2 := same_upd (o := .lst (cutV ((x :: g :: p :: l :: y :: r).map wrd) (some (1 : Nat)) (some (4 : Nat)))) hc _ _ hb1
    have hc2 : upd H1 c (.lst (cutV ((x :: g :: p :: l :: y :: r).map wrd) (some (1 : Nat)) (some (4 : Nat)))) c = _ := upd_same
    generalize upd H1 c (.lst (cutV ((x :: g :: p :: l :: y :: r).map wrd) (some (1 : Nat)) (some (4 : Nat)))) = H2 at s2 hb2 hc2 ⊢
    rw [cutV_mid (by decide)] at hc2
    have hc2 : H2 c = some (.lst ([g, p, l].map wrd)) := hc2
    walk_at "rds"
    refine ⟨⟨_, sq hc2⟩, fun D hD => ?_⟩
    refine lc_it (walk_list (K := K) (a := c) (xs := [g, p, l].map wrd)) (Pv := fun i H' => Same H2 H' ∧ H' D = some (.lst (([g, p, l].take i).map nv))) ⟨same_upd hD, upd_same⟩ (fun _ _ _ h => sq (h.1 _ _ hc2)) (fun i x H6 H7 hi hp2 hy => ?_) (fun H6 hp2 => ?_)
    · obtain ⟨s6, hD6⟩ := hp2
      obtain ⟨rfl, hx6⟩ := hy
      have hi' : i < 3 := hi
      have gi : ([g, p, l].map wrd)[i]? = some (wrd [g, p, l][i]) := by rw [List.getElem?_map, List.getElem?_eq_getElem hi']; rfl
      have ex : x = wrd [g, p, l][i] := by rw [gi] at hx6; exact (Option.some.inj hx6).symm
      subst ex
      refine ⟨rfl, tyes ?_⟩
      walk_at "rds"
      refine ⟨?_, ?_⟩
      · rw [wl]
        have := sh [g, p, l][i] (by
          have := List.getElem_mem (l := [g, p, l]) hi'
          simp only [List.mem_cons, List.not_mem_nil, or_false] at this ⊢
          rcases this with h | h | h <;> simp [h])
        omega
      show ∃ acc, _ ∧ _
      refine ⟨_, hD6, by rw [List.length_map, List.length_take]; exact sz1000' (by omega), same_mut s6 hD, ?_⟩
      rw [upd_same, List.take_add_one, List.getElem?_eq_getElem hi', List.map_append]
      rfl
    · obtain ⟨s6, hD6⟩ := hp2
      have hD6 : H6 D = some (.lst [nv g, nv p, nv l]) := hD6
      have hb6 := s6 _ _ hb2
      have s7 := s2.trans s6
      walk_at "rds"
      refine ⟨b, _, rfl, sq hb6, fun u hu => ?_⟩
      have hj : cutV ((x :: g :: p :: l :: y :: r).map wrd) (some (4 : Nat)) none = ((y :: r).map fun l => (⟨l.toArray⟩ : Str)).map V.str := by
        rw [cutV_from, List.map_map]; rfl
      have hu2 : upd H6 u (.lst (cutV ((x :: g :: p :: l :: y :: r).map wrd) (some (4 : Nat)) none)) u = some (.lst (((y :: r).map fun l => (⟨l.toArray⟩ : Str)).map V.str)) := by rw [upd_same, hj]
      have hD7 := same_upd (o := .lst (cutV ((x :: g :: p :: l :: y :: r).map wrd) (some (4 : Nat)) none)) hu _ _ hD6
      have s8 := s7.trans (same_upd (o := .lst (cutV ((x :: g :: p :: l :: y :: r).map wrd) (some (4 : Nat)) none)) hu)
      generalize upd H6 u (.lst (cutV ((x :: g :: p :: l :: y :: r).map wrd) (some (4 : Nat)) none)) = H7 at hu2 hD7 s8 ⊢
      walk_at "rds"
      have lj := jnL_len_sum 32 (y :: r)
      have lt : (jnL 32 (y :: r)).length ≤ 96 := by
        have : jnL 32 (x :: g :: p :: l :: y :: r) = x ++ 32 :: (g ++ 32 :: (p ++ 32 :: (l ++ 32 :: jnL 32 (y :: r)))) := rfl
        have := congrArg List.length this
        rw [jz] at this
        simp only [List.length_append, List.length_cons] at this
        omega
      have sq2 : SecAt H (.non) .none := rfl
      refine ⟨_, u, _, rfl, rfl, .inl (sq hu2), ?_, ?_⟩
      · have e1 : ((((y :: r).map fun l => (⟨l.toArray⟩ : Str)).map fun x => x.length)) = (y :: r).map (·.length) := by
          rw [List.map_map]; exact List.map_congr_left fun z _ => wl z
        rw [e1, List.length_map, show (Str.ofString " ").length = 1 from rfl]
        simp only [List.length_cons] at sn
        simp only [List.length_cons]
        omega
      rw [show Str.ofString " " = ⟨#[32]⟩ from by decide, txtjoin_tl]
      have q : ∀ H' v, Same H H' → SecAt H' v (if x = [80] ∧ gnL g = true ∧ dcL p = true ∧ dcL l = true ∧ 1 ≤ (jnL 32 (y :: r)).length ∧ (jnL 32 (y :: r)).length ≤ 40 then .piece (dvL g) (dvL p) (dvL l) (jnL 32 (y :: r)) else .none) → Q v H' := q
      generalize jnL 32 (y :: r) = pl at lt q ⊢
      walk_at "rds"
      refine ⟨D, _, rfl, .inl (sq hD7), rfl, flat_nv g p l, ?_⟩
      walk_at "rds"
      rw [if_neg Bool.false_ne_true, in_nv]
      cases hd : (dcL g && dcL p && dcL l) with
      | false =>
        refine ifT rfl ?_
        walk_at "rds"
        refine q _ _ s8 (by
          rw [if_neg (fun z => by
            have z1 := z.2.1
            unfold gnL at z1
            rw [Bool.and_eq_true] at z1
            rw [z1.1, z.2.2.1, z.2.2.2.1] at hd
            cases hd)]
          rfl)
      | true =>
      rw [Bool.and_eq_true, Bool.and_eq_true] at hd
      refine ifF rfl ?_
      have hD7 : H7 D = some (.lst [.int (dvL g), .int (dvL p), .int (dvL l)]) := by
        rw [hD7]; unfold nv; rw [if_pos hd.1.1, if_pos hd.1.2, if_pos hd.2]
      walk_at "rds"
      refine ⟨D, _, (0 : Nat), _, rfl, rfl, sq hD7, atI_nat (by rfl), ?_⟩
      walk_at "rds"
      by_cases g0 : g = [48]
      · refine ifT (decide_eq_true ((dv_zero hd.1.1).mpr g0)) ?_
        walk_at "rds"
        exact q _ _ s8 (by rw [if_neg (fun z => by have := z.2.1; rw [g0] at this; cases this)]; rfl)
      refine ifF (decide_eq_false (fun z => g0 ((dv_zero hd.1.1).mp z))) ?_
      have hg : gnL g = true := by unfold gnL; rw [hd.1.1, beq_eq_false_iff_ne.mpr g0]; rfl
      walk_at "rds"
      refine ⟨by rw [wl]; exact sz1000 (by omega), ?_⟩
      walk_at "rds"
      by_cases hz : ¬ (1 ≤ pl.length ∧ pl.length ≤ 40)
      · have e := q _ .non s8 (by rw [if_neg (fun y => hz y.2.2.2.2)]; rfl)
        by_cases z1 : 1 ≤ pl.length
        · refine ifT (decide_eq_true (by rw [wl]; omega)) ?_
          walk_at "rds"
          refine ifT (by rw [decide_eq_false (by rw [wl]; omega)]; rfl) ?_
          walk_at "rds"
          exact e
        · refine ifF (decide_eq_false (by rw [wl]; omega)) ?_
          walk_at "rds"
          exact e
      have hz := Classical.byContradiction hz
      refine ifT (decide_eq_true (by rw [wl]; omega)) ?_
      walk_at "rds"
      refine ifF (by rw [decide_eq_true (by rw [wl]; omega)]; rfl) ?_
      rw [if_pos ⟨hp, hg, hd.1.2, hd.2, hz.1, hz.2⟩] at q
      walk_at "rds"
      refine ⟨D, _, (0 : Nat), _, rfl, rfl, sq hD7, atI_nat (by rfl), ?_⟩
      walk_at "rds"
      refine ⟨D, _, (1 : Nat), _, rfl, rfl, sq hD7, atI_nat (by rfl), ?_⟩
      walk_at "rds"
      refine ⟨D, _, (2 : Nat), _, rfl, rfl, sq hD7, atI_nat (by rfl), ?_⟩
      walk_at "rds"
      exact fun w hw => q _ _ (s8.trans (same_upd hw)) ⟨w, rfl, upd_same⟩
theorem c_format_head (T : Txt K mg) : Cal P w K mg base 1 "format_head" (fun vs H Q _ => ∃ g a : Nat, vs = [.int g, .int a] ∧ g ≤ 10 ^ 19 ∧ a ≤ 1 ∧ ∀ z : Str, z.cps.toList = [72, 32] ++ TL.numL g ++ [32] ++ TL.numL a → Q (.str z) H) [] := by
  refine cal T.d_format_head sc_format_head (fun vs H Q E h => ?_) (fun f cdv A' outer s H vs Q E hr h => ?_)
  · obtain ⟨g, a, rfl, _⟩ := h; rfl
  obtain ⟨g, a, rfl, hg, ha, q⟩ := h
  refine ⟨_, (pss_one (ps_ret (pe_joined (PJ.cons pe_str (PJ.cons (pe_fmt (pv 0)) (PJ.cons pe_str (PJ.cons (pe_fmt (pv 1)) PJ.nil))))))), ?_⟩
  obtain ⟨g1, g2, g3⟩ := numS hg
  obtain ⟨a1, a2, a3⟩ := numS (n := a) (by omega)
  have sl := sizeLine_eq
  walk_at "rds"
  refine .inr ⟨_, rfl, g1, ?_⟩
  have e1 : (Str.ofString "H ").length = 2 := rfl
  have e2 : (Str.ofString " ").length = 1 := rfl
  have e3 : Str.empty.length = 0 := rfl
  refine ⟨_, rfl, by simp only [len_app2]; omega, ?_⟩
  refine ⟨_, rfl, by simp only [len_app2]; omega, ?_⟩
  walk_at "rds"
  refine .inr ⟨_, rfl, a1, ?_⟩
  refine ⟨_, rfl, by simp only [len_app2]; omega, ?_⟩
  refine q _ ?_
  simp only [app_tl, g3, a3]
  rfl
theorem c_format_piece (T : Txt K mg) : Cal P w K mg base 1 "format_piece" (fun vs H Q _ => ∃ (g p l : Nat) (y : Str), vs = [.int g, .int p, .int l, .str y] ∧ g ≤ 10 ^ 19 ∧ p ≤ 10 ^ 19 ∧ l ≤ 10 ^ 19 ∧ y.length ≤ 100 ∧ ∀ z : Str, z.cps.toList = [80, 32] ++ TL.numL g ++ [32] ++ TL.numL p ++ [32] ++ TL.numL l ++ [32] ++ y.cps.toList → Q (.str z) H) [] := by
  refine cal T.d_format_piece sc_format_piece (fun vs H Q E h => ?_) (fun f cdv A' outer s H vs Q E hr h => ?_)
  · obtain ⟨g, p, l, y, rfl, _⟩ := h; rfl
  obtain ⟨g, p, l, y, rfl, hg, hp, hl, hy, q⟩ := h
  refine ⟨_, (pss_one (ps_ret (pe_joined (PJ.cons pe_str (PJ.cons (pe_fmt (pv 0)) (PJ.cons pe_str (PJ.cons (pe_fmt (pv 1)) (PJ.cons pe_str (PJ.cons (pe_fmt (pv 2)) (PJ.cons pe_str (PJ.cons (pe_fmt (pv 3)) PJ.nil))))))))))), ?_⟩
  obtain ⟨g1, g2, g3⟩ := numS hg
  obtain ⟨p1, p2, p3⟩ := numS hp
  obtain ⟨l1, l2, l3⟩ := numS hl
  have sl := sizeLine_eq
  have e1 : (Str.ofString "P ").length = 2 := rfl
  have e2 : (Str.ofString " ").length = 1 := rfl
  have e3 : Str.empty.length = 0 := rfl
  walk_at "rds"
  refine .inr ⟨_, rfl, g1, ?_⟩
  refine ⟨_, rfl, by simp only [len_app2]; omega, ?_⟩
  refine ⟨_, rfl, by simp only [len_app2]; omega, ?_⟩
  walk_at "rds"
  refine .inr ⟨_, rfl, p1, ?_⟩
  refine ⟨_, rfl, by simp only [len_app2]; omega, ?_⟩
  refine ⟨_, rfl, by simp only [len_app2]; omega, ?_⟩
  walk_at "rds"
  refine .inr ⟨_, rfl, l1, ?_⟩
  refine ⟨_, rfl, by simp only [len_app2]; omega, ?_⟩
  refine ⟨_, rfl, by simp only [len_app2]; omega, ?_⟩
  walk_at "rds"
  refine .inl ⟨_, rfl, by omega, ?_⟩
  refine ⟨_, rfl, by simp only [len_app2]; omega, ?_⟩
  refine q _ ?_
  simp only [app_tl, g3, p3, l3]
  rfl
theorem c__law_is_integer (T : Txt K mg) : Cal P w K mg base 1 "_law_is_integer" (fun vs H Q _ => ∃ n : Int, vs = [.int n] ∧ Q (.bl true) H) [] := by
  refine cal T.d__law_is_integer sc__law_is_integer (fun vs H Q E h => ?_) (fun f cdv A' outer s H vs Q E hr h => ?_)
  · obtain ⟨n, rfl, _⟩ := h; rfl
  obtain ⟨n, rfl, q⟩ := h
  refine ⟨_, (pss_one (ps_ret (pe_and (pe_callB (kisi (K := K)) (by rfl) T.z_isinstance (by decide +kernel) (pa_cons (pv 0) (pa_cons (pe_bltn (v := .ty "int") (by rfl) T.z_int (by decide +kernel) rfl) pa_nil))) (pe_one (pe_not (pe_callB (kisi (K := K)) (by rfl) T.z_isinstance (by decide +kernel) (pa_cons (pv 0) (pa_cons (pe_bltn (v := .ty "bool") (by rfl) T.z_bool (by decide +kernel) rfl) pa_nil)))))))), ?_⟩
  walk_at "rds"
  walk_at "isi"
  walk_at "rds"
  walk_at "isi"
  walk_at "rds"
  exact q
theorem c__law_same (T : Txt K mg) : Cal P w K mg base 2 "_law_same" spSame [] := by
  have c__law_is_integer := c__law_is_integer (P := P) (w := w) (K := K) (base := base) T
  refine cal T.d__law_same sc__law_same (fun vs H Q E h => ?_) (fun f cdv A' outer s H vs Q E hr h => ?_)
  · obtain ⟨x, y, s, rfl, _⟩ := h; rfl
  obtain ⟨x, y, sc, rfl, hx, hy, q⟩ := h
  refine ⟨_, (pss_cons (ps_if (pt_cmpR op_isN (pv 1) pe_non (nomark _)) (pss_one (ps_ret (pe_cmpR op_isN (pv 0) pe_non (nomark _)))) pss_nil)
      (pss_cons (ps_if (PW.pt (pw_or (pt_not (pt_val (pe_callB (kisi (K := K)) (by rfl) T.z_isinstance (by decide +kernel) (pa_cons (pv 0) (pa_cons (pe_bltn (v := .ty "tuple") (by rfl) T.z_tuple (by decide +kernel) rfl) pa_nil))))) (pw_or1 (pt_cmpR op_ne (pe_callB (klen (K := K)) (by rfl) T.z_len (by decide +kernel) (pa_cons (pv 0) pa_nil)) (pe_callB (klen (K := K)) (by rfl) T.z_len (by decide +kernel) (pa_cons (pv 1) pa_nil)) (nomark _))))) (pss_one (ps_ret pe_bl)) pss_nil)
      (pss_cons (ps_for PassesOwn.never rfl (pi_range1 (by rfl) T.z_range (pa_cons (pe_callB (klen (K := K)) (by rfl) T.z_len (by decide +kernel) (pa_cons (pv 1) pa_nil)) pa_nil)) (pg_name (i := 2) sc__law_same.nd rfl (Or.inl rfl)) (pss_one (ps_if (pt_val (pe_callB (kisi (K := K)) (by rfl) T.z_isinstance (by decide +kernel) (pa_cons (pe_ix (kixt (K := K)) (pv 1) (pv 2) (fun _ _ => rfl)) (pa_cons (pe_bltn (v := .ty "str") (by rfl) T.z_str (by decide +kernel) rfl) pa_nil)))) (pss_one (ps_if (PW.pt (pw_or (pt_not (pt_val (pe_callB (kisi (K := K)) (by rfl) T.z_isinstance (by decide +kernel) (pa_cons (pe_ix (kixt (K := K)) (pv 0) (pv 2) (fun _ _ => rfl)) (pa_cons (pe_bltn (v := .ty "str") (by rfl) T.z_str (by decide +kernel) rfl) pa_nil))))) (pw_or1 (pt_cmpR op_ne (pe_ix (kixt (K := K)) (pv 0) (pv 2) (fun _ _ => rfl)) (pe_ix (kixt (K := K)) (pv 1) (pv 2) (fun _ _ => rfl)) (nomark _))))) (pss_one (ps_ret pe_bl)) pss_nil)) (pss_one (ps_if (PW.pt (pw_or (pt_not (pt_val (pe_c c__law_is_integer hr (by decide) (by rfl) (pa_cons (pe_ix (kixt (K := K)) (pv 0) (pv 2) (fun _ _ => rfl)) pa_nil)))) (pw_or1 (pt_cmpR op_ne (pe_ix (kixt (K := K)) (pv 0) (pv 2) (fun _ _ => rfl)) (pe_ix (kixt (K := K)) (pv 1) (pv 2) (fun _ _ => rfl)) (nomark _))))) (pss_one (ps_ret pe_bl)) pss_nil)))))
      (pss_one (ps_ret pe_bl))))), ?_⟩
  by_cases hn : sc = .none
  · subst hn
    cases hx; cases hy
    walk_at "rds"
    exact q _ (Same.refl _)
  obtain ⟨xs, a, b, rfl, rfl, ha, hb, hl, hv⟩ : ∃ (xs : List V) (a b : Addr), x = .ref a ∧ y = .ref b ∧ H a = some (.tup xs) ∧ H b = some (.tup xs) ∧ xs.length ≤ 100 ∧ ∀ v ∈ xs, (∃ z, v = .str z) ∨ ∃ n, v = .int n := by
    cases sc with
    | none => exact absurd rfl hn
    | head g c =>
      obtain ⟨a, rfl, ha⟩ := hx
      obtain ⟨b, rfl, hb⟩ := hy
      exact ⟨_, a, b, rfl, rfl, ha, hb, (by show 3 ≤ 100; decide), (by simp)⟩
    | piece g p l z =>
      obtain ⟨a, rfl, ha⟩ := hx
      obtain ⟨b, rfl, hb⟩ := hy
      exact ⟨_, a, b, rfl, rfl, ha, hb, (by show 5 ≤ 100; decide), (by simp)⟩
  walk_at "rds"
  refine ⟨_, .ty _, _, _, true, rfl, .ty _, .base (.tup ha), kit_ty (by decide +kernel), ?_⟩
  walk_at "rds"
  refine ⟨a, _, rfl, .inr (.inl (.inl ha)), ?_⟩
  walk_at "rds"
  refine ⟨b, _, rfl, .inr (.inl (.inl hb)), ?_⟩
  walk_at "rds"
  refine ifF (by rw [decide_eq_true rfl]; rfl) ?_
  walk_at "rds"
  refine ⟨b, _, rfl, .inr (.inl (.inl hb)), ?_⟩
  walk_at "rds"
  refine for_it walk_range (Pv := fun i σ H' => ∃ (y : Option V), σ = [some (.ref a), some (.ref b), y] ∧ Same H H') ⟨none, rfl, Same.refl _⟩ (fun _ _ _ _ _ => trivial) (fun i x σ H3 H4 hi hp hy => ?_) (fun σ H3 hp => ?_)
  · obtain ⟨y, rfl, s3⟩ := hp
    obtain ⟨rfl, rfl⟩ := hy
    have hi' : i < xs.length := by omega
    have ha3 := s3 _ _ ha
    have hb3 := s3 _ _ hb
    have g : xs[i]? = some xs[i] := List.getElem?_eq_getElem hi'
    walk_at "rds"
    refine ⟨b, _, (i : Int), _, rfl, congrArg V.int (by omega), .inl (.inl hb3), atI_nat g, ?_⟩
    rcases hv _ (List.getElem_mem hi') with ⟨z, ez⟩ | ⟨n, en⟩
    · rw [ez] at g ⊢
      walk_at "isi"
      walk_at "rds"
      refine ⟨a, _, (i : Int), _, rfl, congrArg V.int (by omega), .inl (.inl ha3), atI_nat g, ?_⟩
      walk_at "isi"
      walk_at "rds"
      refine ⟨a, _, (i : Int), _, rfl, congrArg V.int (by omega), .inl (.inl ha3), atI_nat g, ?_⟩
      walk_at "rds"
      refine ⟨b, _, (i : Int), _, rfl, congrArg V.int (by omega), .inl (.inl hb3), atI_nat g, ?_⟩
      walk_at "rds"
      refine ifF (by rw [decide_eq_true rfl]; rfl) ?_
      exact ⟨_, rfl, s3⟩
    · rw [en] at g ⊢
      walk_at "isi"
      walk_at "rds"
      refine ⟨a, _, (i : Int), _, rfl, congrArg V.int (by omega), .inl (.inl ha3), atI_nat g, ?_⟩
      walk_at "rds"
      refine ⟨a, _, (i : Int), _, rfl, congrArg V.int (by omega), .inl (.inl ha3), atI_nat g, ?_⟩
      walk_at "rds"
      refine ⟨b, _, (i : Int), _, rfl, congrArg V.int (by omega), .inl (.inl hb3), atI_nat g, ?_⟩
      walk_at "rds"
      refine ifF (by rw [decide_eq_true rfl]; rfl) ?_
      exact ⟨_, rfl, s3⟩
  · obtain ⟨y, rfl, s3⟩ := hp
    walk_at "rds"
    exact q _ s3
theorem c__law_cell (T : Txt K mg) : Cal P w K mg base 1 "_law_cell" (spCell K) [] := by
  refine cal T.d__law_cell sc__law_cell (fun vs H Q E h => ?_) (fun f cdv A outer s H vs Q E hr h => ?_)
  · obtain ⟨a, ns, k, rfl, _⟩ := h; rfl
  obtain ⟨a, ns, k, rfl, hS, q⟩ := h
  refine ⟨_, (pss_cons (ps_if (pt_cmpR op_lt (pv 1) (pe_callB (klen (K := K)) (by rfl) T.z_len (by decide +kernel) (pa_cons (pv 0) pa_nil)) (nomark _)) (pss_one (ps_ret (pe_ix (kixl (K := K)) (pv 0) (pv 1) (fun _ _ => rfl)))) pss_nil)
      (pss_one (ps_ret pe_int))), ?_⟩
  refine ⟨.int k, rfl, .ref a, rfl, a, _, rfl, .inl hS, _, _, rfl, rfl, _, rfl, ite2 (fun e => ?_) (fun e => ?_)⟩
  · have e := of_decide_eq_true e
    rw [List.length_map] at e
    have e1 : k < ns.length := by omega
    have g : (ns.map V.int)[k]? = some (.int (ns.getD k 0)) := by
      rw [List.getElem?_map, List.getD_eq_getElem?_getD, List.getElem?_eq_getElem e1]; rfl
    exact ⟨.ref a, rfl, .int k, rfl, a, _, _, _, rfl, rfl, hS, atI_nat g, q⟩
  · have e2 : ¬ ((k : Int) < ((ns.map V.int).length : Int)) := fun z => e (decide_eq_true z)
    rw [List.length_map] at e2
    have e1 : ns.getD k 0 = 0 := by
      rw [List.getD_eq_getElem?_getD, List.getElem?_eq_none (by omega)]; rfl
    rw [e1] at q
    exact q
end

/-! ### _law_text -/
def spText (K : PySem.W.Frag) : Sp := fun vs H Q _ => ∃ (c : Int) (n : Nat), vs = [.int c, .int n] ∧ n ≤ 1000 ∧ ∀ H' z, Same H H' → z.length = n → Q (.str z) H'
section
variable {P : Program} {w : World} {K : PySem.W.Frag} {mg : Str → Option Value} {base : Heap}
theorem c__law_text (T : Txt K mg) : Cal P w K mg base 1 "_law_text" (spText K) [] := by
  refine cal T.d__law_text sc__law_text (fun vs H Q E h => ?_) (fun f cdv A outer s H vs Q E hr h => ?_)
  · obtain ⟨c, n, rfl, _⟩ := h; rfl
  obtain ⟨c, n, rfl, hn, q⟩ := h
  refine ⟨_, (pss_cons (ps_set (i := 2) sc__law_text.nd rfl (Or.inr rfl) pe_str)
      (pss_cons (ps_set (i := 2) sc__law_text.nd rfl (Or.inr rfl) (pe_op op_add_str (pv 2) pe_str))
      (pss_one (ps_ret (pe_join pe_str (pe_lc (own := [("k", 3)]) (g := gName 3) (by rfl) sc__law_text.nd (pi_range1 (by rfl) T.z_range (pa_cons (pv 1) pa_nil)) (blkOk_by (own := [("k", 3)]) (N := ["cell", "size", "chars", "k"]) (sc := defScope s__law_text) (by decide +kernel)) (fun _ _ _ _ _ => pg_name (i := 3) sc__law_text.nd rfl (Or.inl rfl)) (fun _ _ _ _ _ => pts_nil) (fun _ _ _ _ _ => (pe_ix ix_str (pv 2) (pe_op op_mod (pe_callTy call_int1 (by rfl) T.z_int (by decide +kernel) (pa_cons (pe_op op_add (pe_op op_add (pe_op op_fdiv (pv 0) pe_int) (pe_op op_mul (pe_op op_mul (pe_op op_mod (pv 0) pe_int) (pv 3)) pe_int)) (pe_op op_fdiv (pv 3) pe_int)) pa_nil)) pe_int) (fun _ _ => rfl))))))))), ?_⟩
  walk_at "rds"
  intro D hD
  refine lc_it walk_range (Pv := fun i H' => ∃ ys : List Str, Same H H' ∧ H' D = some (.lst (ys.map V.str)) ∧ ys.length = i ∧ ∀ y ∈ ys, y.length = 1) ⟨[], same_upd hD, upd_same, rfl, by simp⟩ (fun _ _ _ _ => trivial) (fun i x H1 H2 hi hp hy => ?_) (fun H1 hp => ?_)
  · obtain ⟨ys, sm, hl, hn1, h1⟩ := hp
    obtain ⟨rfl, rfl⟩ := hy
    have hi' : i < n := by omega
    refine ⟨rfl, tyes ?_⟩
    walk_at "rds"
    have e94 : (Str.ofString " !\"#$&'()*+,-./0123456789:;<=>?@ABCDEFGHIJKLMNOPQRSTUVWXYZ[\\]^_`" ++ Str.ofString "abcdefghijklmnopqrstuvwxyz{|}~").length = 94 := by decide +kernel
    obtain ⟨ch, hch⟩ := chr_at (z := Str.ofString " !\"#$&'()*+,-./0123456789:;<=>?@ABCDEFGHIJKLMNOPQRSTUVWXYZ[\\]^_`" ++ Str.ofString "abcdefghijklmnopqrstuvwxyz{|}~") (i := (c / 3 + c % 3 * (0 + (i : Int)) * 7 + (0 + (i : Int)) / 5) % 94) (by omega) (by rw [e94]; omega)
    refine ⟨_, _, ch, rfl, rfl, by decide +kernel, hch, _, hl, ?_, ys ++ [⟨#[ch]⟩], same_mut sm hD, lst_app, ?_, ?_⟩
    · rw [List.length_map]; exact sz1000' (by omega)
    · rw [List.length_append, hn1]; rfl
    · intro y hy
      rcases List.mem_append.mp hy with hy | hy
      · exact h1 y hy
      · rw [List.mem_singleton.mp hy]; rfl
  · obtain ⟨ys, sm, hl, hn1, h1⟩ := hp
    refine ⟨_, D, ys, rfl, rfl, .inl (sq hl), ?_, ?_⟩
    · have e : (Str.ofString "").length = 0 := by decide
      rw [e, sum_ones h1, hn1]; omega
    · refine q _ _ sm ?_
      rw [PySem.W.KT.join_ones ys h1, hn1]; omega
theorem sqSame {H H' : Hp} {a : Addr} {xs : List V} (h : SqL K H a xs) (s : Same H H') : SqL K H' a xs := h.elim (fun r => .inl (r.elim (fun e => .inl (s _ _ e)) (fun ⟨w, e⟩ => .inr ⟨w, s _ _ e⟩))) .inr
theorem c__law_change (T : Txt K mg) : Cal P w K mg base 2 "_law_change" spChange [] := by
  have c__law_text := c__law_text (P := P) (w := w) (K := K) (base := base) T
  refine cal T.d__law_change sc__law_change (fun vs H Q E h => ?_) (fun f cdv A' outer s H vs Q E hr h => ?_)
  · obtain ⟨z, m, c, rfl, _⟩ := h; rfl
  obtain ⟨z, m, c, rfl, hz, q⟩ := h
  refine ⟨_, (pss_cons (ps_set (i := 3) sc__law_change.nd rfl (Or.inl rfl) (pe_op op_mod (pe_callTy call_int1 (by rfl) T.z_int (by decide +kernel) (pa_cons (pv 2) pa_nil)) (pe_op op_add (pe_callB call_len_str (by rfl) T.z_len (by decide +kernel) (pa_cons (pv 0) pa_nil)) pe_int)))
      (pss_cons (ps_set (i := 4) sc__law_change.nd rfl (Or.inl rfl) (pe_ix ix_str pe_str (pe_op op_mod (pe_callTy call_int1 (by rfl) T.z_int (by decide +kernel) (pa_cons (pe_op op_fdiv (pv 2) pe_int) pa_nil)) pe_int) (fun _ _ => rfl)))
      (pss_cons (ps_if (pt_cmpR op_eq (pv 1) pe_int (nomark _)) (pss_one (ps_ret (pe_op op_add_str (pe_slice sl_str (pv 0) po_none (po_some (pv 3))) (pe_slice sl_str (pv 0) (po_some (pe_op op_add (pv 3) pe_int)) po_none)))) pss_nil)
      (pss_cons (ps_if (pt_cmpR op_eq (pv 1) pe_int (nomark _)) (pss_one (ps_ret (pe_op op_add_str (pe_op op_add_str (pe_slice sl_str (pv 0) po_none (po_some (pv 3))) (pv 4)) (pe_slice sl_str (pv 0) (po_some (pv 3)) po_none)))) pss_nil)
      (pss_cons (ps_if (pt_cmpR op_eq (pv 1) pe_int (nomark _)) (pss_one (ps_ret (pe_op op_add_str (pe_op op_add_str (pe_slice sl_str (pv 0) po_none (po_some (pv 3))) (pv 4)) (pe_slice sl_str (pv 0) (po_some (pe_op op_add (pv 3) pe_int)) po_none)))) pss_nil)
      (pss_cons (ps_if (pt_cmpR op_eq (pv 1) pe_int (nomark _)) (pss_one (ps_ret (pe_op op_add_str (pe_op op_add_str (pe_slice sl_str (pv 0) po_none (po_some (pv 3))) (pe_slice sl_str (pv 0) (po_some (pv 3)) (po_some (pe_op op_add (pv 3) pe_int)))) (pe_slice sl_str (pv 0) (po_some (pv 3)) po_none)))) pss_nil)
      (pss_cons (ps_if (pt_cmpR op_eq (pv 1) pe_int (nomark _)) (pss_one (ps_ret (pe_op op_add_str (pv 0) (pe_c c__law_text hr (by decide) (by rfl) (pa_cons (pv 2) (pa_cons (pe_op op_mod (pe_callTy call_int1 (by rfl) T.z_int (by decide +kernel) (pa_cons (pe_op op_fdiv (pv 2) pe_int) pa_nil)) pe_int) pa_nil)))))) pss_nil)
      (pss_one (ps_ret (pv 0)))))))))), ?_⟩
  have sl := sizeLine_eq
  have ls : (Str.ofString " 0-HP1xab9+_").length = 12 := by decide +kernel
  walk_at "rds"
  obtain ⟨ch, hch⟩ := chr_at (z := Str.ofString " 0-HP1xab9+_") (i := c / 97 % 12) (by omega) (by rw [ls]; omega)
  refine ⟨_, _, ch, rfl, rfl, by rw [ls]; exact sz1000 (by omega), hch, ?_⟩
  have l1 : (⟨#[ch]⟩ : Str).length = 1 := rfl
  have cut := fun lo hi => cutS_length z lo hi
  have c1 := cut none (some (c % ((z.length : Int) + 1)))
  have c2 := cut (some (c % ((z.length : Int) + 1) + 1)) none
  have c3 := cut (some (c % ((z.length : Int) + 1))) none
  have c4 := cut (some (c % ((z.length : Int) + 1))) (some (c % ((z.length : Int) + 1) + 1))
  walk_at "rds"
  refine ite2 (fun _ => ?_) (fun _ => ?_)
  · walk_at "rds"
    refine q _ _ (Same.refl _) ?_
    simp only [len_app2]; omega
  walk_at "rds"
  refine ite2 (fun _ => ?_) (fun _ => ?_)
  · walk_at "rds"
    refine ⟨by rw [len_app2]; omega, ?_⟩
    refine q _ _ (Same.refl _) ?_
    simp only [len_app2]; omega
  walk_at "rds"
  refine ite2 (fun _ => ?_) (fun _ => ?_)
  · walk_at "rds"
    refine ⟨by rw [len_app2]; omega, ?_⟩
    refine q _ _ (Same.refl _) ?_
    simp only [len_app2]; omega
  walk_at "rds"
  refine ite2 (fun _ => ?_) (fun _ => ?_)
  · walk_at "rds"
    refine ⟨by rw [len_app2]; omega, ?_⟩
    refine q _ _ (Same.refl _) ?_
    simp only [len_app2]; omega
  walk_at "rds"
  refine ite2 (fun _ => ?_) (fun _ => ?_)
  · walk_at "rds"
    obtain ⟨n, hn⟩ := Int.eq_ofNat_of_zero_le (show 0 ≤ c / 7 % 60 by omega)
    refine ⟨c, n, by rw [← hn]; rfl, by omega, fun H1 y s1 hy => ?_⟩
    refine ⟨_, _, rfl, rfl, by omega, ?_⟩
    refine q _ _ s1 ?_
    rw [len_app2]; omega
  walk_at "rds"
  exact q _ _ (Same.refl _) (by omega)
end

--@SPLIT
theorem cut_to {z : Str} {n : Nat} : (cutS z none (some (n : Int))).cps.toList = z.cps.toList.take n := by
  unfold cutS
  rw [HT.sIx_none, HT.sIx_nat]
  show (z.cps.toList.drop 0).take (min n z.length - 0) = _
  rw [List.drop_zero, Nat.sub_zero, ← len_tl]
  by_cases h : n ≤ z.cps.toList.length
  · rw [Nat.min_eq_left h]
  · rw [Nat.min_eq_right (by omega), List.take_of_length_le (Nat.le_refl _), List.take_of_length_le (by omega)]
section
variable {P : Program} {w : World} {K : PySem.W.Frag} {mg : Str → Option Value} {base : Heap}
theorem ok_law {f : Addr} {fd : FuncData} (F : L2.Fun K "law" "law" s_law f fd) (T : Txt K mg) : FnOk P w K mg base L2.CX0 6 f fd ["script"] (spLaw K) := by
  have c__law_cell := c__law_cell (P := P) (w := w) (K := K) (base := base) T
  have c__law_text := c__law_text (P := P) (w := w) (K := K) (base := base) T
  have c_format_head := c_format_head (P := P) (w := w) (base := base) T
  have c_format_piece := c_format_piece (P := P) (w := w) (base := base) T
  have c_parse_sector := c_parse_sector (P := P) (w := w) (K := K) (base := base) T
  have c__law_parse := c__law_parse (P := P) (w := w) (K := K) (base := base) T
  have c__law_same := c__law_same (P := P) (w := w) (K := K) (base := base) T
  have c__law_change := c__law_change (P := P) (w := w) (K := K) (base := base) T
  refine F.ok sc_law (fun vs H Q E h => ?_) (fun cdv A' outer s H vs Q E hr h => ?_)
  · obtain ⟨a, ns, rfl, _⟩ := h; rfl
  obtain ⟨a, ns, rfl, hS, hlen, q⟩ := h
  have sl := sizeLine_eq
  refine ⟨_, (pss_cons (ps_set (i := 1) sc_law.nd rfl (Or.inl rfl) (pe_op op_add pe_int (pe_op op_mod (pe_callTy call_int1 (by rfl) T.z_int (by decide +kernel) (pa_cons (pe_c c__law_cell hr (by decide) (by rfl) (pa_cons (pv 0) (pa_cons pe_int pa_nil))) pa_nil)) (pe_op op_pow pe_int pe_int))))
      (pss_cut (ps_if (pt_cmpR op_eq (pe_op op_mod (pe_callTy call_int1 (by rfl) T.z_int (by decide +kernel) (pa_cons (pe_op op_fdiv (pe_c c__law_cell hr (by decide) (by rfl) (pa_cons (pv 0) (pa_cons pe_int pa_nil))) pe_int) pa_nil)) pe_int) pe_int (nomark _)) (pss_one (ps_set (i := 1) sc_law.nd rfl (Or.inl rfl) (pe_op op_add pe_int (pe_op op_mod (pv 1) pe_int)))) pss_nil)
      (pss_cons (ps_set (i := 2) sc_law.nd rfl (Or.inl rfl) (pe_op op_mod (pe_callTy call_int1 (by rfl) T.z_int (by decide +kernel) (pa_cons (pe_c c__law_cell hr (by decide) (by rfl) (pa_cons (pv 0) (pa_cons pe_int pa_nil))) pa_nil)) (pe_op op_pow pe_int pe_int)))
      (pss_cons (ps_set (i := 3) sc_law.nd rfl (Or.inl rfl) (pe_op op_mod (pe_callTy call_int1 (by rfl) T.z_int (by decide +kernel) (pa_cons (pe_c c__law_cell hr (by decide) (by rfl) (pa_cons (pv 0) (pa_cons pe_int pa_nil))) pa_nil)) (pe_op op_pow pe_int pe_int)))
      (pss_cut (ps_if (pt_cmpR op_eq (pe_op op_mod (pe_callTy call_int1 (by rfl) T.z_int (by decide +kernel) (pa_cons (pe_op op_fdiv (pe_c c__law_cell hr (by decide) (by rfl) (pa_cons (pv 0) (pa_cons pe_int pa_nil))) pe_int) pa_nil)) pe_int) pe_int (nomark _)) (pss_one (ps_set (i := 3) sc_law.nd rfl (Or.inl rfl) (pe_op op_mod (pv 3) pe_int))) pss_nil)
      (pss_cons (ps_set (i := 4) sc_law.nd rfl (Or.inl rfl) (pe_op op_mod (pe_callTy call_int1 (by rfl) T.z_int (by decide +kernel) (pa_cons (pe_c c__law_cell hr (by decide) (by rfl) (pa_cons (pv 0) (pa_cons pe_int pa_nil))) pa_nil)) pe_int))
      (pss_cons (ps_set (i := 5) sc_law.nd rfl (Or.inl rfl) (pe_c c__law_text hr (by decide) (by rfl) (pa_cons (pe_c c__law_cell hr (by decide) (by rfl) (pa_cons (pv 0) (pa_cons pe_int pa_nil))) (pa_cons (pe_op op_add pe_int (pe_op op_mod (pe_callTy call_int1 (by rfl) T.z_int (by decide +kernel) (pa_cons (pe_c c__law_cell hr (by decide) (by rfl) (pa_cons (pv 0) (pa_cons pe_int pa_nil))) pa_nil)) pe_int)) pa_nil))))
      (pss_cons (ps_set (i := 6) sc_law.nd rfl (Or.inl rfl) (pe_op op_add_str (pe_op op_add_str (pe_op op_add_str (pe_op op_add_str (pe_op op_add_str (pe_op op_add_str (pe_op op_add_str pe_str (pe_callTy call_str_int (by rfl) T.z_str (by decide +kernel) (pa_cons (pv 1) pa_nil))) pe_str) (pe_callTy call_str_int (by rfl) T.z_str (by decide +kernel) (pa_cons (pv 2) pa_nil))) pe_str) (pe_callTy call_str_int (by rfl) T.z_str (by decide +kernel) (pa_cons (pv 3) pa_nil))) pe_str) (pv 5)))
      (pss_cons (ps_set (i := 7) sc_law.nd rfl (Or.inl rfl) (pe_op op_add_str (pe_op op_add_str (pe_op op_add_str pe_str (pe_callTy call_str_int (by rfl) T.z_str (by decide +kernel) (pa_cons (pv 1) pa_nil))) pe_str) (pe_callTy call_str_int (by rfl) T.z_str (by decide +kernel) (pa_cons (pv 4) pa_nil))))
      (pss_cons (ps_if (PW.pt (pw_or (pt_cmpR op_ne (pe_c c_format_piece hr (by decide) (by rfl) (pa_cons (pv 1) (pa_cons (pv 2) (pa_cons (pv 3) (pa_cons (pv 5) pa_nil))))) (pv 6) (nomark _)) (pw_or1 (pt_cmpR op_ne (pe_c c_format_head hr (by decide) (by rfl) (pa_cons (pv 1) (pa_cons (pv 4) pa_nil))) (pv 7) (nomark _))))) (pss_one (ps_ret pe_bl)) pss_nil)
      (pss_cons (ps_if (pt_not (pt_val (pe_c c__law_same hr (by decide) (by rfl) (pa_cons (pe_c c_parse_sector hr (by decide) (by rfl) (pa_cons (pv 6) pa_nil)) (pa_cons (pe_tup (pa_cons pe_str (pa_cons (pv 1) (pa_cons (pv 2) (pa_cons (pv 3) (pa_cons (pv 5) pa_nil)))))) pa_nil))))) (pss_one (ps_ret pe_bl)) pss_nil)
      (pss_cons (ps_if (PW.pt (pw_or (pt_not (pt_val (pe_c c__law_same hr (by decide) (by rfl) (pa_cons (pe_c c_parse_sector hr (by decide) (by rfl) (pa_cons (pv 7) pa_nil)) (pa_cons (pe_tup (pa_cons pe_str (pa_cons (pv 1) (pa_cons (pv 4) pa_nil)))) pa_nil))))) (pw_or1 (pt_cmpR op_notN (pe_c c_parse_sector hr (by decide) (by rfl) (pa_cons pe_str pa_nil)) pe_non (nomark _))))) (pss_one (ps_ret pe_bl)) pss_nil)
      (pss_cons (ps_set (i := 8) sc_law.nd rfl (Or.inl rfl) (pv 6))
      (pss_cut (ps_if (pt_cmpR op_eq (pe_op op_mod (pe_callTy call_int1 (by rfl) T.z_int (by decide +kernel) (pa_cons (pe_op op_fdiv (pe_c c__law_cell hr (by decide) (by rfl) (pa_cons (pv 0) (pa_cons pe_int pa_nil))) pe_int) pa_nil)) pe_int) pe_int (nomark _)) (pss_one (ps_set (i := 8) sc_law.nd rfl (Or.inl rfl) (pv 7))) pss_nil)
      (pss_cons (ps_for PassesOwn.never rfl (pi_range2 (by rfl) T.z_range (pa_cons pe_int (pa_cons (pe_callB (call_max2 rfl) (by rfl) T.z_max (by decide +kernel) (pa_cons pe_int (pa_cons (pe_callB (klen (K := K)) (by rfl) T.z_len (by decide +kernel) (pa_cons (pv 0) pa_nil)) pa_nil))) pa_nil))) (pg_name (i := 9) sc_law.nd rfl (Or.inl rfl)) (pss_cons (ps_set (i := 8) sc_law.nd rfl (Or.inl rfl) (pe_slice sl_str (pe_c c__law_change hr (by decide) (by rfl) (pa_cons (pv 8) (pa_cons (pe_op op_mod (pe_callTy call_int1 (by rfl) T.z_int (by decide +kernel) (pa_cons (pe_c c__law_cell hr (by decide) (by rfl) (pa_cons (pv 0) (pa_cons (pv 9) pa_nil))) pa_nil)) pe_int) (pa_cons (pe_callTy call_int1 (by rfl) T.z_int (by decide +kernel) (pa_cons (pe_op op_fdiv (pe_c c__law_cell hr (by decide) (by rfl) (pa_cons (pv 0) (pa_cons (pv 9) pa_nil))) pe_int) pa_nil)) pa_nil)))) po_none (po_some pe_int)))
      (pss_one (ps_if (pt_not (pt_val (pe_c c__law_same hr (by decide) (by rfl) (pa_cons (pe_c c_parse_sector hr (by decide) (by rfl) (pa_cons (pv 8) pa_nil)) (pa_cons (pe_c c__law_parse hr (by decide) (by rfl) (pa_cons (pv 8) pa_nil)) pa_nil))))) (pss_one (ps_ret pe_bl)) pss_nil))))
      (pss_one (ps_ret pe_bl))))))))))))))))), ?_⟩
  walk_at "rds"
  refine ⟨a, ns, 0, rfl, hS, ?_⟩
  walk_at "rds"
  have e18 : (10 : Int) ^ Int.toNat 18 = 1000000000000000000 := by decide
  have e9 : (10 : Int) ^ Int.toNat 9 = 1000000000 := by decide
  refine ⟨by show (0 : Int) < _; rw [e18]; decide, ?_⟩
  rw [e18]
  walk_at "rds"
  refine ⟨fun σ' H' => H' = H ∧ ∃ g : Nat, σ' = [some (.ref a), some (.int g), none, none, none, none, none, none, none, none] ∧ 1 ≤ g ∧ g ≤ 10 ^ 19, ?_, ?_⟩
  · walk_at "rds"
    refine ⟨a, ns, 0, rfl, hS, ?_⟩
    walk_at "rds"
    refine ite2 (fun _ => ?_) (fun _ => ?_)
    · walk_at "rds"
      refine ⟨rfl, (1 + (1 + ns.getD 0 0 % 1000000000000000000) % 12).toNat, by rw [Int.toNat_of_nonneg (by omega)]; rfl, by omega, by omega⟩
    · refine ⟨rfl, (1 + ns.getD 0 0 % 1000000000000000000).toNat, by rw [Int.toNat_of_nonneg (by omega)]; rfl, by omega, by omega⟩
  rintro σ' H1 ⟨e1, g, rfl, g1, g2⟩
  subst e1
  walk_at "rds"
  refine ⟨a, ns, 1, rfl, hS, ?_⟩
  walk_at "rds"
  rw [e9]
  obtain ⟨p, hp⟩ := Int.eq_ofNat_of_zero_le (show 0 ≤ ns.getD 1 0 % 1000000000 by omega)
  have p2 : p ≤ 10 ^ 9 := by omega
  rw [show (fun i j => V.int (i % j)) (ns.getD 1 0) 1000000000 = V.int (p : Int) from congrArg V.int hp]
  refine ⟨a, ns, 2, rfl, hS, ?_⟩
  walk_at "rds"
  rw [e9]
  refine ⟨fun σ' H' => H' = H1 ∧ ∃ l : Nat, σ' = [some (.ref a), some (.int g), some (.int p), some (.int l), none, none, none, none, none, none] ∧ l ≤ 10 ^ 9, ?_, ?_⟩
  · walk_at "rds"
    refine ⟨a, ns, 2, rfl, hS, ?_⟩
    walk_at "rds"
    refine ite2 (fun _ => ?_) (fun _ => ?_)
    · walk_at "rds"
      refine ⟨rfl, (ns.getD 2 0 % 1000000000 % 3).toNat, by rw [Int.toNat_of_nonneg (by omega)]; rfl, by omega⟩
    · refine ⟨rfl, (ns.getD 2 0 % 1000000000).toNat, by rw [Int.toNat_of_nonneg (by omega)]; rfl, by omega⟩
  rintro σ' H' ⟨rfl, l, rfl, l2⟩
  walk_at "rds"
  refine ⟨a, ns, 3, rfl, hS, ?_⟩
  obtain ⟨ar, har⟩ := Int.eq_ofNat_of_zero_le (show 0 ≤ ns.getD 3 0 % 2 by omega)
  have ar2 : ar = 0 ∨ ar = 1 := by omega
  walk_at "rds"
  rw [show (fun i j => V.int (i % j)) (ns.getD 3 0) 2 = V.int (ar : Int) from congrArg V.int har]
  refine ⟨a, ns, 4, rfl, hS, ?_⟩
  walk_at "rds"
  refine ⟨a, ns, 5, rfl, hS, ?_⟩
  walk_at "rds"
  obtain ⟨n, hn⟩ := Int.eq_ofNat_of_zero_le (show 0 ≤ 1 + ns.getD 5 0 % 40 by omega)
  refine ⟨_, n, by rw [← hn]; rfl, by omega, fun H2 y s1 hy => ?_⟩
  have hS2 : SqL K H2 a (ns.map V.int) := sqSame hS s1
  obtain ⟨g1', gl, gt⟩ := numS g2
  obtain ⟨p1', pl, pt⟩ := numS (n := p) (by omega)
  obtain ⟨l1', ll, lt⟩ := numS (n := l) (by omega)
  obtain ⟨a1', al, at'⟩ := numS (n := ar) (by omega)
  have e1 : (Str.ofString "P ").length = 2 := rfl
  have e2 : (Str.ofString " ").length = 1 := rfl
  have e3 : (Str.ofString "H ").length = 2 := rfl
  have pieces := fun (A B : Str) => len_app2 A B
  walk_at "rds"
  refine ⟨g1', ?_⟩
  refine ⟨_, _, rfl, rfl, by omega, ?_⟩
  refine ⟨_, _, rfl, rfl, by simp only [len_app2]; omega, ?_⟩
  walk_at "rds"
  refine ⟨p1', ?_⟩
  refine ⟨_, _, rfl, rfl, by simp only [len_app2]; omega, ?_⟩
  refine ⟨_, _, rfl, rfl, by simp only [len_app2]; omega, ?_⟩
  walk_at "rds"
  refine ⟨l1', ?_⟩
  refine ⟨_, _, rfl, rfl, by simp only [len_app2]; omega, ?_⟩
  refine ⟨_, _, rfl, rfl, by simp only [len_app2]; omega, ?_⟩
  walk_at "rds"
  refine ⟨by simp only [len_app2]; omega, ?_⟩
  have hy1 : 1 ≤ y.length ∧ y.length ≤ 40 := by omega
  obtain ⟨pc, hpc, tpc, lpc⟩ : ∃ pc : Str, Str.ofString "P " ++ Str.ofString (toString (g : Int)) ++ Str.ofString " " ++ Str.ofString (toString (p : Int)) ++ Str.ofString " " ++ Str.ofString (toString (l : Int)) ++ Str.ofString " " ++ y = pc ∧
      pc.cps.toList = [80, 32] ++ TL.numL g ++ [32] ++ TL.numL p ++ [32] ++ TL.numL l ++ [32] ++ y.cps.toList ∧ pc.length ≤ 150 := ⟨_, rfl, by simp only [app_tl, gt, pt, lt]; rfl, by simp only [len_app2]; omega⟩
  rw [hpc]
  walk_at "rds"
  refine ⟨g1', ?_⟩
  refine ⟨_, _, rfl, rfl, by omega, ?_⟩
  refine ⟨_, _, rfl, rfl, by simp only [len_app2]; omega, ?_⟩
  walk_at "rds"
  refine ⟨a1', ?_⟩
  refine ⟨_, _, rfl, rfl, by simp only [len_app2]; omega, ?_⟩
  obtain ⟨hd, hhd, thd, lhd⟩ : ∃ hd : Str, Str.ofString "H " ++ Str.ofString (toString (g : Int)) ++ Str.ofString " " ++ Str.ofString (toString (ar : Int)) = hd ∧
      hd.cps.toList = [72, 32] ++ TL.numL g ++ [32] ++ TL.numL ar ∧ hd.length ≤ 150 := ⟨_, rfl, by simp only [app_tl, gt, at']; rfl, by simp only [len_app2]; omega⟩
  rw [hhd]
  walk_at "rds"
  refine ⟨g, p, l, y, rfl, g2, by omega, by omega, by omega, fun z1 t1 => ?_⟩
  have e1 : z1 = pc := str_eq_l.mpr (t1.trans tpc.symm)
  subst e1
  walk_at "rds"
  refine ifF (by rw [decide_eq_true rfl]; rfl) ?_
  walk_at "rds"
  refine ⟨g, ar, rfl, g2, by omega, fun z2 t2 => ?_⟩
  have e2 : z2 = hd := str_eq_l.mpr (t2.trans thd.symm)
  subst e2
  walk_at "rds"
  refine ifF (by rw [decide_eq_true rfl]; rfl) ?_
  walk_at "rds"
  have kg : (TL.numL g).length ≤ 20 := TL.numL_len (k := 20) (by decide) (Nat.lt_of_le_of_lt g2 (by decide))
  have kp : (TL.numL p).length ≤ 10 := TL.numL_len (k := 10) (by decide) (Nat.lt_of_le_of_lt p2 (by decide))
  have kl : (TL.numL l).length ≤ 10 := TL.numL_len (k := 10) (by decide) (Nat.lt_of_le_of_lt l2 (by decide))
  have hyl := len_tl y
  refine ⟨by omega, fun H3 v s3 hv => ?_⟩
  rw [t1, sec_piece g1 (by omega) (by omega) (by omega)] at hv
  walk_at "rds"
  refine fun b hb => ⟨v, .ref b, _, rfl, hv.same (same_upd hb), ⟨b, rfl, upd_same⟩, fun H4 s4 => ?_⟩
  have hS4 := sqSame (sqSame (sqSame hS2 s3) (same_upd hb)) s4
  clear hv s3 s4
  walk_at "rds"
  refine ⟨by omega, fun H5 v s5 hv => ?_⟩
  rw [t2, sec_head g1 (by omega) (by omega)] at hv
  walk_at "rds"
  refine fun b hb => ⟨v, .ref b, _, rfl, hv.same (same_upd hb), ⟨b, rfl, upd_same⟩, fun H6 s6 => ?_⟩
  have hS6 := sqSame (sqSame (sqSame hS4 s5) (same_upd hb)) s6
  walk_at "rds"
  refine ⟨by decide, fun H7 v s7 hv => ?_⟩
  have hS7 := sqSame hS6 s7
  have hv : v = .non := hv
  subst hv
  walk_at "rds"
  refine ⟨fun σ' H' => H' = H7 ∧ ∃ z : Str, σ' = [some (.ref a), some (.int g), some (.int p), some (.int l), some (.int ar), some (.str y), some (.str z1), some (.str z2), some (.str z), none] ∧ z.length ≤ 150, ?_, ?_⟩
  · walk_at "rds"
    refine ⟨a, ns, 3, rfl, hS7, ?_⟩
    walk_at "rds"
    refine ite2 (fun _ => ?_) (fun _ => ?_)
    · walk_at "rds"
      exact ⟨rfl, _, rfl, lhd⟩
    · exact ⟨rfl, _, rfl, lpc⟩
  rintro σ' H8 ⟨e8, z, rfl, lz⟩
  subst e8
  walk_at "rds"
  refine ⟨a, _, rfl, .inl hS7, ?_⟩
  delta tNil
  refine ⟨_, _, rfl, ?_⟩
  rw [List.length_map]
  obtain ⟨mx, hmx, m1⟩ : ∃ mx : Nat, (if (ns.length : Int) > 7 then (ns.length : Int) else 7) = (mx : Int) ∧ mx ≤ 63 := by
    by_cases h : (ns.length : Int) > 7
    · exact ⟨ns.length, if_pos h, hlen⟩
    · exact ⟨7, if_neg h, by decide⟩
  rw [hmx]
  walk_at "rds"
  refine ⟨6, (mx : Int), rfl, ⟨by omega, by omega, by omega, by omega⟩, ?_⟩
  refine for_it walk_range (Pv := fun i σ H' => ∃ (z : Str) (y9 : Option V), σ = [some (.ref a), some (.int g), some (.int p), some (.int l), some (.int ar), some (.str y), some (.str z1), some (.str z2), some (.str z), y9] ∧ z.length ≤ 150 ∧ SqL K H' a (ns.map V.int)) ⟨z, none, rfl, lz, hS7⟩ (fun _ _ _ _ _ => trivial) (fun i x σ H3 H4 hi hp hy => ?_) (fun σ H3 hp => ?_)
  · obtain ⟨z, y9, rfl, lz, hS3⟩ := hp
    obtain ⟨rfl, rfl⟩ := hy
    have ek : V.int (6 + (i : Int)) = V.int ((6 + i : Nat) : Int) := congrArg V.int (by omega)
    walk_at "rds"
    refine ⟨a, ns, 6 + i, by show [V.ref a, V.int (6 + (i : Int))] = _; rw [ek], hS3, ?_⟩
    walk_at "rds"
    refine ⟨a, ns, 6 + i, by show [V.ref a, V.int (6 + (i : Int))] = _; rw [ek], hS3, ?_⟩
    walk_at "rds"
    refine ⟨z, _, _, rfl, by omega, fun H5 y5 s5 ly => ?_⟩
    have hS5 := sqSame hS3 s5
    have lc : (cutS y5 none (some (150 : Nat))).length ≤ 150 := by
      rw [← len_tl, cut_to, List.length_take]; omega
    have lc : (cutS y5 none (some 150)).length ≤ 150 := lc
    walk_at "rds"
    generalize cutS y5 none (some 150) = yy at lc ⊢
    refine ⟨by omega, fun H6 v s6 hv => ?_⟩
    walk_at "rds"
    refine ⟨by omega, fun H7 v2 s7 hv2 => ?_⟩
    walk_at "rds"
    refine ⟨v, v2, _, rfl, hv.same s7, hv2, fun H8 s8 => ?_⟩
    walk_at "rds"
    exact ⟨yy, _, rfl, lc, sqSame (sqSame (sqSame hS5 s6) s7) s8⟩
  · obtain ⟨z, y9, rfl, lz, hS3⟩ := hp
    walk_at "rds"
    exact q _
end

theorem fin {P : Program} {w : World} {K : PySem.W.Frag} {mg : Str → Option Value} {fa : Addr} (hfa : mg "law" = some (.ref fa)) (T : Txt K mg) :
    ∃ fd : FuncData, (∀ (s : Shared) (u : Value), BindsTo s fd ⟨[u], []⟩ [("script", u)]) ∧ ∀ base : Heap, K.In base → base.Ns mainGlobals mg → FnOk P w K mg base L2.CX0 6 fa fd ["script"] (spLaw K) := by
  obtain ⟨f, fd, F, hm, b⟩ := T.d_law.ex
  cases hfa.symm.trans hm
  refine ⟨fd, fun s u => ?_, fun base _ _ => ok_law F T⟩
  obtain ⟨oc, od, kV, doc, pm, an, cdv, ct, osl, rfl, l, _⟩ := F.ex
  exact .of_eq rfl

theorem all_mk {K : PySem.W.Frag} {h : Heap} {mg : Str → Option Value} (X : K.In h) (G : h.Ns mainGlobals mg)
    {f_is_decimal : Addr} {od_is_decimal an_is_decimal : Option Addr} {sl_is_decimal : Array (Option Value)} {oc_is_decimal kV_is_decimal dc_is_decimal pm_is_decimal cd_is_decimal ct_is_decimal : Value}
    {f_format_head : Addr} {od_format_head an_format_head : Option Addr} {sl_format_head : Array (Option Value)} {oc_format_head kV_format_head dc_format_head pm_format_head cd_format_head ct_format_head : Value}
    {f_format_piece : Addr} {od_format_piece an_format_piece : Option Addr} {sl_format_piece : Array (Option Value)} {oc_format_piece kV_format_piece dc_format_piece pm_format_piece cd_format_piece ct_format_piece : Value}
    {f_parse_sector : Addr} {od_parse_sector an_parse_sector : Option Addr} {sl_parse_sector : Array (Option Value)} {oc_parse_sector kV_parse_sector dc_parse_sector pm_parse_sector cd_parse_sector ct_parse_sector : Value}
    {f_parse_head : Addr} {od_parse_head an_parse_head : Option Addr} {sl_parse_head : Array (Option Value)} {oc_parse_head kV_parse_head dc_parse_head pm_parse_head cd_parse_head ct_parse_head : Value}
    {f_parse_piece : Addr} {od_parse_piece an_parse_piece : Option Addr} {sl_parse_piece : Array (Option Value)} {oc_parse_piece kV_parse_piece dc_parse_piece pm_parse_piece cd_parse_piece ct_parse_piece : Value}
    {f_is_generation : Addr} {od_is_generation an_is_generation : Option Addr} {sl_is_generation : Array (Option Value)} {oc_is_generation kV_is_generation dc_is_generation pm_is_generation cd_is_generation ct_is_generation : Value}
    {f__law_cell : Addr} {od__law_cell an__law_cell : Option Addr} {sl__law_cell : Array (Option Value)} {oc__law_cell kV__law_cell dc__law_cell pm__law_cell cd__law_cell ct__law_cell : Value}
    {f__law_is_integer : Addr} {od__law_is_integer an__law_is_integer : Option Addr} {sl__law_is_integer : Array (Option Value)} {oc__law_is_integer kV__law_is_integer dc__law_is_integer pm__law_is_integer cd__law_is_integer ct__law_is_integer : Value}
    {f__law_text : Addr} {od__law_text an__law_text : Option Addr} {sl__law_text : Array (Option Value)} {oc__law_text kV__law_text dc__law_text pm__law_text cd__law_text ct__law_text : Value}
    {f__law_number : Addr} {od__law_number an__law_number : Option Addr} {sl__law_number : Array (Option Value)} {oc__law_number kV__law_number dc__law_number pm__law_number cd__law_number ct__law_number : Value}
    {f__law_parse : Addr} {od__law_parse an__law_parse : Option Addr} {sl__law_parse : Array (Option Value)} {oc__law_parse kV__law_parse dc__law_parse pm__law_parse cd__law_parse ct__law_parse : Value}
    {f__law_change : Addr} {od__law_change an__law_change : Option Addr} {sl__law_change : Array (Option Value)} {oc__law_change kV__law_change dc__law_change pm__law_change cd__law_change ct__law_change : Value}
    {f__law_same : Addr} {od__law_same an__law_same : Option Addr} {sl__law_same : Array (Option Value)} {oc__law_same kV__law_same dc__law_same pm__law_same cd__law_same ct__law_same : Value}
    {f_law : Addr} {od_law an_law : Option Addr} {sl_law : Array (Option Value)} {oc_law kV_law dc_law pm_law cd_law ct_law : Value}
    {t_PIECE_SIZE : Tok}
    {t_SECTOR_SIZE : Tok}
    (a_is_decimal : PySem.W.nsIn K mainGlobals "is_decimal" = some (some (.ref f_is_decimal)))
    (l_is_decimal : K.lookup f_is_decimal = some ⟨oc_is_decimal, od_is_decimal, .func (PySem.W.fnOf "is_decimal" "is_decimal" (defArgs s_is_decimal) (defBody s_is_decimal) (defScope s_is_decimal) .none kV_is_decimal dc_is_decimal pm_is_decimal an_is_decimal cd_is_decimal ct_is_decimal), sl_is_decimal⟩)
    (e_is_decimal : PySem.W.codeIn K cd_is_decimal "is_decimal" = true)
    (k_is_decimal : PySem.W.keepIn K (.ref f_is_decimal) = true)
    (a_format_head : PySem.W.nsIn K mainGlobals "format_head" = some (some (.ref f_format_head)))
    (l_format_head : K.lookup f_format_head = some ⟨oc_format_head, od_format_head, .func (PySem.W.fnOf "format_head" "format_head" (defArgs s_format_head) (defBody s_format_head) (defScope s_format_head) .none kV_format_head dc_format_head pm_format_head an_format_head cd_format_head ct_format_head), sl_format_head⟩)
    (e_format_head : PySem.W.codeIn K cd_format_head "format_head" = true)
    (k_format_head : PySem.W.keepIn K (.ref f_format_head) = true)
    (a_format_piece : PySem.W.nsIn K mainGlobals "format_piece" = some (some (.ref f_format_piece)))
    (l_format_piece : K.lookup f_format_piece = some ⟨oc_format_piece, od_format_piece, .func (PySem.W.fnOf "format_piece" "format_piece" (defArgs s_format_piece) (defBody s_format_piece) (defScope s_format_piece) .none kV_format_piece dc_format_piece pm_format_piece an_format_piece cd_format_piece ct_format_piece), sl_format_piece⟩)
    (e_format_piece : PySem.W.codeIn K cd_format_piece "format_piece" = true)
    (k_format_piece : PySem.W.keepIn K (.ref f_format_piece) = true)
    (a_parse_sector : PySem.W.nsIn K mainGlobals "parse_sector" = some (some (.ref f_parse_sector)))
    (l_parse_sector : K.lookup f_parse_sector = some ⟨oc_parse_sector, od_parse_sector, .func (PySem.W.fnOf "parse_sector" "parse_sector" (defArgs s_parse_sector) (defBody s_parse_sector) (defScope s_parse_sector) .none kV_parse_sector dc_parse_sector pm_parse_sector an_parse_sector cd_parse_sector ct_parse_sector), sl_parse_sector⟩)
    (e_parse_sector : PySem.W.codeIn K cd_parse_sector "parse_sector" = true)
    (k_parse_sector : PySem.W.keepIn K (.ref f_parse_sector) = true)
    (a_parse_head : PySem.W.nsIn K mainGlobals "parse_head" = some (some (.ref f_parse_head)))
    (l_parse_head : K.lookup f_parse_head = some ⟨oc_parse_head, od_parse_head, .func (PySem.W.fnOf "parse_head" "parse_head" (defArgs s_parse_head) (defBody s_parse_head) (defScope s_parse_head) .none kV_parse_head dc_parse_head pm_parse_head an_parse_head cd_parse_head ct_parse_head), sl_parse_head⟩)
    (e_parse_head : PySem.W.codeIn K cd_parse_head "parse_head" = true)
    (k_parse_head : PySem.W.keepIn K (.ref f_parse_head) = true)
    (a_parse_piece : PySem.W.nsIn K mainGlobals "parse_piece" = some (some (.ref f_parse_piece)))
    (l_parse_piece : K.lookup f_parse_piece = some ⟨oc_parse_piece, od_parse_piece, .func (PySem.W.fnOf "parse_piece" "parse_piece" (defArgs s_parse_piece) (defBody s_parse_piece) (defScope s_parse_piece) .none kV_parse_piece dc_parse_piece pm_parse_piece an_parse_piece cd_parse_piece ct_parse_piece), sl_parse_piece⟩)
    (e_parse_piece : PySem.W.codeIn K cd_parse_piece "parse_piece" = true)
    (k_parse_piece : PySem.W.keepIn K (.ref f_parse_piece) = true)
    (a_is_generation : PySem.W.nsIn K mainGlobals "is_generation" = some (some (.ref f_is_generation)))
    (l_is_generation : K.lookup f_is_generation = some ⟨oc_is_generation, od_is_generation, .func (PySem.W.fnOf "is_generation" "is_generation" (defArgs s_is_generation) (defBody s_is_generation) (defScope s_is_generation) .none kV_is_generation dc_is_generation pm_is_generation an_is_generation cd_is_generation ct_is_generation), sl_is_generation⟩)
    (e_is_generation : PySem.W.codeIn K cd_is_generation "is_generation" = true)
    (k_is_generation : PySem.W.keepIn K (.ref f_is_generation) = true)
    (a__law_cell : PySem.W.nsIn K mainGlobals "_law_cell" = some (some (.ref f__law_cell)))
    (l__law_cell : K.lookup f__law_cell = some ⟨oc__law_cell, od__law_cell, .func (PySem.W.fnOf "_law_cell" "_law_cell" (defArgs s__law_cell) (defBody s__law_cell) (defScope s__law_cell) .none kV__law_cell dc__law_cell pm__law_cell an__law_cell cd__law_cell ct__law_cell), sl__law_cell⟩)
    (e__law_cell : PySem.W.codeIn K cd__law_cell "_law_cell" = true)
    (k__law_cell : PySem.W.keepIn K (.ref f__law_cell) = true)
    (a__law_is_integer : PySem.W.nsIn K mainGlobals "_law_is_integer" = some (some (.ref f__law_is_integer)))
    (l__law_is_integer : K.lookup f__law_is_integer = some ⟨oc__law_is_integer, od__law_is_integer, .func (PySem.W.fnOf "_law_is_integer" "_law_is_integer" (defArgs s__law_is_integer) (defBody s__law_is_integer) (defScope s__law_is_integer) .none kV__law_is_integer dc__law_is_integer pm__law_is_integer an__law_is_integer cd__law_is_integer ct__law_is_integer), sl__law_is_integer⟩)
    (e__law_is_integer : PySem.W.codeIn K cd__law_is_integer "_law_is_integer" = true)
    (k__law_is_integer : PySem.W.keepIn K (.ref f__law_is_integer) = true)
    (a__law_text : PySem.W.nsIn K mainGlobals "_law_text" = some (some (.ref f__law_text)))
    (l__law_text : K.lookup f__law_text = some ⟨oc__law_text, od__law_text, .func (PySem.W.fnOf "_law_text" "_law_text" (defArgs s__law_text) (defBody s__law_text) (defScope s__law_text) .none kV__law_text dc__law_text pm__law_text an__law_text cd__law_text ct__law_text), sl__law_text⟩)
    (e__law_text : PySem.W.codeIn K cd__law_text "_law_text" = true)
    (k__law_text : PySem.W.keepIn K (.ref f__law_text) = true)
    (a__law_number : PySem.W.nsIn K mainGlobals "_law_number" = some (some (.ref f__law_number)))
    (l__law_number : K.lookup f__law_number = some ⟨oc__law_number, od__law_number, .func (PySem.W.fnOf "_law_number" "_law_number" (defArgs s__law_number) (defBody s__law_number) (defScope s__law_number) .none kV__law_number dc__law_number pm__law_number an__law_number cd__law_number ct__law_number), sl__law_number⟩)
    (e__law_number : PySem.W.codeIn K cd__law_number "_law_number" = true)
    (k__law_number : PySem.W.keepIn K (.ref f__law_number) = true)
    (a__law_parse : PySem.W.nsIn K mainGlobals "_law_parse" = some (some (.ref f__law_parse)))
    (l__law_parse : K.lookup f__law_parse = some ⟨oc__law_parse, od__law_parse, .func (PySem.W.fnOf "_law_parse" "_law_parse" (defArgs s__law_parse) (defBody s__law_parse) (defScope s__law_parse) .none kV__law_parse dc__law_parse pm__law_parse an__law_parse cd__law_parse ct__law_parse), sl__law_parse⟩)
    (e__law_parse : PySem.W.codeIn K cd__law_parse "_law_parse" = true)
    (k__law_parse : PySem.W.keepIn K (.ref f__law_parse) = true)
    (a__law_change : PySem.W.nsIn K mainGlobals "_law_change" = some (some (.ref f__law_change)))
    (l__law_change : K.lookup f__law_change = some ⟨oc__law_change, od__law_change, .func (PySem.W.fnOf "_law_change" "_law_change" (defArgs s__law_change) (defBody s__law_change) (defScope s__law_change) .none kV__law_change dc__law_change pm__law_change an__law_change cd__law_change ct__law_change), sl__law_change⟩)
    (e__law_change : PySem.W.codeIn K cd__law_change "_law_change" = true)
    (k__law_change : PySem.W.keepIn K (.ref f__law_change) = true)
    (a__law_same : PySem.W.nsIn K mainGlobals "_law_same" = some (some (.ref f__law_same)))
    (l__law_same : K.lookup f__law_same = some ⟨oc__law_same, od__law_same, .func (PySem.W.fnOf "_law_same" "_law_same" (defArgs s__law_same) (defBody s__law_same) (defScope s__law_same) .none kV__law_same dc__law_same pm__law_same an__law_same cd__law_same ct__law_same), sl__law_same⟩)
    (e__law_same : PySem.W.codeIn K cd__law_same "_law_same" = true)
    (k__law_same : PySem.W.keepIn K (.ref f__law_same) = true)
    (a_law : PySem.W.nsIn K mainGlobals "law" = some (some (.ref f_law)))
    (l_law : K.lookup f_law = some ⟨oc_law, od_law, .func (PySem.W.fnOf "law" "law" (defArgs s_law) (defBody s_law) (defScope s_law) .none kV_law dc_law pm_law an_law cd_law ct_law), sl_law⟩)
    (e_law : PySem.W.codeIn K cd_law "law" = true)
    (k_law : PySem.W.keepIn K (.ref f_law) = true)
    (a_PIECE_SIZE : PySem.W.nsIn K mainGlobals "PIECE_SIZE" = some (some (.int 40 t_PIECE_SIZE)))
    (a_SECTOR_SIZE : PySem.W.nsIn K mainGlobals "SECTOR_SIZE" = some (some (.int 96 t_SECTOR_SIZE)))
    (z_bool : PySem.W.nsIn K mainGlobals "bool" = some none)
    (z_int : PySem.W.nsIn K mainGlobals "int" = some none)
    (z_isinstance : PySem.W.nsIn K mainGlobals "isinstance" = some none)
    (z_len : PySem.W.nsIn K mainGlobals "len" = some none)
    (z_max : PySem.W.nsIn K mainGlobals "max" = some none)
    (z_range : PySem.W.nsIn K mainGlobals "range" = some none)
    (z_str : PySem.W.nsIn K mainGlobals "str" = some none)
    (z_tuple : PySem.W.nsIn K mainGlobals "tuple" = some none) : Txt K mg :=
  { d_is_decimal := ⟨_, _, (fun_mk l_is_decimal e_is_decimal k_is_decimal), PySem.W.mg_of X G a_is_decimal, ((fun_mk (st := s_is_decimal) l_is_decimal e_is_decimal k_is_decimal).binds (ps := ["word"]) fun _ _ _ _ _ _ us hl => match us, hl with | [_], _ => rfl)⟩,
    d_format_head := ⟨_, _, (fun_mk l_format_head e_format_head k_format_head), PySem.W.mg_of X G a_format_head, ((fun_mk (st := s_format_head) l_format_head e_format_head k_format_head).binds (ps := ["generation", "area"]) fun _ _ _ _ _ _ us hl => match us, hl with | [_, _], _ => rfl)⟩,
    d_format_piece := ⟨_, _, (fun_mk l_format_piece e_format_piece k_format_piece), PySem.W.mg_of X G a_format_piece, ((fun_mk (st := s_format_piece) l_format_piece e_format_piece k_format_piece).binds (ps := ["generation", "place", "left", "payload"]) fun _ _ _ _ _ _ us hl => match us, hl with | [_, _, _, _], _ => rfl)⟩,
    d_parse_sector := ⟨_, _, (fun_mk l_parse_sector e_parse_sector k_parse_sector), PySem.W.mg_of X G a_parse_sector, ((fun_mk (st := s_parse_sector) l_parse_sector e_parse_sector k_parse_sector).binds (ps := ["text"]) fun _ _ _ _ _ _ us hl => match us, hl with | [_], _ => rfl)⟩,
    d_parse_head := ⟨_, _, (fun_mk l_parse_head e_parse_head k_parse_head), PySem.W.mg_of X G a_parse_head, ((fun_mk (st := s_parse_head) l_parse_head e_parse_head k_parse_head).binds (ps := ["words"]) fun _ _ _ _ _ _ us hl => match us, hl with | [_], _ => rfl)⟩,
    d_parse_piece := ⟨_, _, (fun_mk l_parse_piece e_parse_piece k_parse_piece), PySem.W.mg_of X G a_parse_piece, ((fun_mk (st := s_parse_piece) l_parse_piece e_parse_piece k_parse_piece).binds (ps := ["words"]) fun _ _ _ _ _ _ us hl => match us, hl with | [_], _ => rfl)⟩,
    d_is_generation := ⟨_, _, (fun_mk l_is_generation e_is_generation k_is_generation), PySem.W.mg_of X G a_is_generation, ((fun_mk (st := s_is_generation) l_is_generation e_is_generation k_is_generation).binds (ps := ["word"]) fun _ _ _ _ _ _ us hl => match us, hl with | [_], _ => rfl)⟩,
    d__law_cell := ⟨_, _, (fun_mk l__law_cell e__law_cell k__law_cell), PySem.W.mg_of X G a__law_cell, ((fun_mk (st := s__law_cell) l__law_cell e__law_cell k__law_cell).binds (ps := ["script", "k"]) fun _ _ _ _ _ _ us hl => match us, hl with | [_, _], _ => rfl)⟩,
    d__law_is_integer := ⟨_, _, (fun_mk l__law_is_integer e__law_is_integer k__law_is_integer), PySem.W.mg_of X G a__law_is_integer, ((fun_mk (st := s__law_is_integer) l__law_is_integer e__law_is_integer k__law_is_integer).binds (ps := ["actual"]) fun _ _ _ _ _ _ us hl => match us, hl with | [_], _ => rfl)⟩,
    d__law_text := ⟨_, _, (fun_mk l__law_text e__law_text k__law_text), PySem.W.mg_of X G a__law_text, ((fun_mk (st := s__law_text) l__law_text e__law_text k__law_text).binds (ps := ["cell", "size"]) fun _ _ _ _ _ _ us hl => match us, hl with | [_, _], _ => rfl)⟩,
    d__law_number := ⟨_, _, (fun_mk l__law_number e__law_number k__law_number), PySem.W.mg_of X G a__law_number, ((fun_mk (st := s__law_number) l__law_number e__law_number k__law_number).binds (ps := ["text"]) fun _ _ _ _ _ _ us hl => match us, hl with | [_], _ => rfl)⟩,
    d__law_parse := ⟨_, _, (fun_mk l__law_parse e__law_parse k__law_parse), PySem.W.mg_of X G a__law_parse, ((fun_mk (st := s__law_parse) l__law_parse e__law_parse k__law_parse).binds (ps := ["text"]) fun _ _ _ _ _ _ us hl => match us, hl with | [_], _ => rfl)⟩,
    d__law_change := ⟨_, _, (fun_mk l__law_change e__law_change k__law_change), PySem.W.mg_of X G a__law_change, ((fun_mk (st := s__law_change) l__law_change e__law_change k__law_change).binds (ps := ["text", "how", "cell"]) fun _ _ _ _ _ _ us hl => match us, hl with | [_, _, _], _ => rfl)⟩,
    d__law_same := ⟨_, _, (fun_mk l__law_same e__law_same k__law_same), PySem.W.mg_of X G a__law_same, ((fun_mk (st := s__law_same) l__law_same e__law_same k__law_same).binds (ps := ["actual", "expected"]) fun _ _ _ _ _ _ us hl => match us, hl with | [_, _], _ => rfl)⟩,
    d_law := ⟨_, _, (fun_mk l_law e_law k_law), PySem.W.mg_of X G a_law, ((fun_mk (st := s_law) l_law e_law k_law).binds (ps := ["script"]) fun _ _ _ _ _ _ us hl => match us, hl with | [_], _ => rfl)⟩,
    c_PIECE_SIZE := ⟨_, PySem.W.mg_of X G a_PIECE_SIZE, _, rfl⟩,
    c_SECTOR_SIZE := ⟨_, PySem.W.mg_of X G a_SECTOR_SIZE, _, rfl⟩,
    z_bool := PySem.W.mg_none_of X G z_bool,
    z_int := PySem.W.mg_none_of X G z_int,
    z_isinstance := PySem.W.mg_none_of X G z_isinstance,
    z_len := PySem.W.mg_none_of X G z_len,
    z_max := PySem.W.mg_none_of X G z_max,
    z_range := PySem.W.mg_none_of X G z_range,
    z_str := PySem.W.mg_none_of X G z_str,
    z_tuple := PySem.W.mg_none_of X G z_tuple }
end Law
open PySem PySem.W PyProof.Rows
set_option maxRecDepth 100000 in
set_option maxHeartbeats 0 in
theorem PySem.Challenge.cw_oathledger_k14_sector_texts_holds : PySem.Challenge.rw_oathledger_k14_sector_texts.Holds := by
  w_on; o_law; k_head; (case hw => w_witness2)
  k_fill
  refine L2.walk_of (l := PySem.Challenge.rw_oathledger_k14_sector_texts) (n := 63) (k := 6) (x := "script") (CX := fun _ => L2.CX0) (sp := fun w => Law.spLaw _) rfl (by decide) rfl ⟨rfl, by decide, by decide⟩ (fun w h Y => PySem.W.kIn_of Y) ?F (fun _ _ a ns hl _ hS => ⟨a, ns, rfl, hS, hl, fun _ => rfl⟩) (fun _ _ _ _ _ h => h)
  case F =>
    intro w mg fa h KX G hmg
    refine' Law.fin hmg (Law.all_mk KX G ?a_is_decimal ?l_is_decimal ?e_is_decimal ?k_is_decimal ?a_format_head ?l_format_head ?e_format_head ?k_format_head ?a_format_piece ?l_format_piece ?e_format_piece ?k_format_piece ?a_parse_sector ?l_parse_sector ?e_parse_sector ?k_parse_sector ?a_parse_head ?l_parse_head ?e_parse_head ?k_parse_head ?a_parse_piece ?l_parse_piece ?e_parse_piece ?k_parse_piece ?a_is_generation ?l_is_generation ?e_is_generation ?k_is_generation ?a__law_cell ?l__law_cell ?e__law_cell ?k__law_cell ?a__law_is_integer ?l__law_is_integer ?e__law_is_integer ?k__law_is_integer ?a__law_text ?l__law_text ?e__law_text ?k__law_text ?a__law_number ?l__law_number ?e__law_number ?k__law_number ?a__law_parse ?l__law_parse ?e__law_parse ?k__law_parse ?a__law_change ?l__law_change ?e__law_change ?k__law_change ?a__law_same ?l__law_same ?e__law_same ?k__law_same ?a_law ?l_law ?e_law ?k_law ?a_PIECE_SIZE ?a_SECTOR_SIZE ?z_bool ?z_int ?z_isinstance ?z_len ?z_max ?z_range ?z_str ?z_tuple)
    (case a_is_decimal => k_is)
    (case l_is_decimal => k_is)
    (case e_is_decimal => k_is)
    (case k_is_decimal => k_is)
    (case a_format_head => k_is)
    (case l_format_head => k_is)
    (case e_format_head => k_is)
    (case k_format_head => k_is)
    (case a_format_piece => k_is)
    (case l_format_piece => k_is)
    (case e_format_piece => k_is)
    (case k_format_piece => k_is)
    (case a_parse_sector => k_is)
    (case l_parse_sector => k_is)
    (case e_parse_sector => k_is)
    (case k_parse_sector => k_is)
    (case a_parse_head => k_is)
    (case l_parse_head => k_is)
    (case e_parse_head => k_is)
    (case k_parse_head => k_is)
    (case a_parse_piece => k_is)
    (case l_parse_piece => k_is)
    (case e_parse_piece => k_is)
    (case k_parse_piece => k_is)
    (case a_is_generation => k_is)
    (case l_is_generation => k_is)
    (case e_is_generation => k_is)
    (case k_is_generation => k_is)
    (case a__law_cell => k_is)
    (case l__law_cell => k_is)
    (case e__law_cell => k_is)
    (case k__law_cell => k_is)
    (case a__law_is_integer => k_is)
    (case l__law_is_integer => k_is)
    (case e__law_is_integer => k_is)
    (case k__law_is_integer => k_is)
    (case a__law_text => k_is)
    (case l__law_text => k_is)
    (case e__law_text => k_is)
    (case k__law_text => k_is)
    (case a__law_number => k_is)
    (case l__law_number => k_is)
    (case e__law_number => k_is)
    (case k__law_number => k_is)
    (case a__law_parse => k_is)
    (case l__law_parse => k_is)
    (case e__law_parse => k_is)
    (case k__law_parse => k_is)
    (case a__law_change => k_is)
    (case l__law_change => k_is)
    (case e__law_change => k_is)
    (case k__law_change => k_is)
    (case a__law_same => k_is)
    (case l__law_same => k_is)
    (case e__law_same => k_is)
    (case k__law_same => k_is)
    (case a_law => k_is)
    (case l_law => k_is)
    (case e_law => k_is)
    (case k_law => k_is)
    (case a_PIECE_SIZE => k_is)
    (case a_SECTOR_SIZE => k_is)
    (case z_bool => k_is)
    (case z_int => k_is)
    (case z_isinstance => k_is)
    (case z_len => k_is)
    (case z_max => k_is)
    (case z_range => k_is)
    (case z_str => k_is)
    (case z_tuple => k_is)

