/- At which node a flow rule looks. -/
import Derived.Test.YtakmfcnmcjbbgaaRejB
namespace Go.Proofs.Ytakmfcnmcjbbgaa.RejD
set_option linter.unusedVariables false
open Go.ChangeShapes Go.WideShapes Go.ChangeAt Go.RowKit Base RejA RejB Txt

/-- a call -/
structure Cal where
  at_ : Int
  res : ByteArray
  ctx : ByteArray
  org : ByteArray
  inb : Bool
  cnt : Int
  a : Option Addr
  n : Nat
  cap : Nat

def cv (c : Cal) : Array Value := #[.int .i64 c.at_, .string c.res, .string c.ctx, .string c.org, .bool c.inb, .int .i64 c.cnt, .slice c.a c.n c.cap]

def nos : ByteArray := ⟨#[]⟩
/-- at which node -/
def lookV (f : Flow) (c : Cal) : Value :=
  if f.strat = 1 then .agg #[.string f.ref, .string nos, .string nos, .bool false]
  else if f.strat = 2 then (if f.ref = c.ctx then .agg #[.string c.res, .string c.ctx, .string nos, .bool false] else .agg #[.string nos, .string nos, .string nos, .bool true])
  else if f.org = dft then .agg #[.string c.res, .string nos, .string nos, .bool false] else .agg #[.string c.res, .string nos, .string c.org, .bool false]
def skips (f : Flow) (c : Cal) : Bool := decide (f.strat = 2) && !(decide (f.ref = c.ctx))

set_option maxRecDepth 20000 in
set_option maxHeartbeats 1000000 in
theorem Where_core (res org : ByteArray) (thr : Bool) (cnt st : Int) (ref : ByteArray) (sh warm queue : Int) (clus : Bool) (id_ : Int) (fall : Bool) (at_ : Int) (cres cctx corg : ByteArray) (inb : Bool) (ccnt : Int) (a : Option Addr) (n cap : Nat) (b1 b2 b3 b4 : Bool)
    (e1 : (st == 1) = b1) (e2 : (st == 2) = b2) (e3 : (ref.toList == cctx.toList) = b3) (e4 : (org.toList == [100, 101, 102, 97, 117, 108, 116]) = b4) (v : Value)
    (hv : Hid ((if b1 then Value.agg #[.string ref, .string ⟨#[]⟩, .string ⟨#[]⟩, .bool false] else if b2 then (if b3 then .agg #[.string cres, .string cctx, .string ⟨#[]⟩, .bool false] else .agg #[.string ⟨#[]⟩, .string ⟨#[]⟩, .string ⟨#[]⟩, .bool true])
      else if b4 then .agg #[.string cres, .string ⟨#[]⟩, .string ⟨#[]⟩, .bool false] else .agg #[.string cres, .string ⟨#[]⟩, .string corg, .bool false]) = v)) (w : World) :
    Calls Try.prog 8 #[.agg #[.string res, .string org, .bool thr, .int .i64 cnt, .int .u8 st, .string ref, .int .u8 sh, .int .i64 warm, .int .i64 queue, .bool clus, .int .i64 id_, .bool fall], .agg #[.int .i64 at_, .string cres, .string cctx, .string corg, .bool inb, .int .i64 ccnt, .slice a n cap]] w
      fun e w' => e = .returned v ∧ Below w.heap.size w w' := by
  have hvo := hv.out
  go_enter Try.func8, Try.ntmps8
  cases b1 with
  | true =>
    subst hvo
    go_wp2_with fail
    exact bodyPost_ret (v := .agg #[.string ref, .string ⟨#[]⟩, .string ⟨#[]⟩, .bool false]) (by simp [results, Try.results8, go_sem]) rfl ⟨rfl, (by repeat (first | (with_reducible exact Below.refl _ _) | (with_reducible refine Below.setCell ?_ (by first | (simp; done) | (simp; omega) | omega) _) | (with_reducible refine Below.alloc ?_ (by first | (simp; done) | (simp; omega) | omega) _) | (with_reducible refine Below.drew ?_) | (with_reducible refine below_drewN ?_ _)))⟩
  | false =>
    cases b2 with
    | true =>
      cases b3 with
      | true =>
        subst hvo
        go_wp2_with fail
        exact bodyPost_ret (v := .agg #[.string cres, .string cctx, .string ⟨#[]⟩, .bool false]) (by simp [results, Try.results8, go_sem]) rfl ⟨rfl, (by repeat (first | (with_reducible exact Below.refl _ _) | (with_reducible refine Below.setCell ?_ (by first | (simp; done) | (simp; omega) | omega) _) | (with_reducible refine Below.alloc ?_ (by first | (simp; done) | (simp; omega) | omega) _) | (with_reducible refine Below.drew ?_) | (with_reducible refine below_drewN ?_ _)))⟩
      | false =>
        subst hvo
        go_wp2_with fail
        exact bodyPost_ret (v := .agg #[.string ⟨#[]⟩, .string ⟨#[]⟩, .string ⟨#[]⟩, .bool true]) (by simp [results, Try.results8, go_sem]) rfl ⟨rfl, (by repeat (first | (with_reducible exact Below.refl _ _) | (with_reducible refine Below.setCell ?_ (by first | (simp; done) | (simp; omega) | omega) _) | (with_reducible refine Below.alloc ?_ (by first | (simp; done) | (simp; omega) | omega) _) | (with_reducible refine Below.drew ?_) | (with_reducible refine below_drewN ?_ _)))⟩
    | false =>
      cases b4 with
      | true =>
        subst hvo
        go_wp2_with fail
        exact bodyPost_ret (v := .agg #[.string cres, .string ⟨#[]⟩, .string ⟨#[]⟩, .bool false]) (by simp [results, Try.results8, go_sem]) rfl ⟨rfl, (by repeat (first | (with_reducible exact Below.refl _ _) | (with_reducible refine Below.setCell ?_ (by first | (simp; done) | (simp; omega) | omega) _) | (with_reducible refine Below.alloc ?_ (by first | (simp; done) | (simp; omega) | omega) _) | (with_reducible refine Below.drew ?_) | (with_reducible refine below_drewN ?_ _)))⟩
      | false =>
        subst hvo
        go_wp2_with fail
        exact bodyPost_ret (v := .agg #[.string cres, .string ⟨#[]⟩, .string corg, .bool false]) (by simp [results, Try.results8, go_sem]) rfl ⟨rfl, (by repeat (first | (with_reducible exact Below.refl _ _) | (with_reducible refine Below.setCell ?_ (by first | (simp; done) | (simp; omega) | omega) _) | (with_reducible refine Below.alloc ?_ (by first | (simp; done) | (simp; omega) | omega) _) | (with_reducible refine Below.drew ?_) | (with_reducible refine below_drewN ?_ _)))⟩

theorem Where_any (f : Flow) (c : Cal) (w : World) :
    Calls Try.prog 8 #[.agg (fv f), .agg (cv c)] w fun e w' => e = .returned (lookV f c) ∧ Below w.heap.size w w' := by
  refine Where_core f.res f.org f.thr f.cnt f.strat f.ref f.shape f.warm f.queue f.clus f.id_ f.fall c.at_ c.res c.ctx c.org c.inb c.cnt c.a c.n c.cap (decide (f.strat = 1)) (decide (f.strat = 2)) (decide (f.ref = c.ctx)) (decide (f.org = dft))
    (by rw [Bool.eq_iff_iff]; simp; omega) (by rw [Bool.eq_iff_iff]; simp; omega) (text_eq _ _) (eq_dft _) _ (hid ?_) w
  unfold lookV nos
  simp only [decide_eq_true_eq]

set_option maxRecDepth 20000 in
set_option maxHeartbeats 1000000 in
theorem RWhere_core (res org : ByteArray) (thr : Bool) (cnt st : Int) (ref : ByteArray) (sh warm queue : Int) (clus : Bool) (id_ : Int) (fall : Bool) (at_ : Int) (cres cctx corg : ByteArray) (inb : Bool) (ccnt : Int) (a : Option Addr) (n cap : Nat) (b1 b2 b3 b4 : Bool)
    (e1 : (st == 1) = b1) (e2 : (st == 2) = b2) (e3 : (cctx.toList == ref.toList) = b3) (e4 : (org.toList == [100, 101, 102, 97, 117, 108, 116]) = b4) (v : Value)
    (hv : Hid ((if b1 then Value.agg #[.string ref, .string ⟨#[]⟩, .string ⟨#[]⟩, .bool false] else if b2 then (if b3 then .agg #[.string cres, .string cctx, .string ⟨#[]⟩, .bool false] else .agg #[.string ⟨#[]⟩, .string ⟨#[]⟩, .string ⟨#[]⟩, .bool true])
      else if b4 then .agg #[.string cres, .string ⟨#[]⟩, .string ⟨#[]⟩, .bool false] else .agg #[.string cres, .string ⟨#[]⟩, .string corg, .bool false]) = v)) (w : World) :
    Calls Try.prog 9 #[.agg #[.string res, .string org, .bool thr, .int .i64 cnt, .int .u8 st, .string ref, .int .u8 sh, .int .i64 warm, .int .i64 queue, .bool clus, .int .i64 id_, .bool fall], .agg #[.int .i64 at_, .string cres, .string cctx, .string corg, .bool inb, .int .i64 ccnt, .slice a n cap]] w
      fun e w' => e = .returned v ∧ Below w.heap.size w w' := by
  have hvo := hv.out
  go_enter Try.func9, Try.ntmps9
  cases b1 with
  | true =>
    subst hvo
    go_wp2_with fail
    exact bodyPost_ret (v := .agg #[.string ref, .string ⟨#[]⟩, .string ⟨#[]⟩, .bool false]) (by simp [results, Try.results9, go_sem]) rfl ⟨rfl, (by repeat (first | (with_reducible exact Below.refl _ _) | (with_reducible refine Below.setCell ?_ (by first | (simp; done) | (simp; omega) | omega) _) | (with_reducible refine Below.alloc ?_ (by first | (simp; done) | (simp; omega) | omega) _) | (with_reducible refine Below.drew ?_) | (with_reducible refine below_drewN ?_ _)))⟩
  | false =>
    cases b2 with
    | true =>
      cases b3 with
      | true =>
        subst hvo
        go_wp2_with fail
        exact bodyPost_ret (v := .agg #[.string cres, .string cctx, .string ⟨#[]⟩, .bool false]) (by simp [results, Try.results9, go_sem]) rfl ⟨rfl, (by repeat (first | (with_reducible exact Below.refl _ _) | (with_reducible refine Below.setCell ?_ (by first | (simp; done) | (simp; omega) | omega) _) | (with_reducible refine Below.alloc ?_ (by first | (simp; done) | (simp; omega) | omega) _) | (with_reducible refine Below.drew ?_) | (with_reducible refine below_drewN ?_ _)))⟩
      | false =>
        subst hvo
        go_wp2_with fail
        exact bodyPost_ret (v := .agg #[.string ⟨#[]⟩, .string ⟨#[]⟩, .string ⟨#[]⟩, .bool true]) (by simp [results, Try.results9, go_sem]) rfl ⟨rfl, (by repeat (first | (with_reducible exact Below.refl _ _) | (with_reducible refine Below.setCell ?_ (by first | (simp; done) | (simp; omega) | omega) _) | (with_reducible refine Below.alloc ?_ (by first | (simp; done) | (simp; omega) | omega) _) | (with_reducible refine Below.drew ?_) | (with_reducible refine below_drewN ?_ _)))⟩
    | false =>
      cases b4 with
      | true =>
        subst hvo
        go_wp2_with fail
        exact bodyPost_ret (v := .agg #[.string cres, .string ⟨#[]⟩, .string ⟨#[]⟩, .bool false]) (by simp [results, Try.results9, go_sem]) rfl ⟨rfl, (by repeat (first | (with_reducible exact Below.refl _ _) | (with_reducible refine Below.setCell ?_ (by first | (simp; done) | (simp; omega) | omega) _) | (with_reducible refine Below.alloc ?_ (by first | (simp; done) | (simp; omega) | omega) _) | (with_reducible refine Below.drew ?_) | (with_reducible refine below_drewN ?_ _)))⟩
      | false =>
        subst hvo
        go_wp2_with fail
        exact bodyPost_ret (v := .agg #[.string cres, .string ⟨#[]⟩, .string corg, .bool false]) (by simp [results, Try.results9, go_sem]) rfl ⟨rfl, (by repeat (first | (with_reducible exact Below.refl _ _) | (with_reducible refine Below.setCell ?_ (by first | (simp; done) | (simp; omega) | omega) _) | (with_reducible refine Below.alloc ?_ (by first | (simp; done) | (simp; omega) | omega) _) | (with_reducible refine Below.drew ?_) | (with_reducible refine below_drewN ?_ _)))⟩

theorem RWhere_any (f : Flow) (c : Cal) (w : World) :
    Calls Try.prog 9 #[.agg (fv f), .agg (cv c)] w fun e w' => e = .returned (lookV f c) ∧ Below w.heap.size w w' := by
  refine RWhere_core f.res f.org f.thr f.cnt f.strat f.ref f.shape f.warm f.queue f.clus f.id_ f.fall c.at_ c.res c.ctx c.org c.inb c.cnt c.a c.n c.cap (decide (f.strat = 1)) (decide (f.strat = 2)) (decide (f.ref = c.ctx)) (decide (f.org = dft))
    (by rw [Bool.eq_iff_iff]; simp; omega) (by rw [Bool.eq_iff_iff]; simp; omega) ((text_eq _ _).trans (by rw [decide_eq_decide]; exact eq_comm)) (eq_dft _) _ (hid ?_) w
  unfold lookV nos
  simp only [decide_eq_true_eq]

end Go.Proofs.Ytakmfcnmcjbbgaa.RejD
