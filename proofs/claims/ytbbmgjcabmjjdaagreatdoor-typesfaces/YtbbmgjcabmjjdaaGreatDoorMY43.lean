/- layer 15's helpers: method, with, faults. -/
import Derived.Test.YtbbmgjcabmjjdaaGreatDoorMQLts
import Derived.Test.YtbbmgjcabmjjdaaGreatDoorMY40
import Derived.Test.YtbbmgjcabmjjdaaGreatDoorMQHqf
import Derived.Test.YtbbmgjcabmjjdaaGreatDoorMQHqm
import Derived.Test.YtbbmgjcabmjjdaaGreatDoorMGT1
namespace Go.Proofs.YtbbmgjcabmjjdaaGreatDoor
open Go.RowKit

theorem hvi_ok {p : Pg} (hO : Okl p) {c : Int} (hc : isJ p c = true) : HVi p c (upL p c).vir := by
  intro w S v vs h1 h2 hS
  obtain ⟨-, l2, l3⟩ := upL_ok hO hc
  have o := hO.cl hc
  exact virtual_ok hc h1 h2 hS l2 l3 o.args o.nmm
theorem own_sl {w : World} {base : Nat} {v : Value} {xs : List Int} (h : w.ownsRow base 3 1 v xs.length (xs.map fun x => Value.int .i64 x)) : Sl kIU w (fun b => base ≤ b ∧ b < w.heap.size) v xs := by
  have e : ∀ ys : List Int, (ys.map fun x => [Value.int .i64 x]).flatten = ys.map fun x => Value.int .i64 x := fun ys => by
    induction ys with
    | nil => rfl
    | cons y ys ih => rw [List.map_cons, List.flatten_cons, ih]; rfl
  have hg : Gro kIU 3 base w v xs := ⟨xs.map fun x => [Value.int .i64 x], by simp, fun i x hx => ⟨[.int .i64 x], by rw [List.getElem?_map, hx]; rfl, rfl⟩, by rw [e]; exact h⟩
  exact hg.sl
theorem hab_ok {p : Pg} (hO : Okl p) (k5 : Kp5 p) {c : Int} (hc : isJ p c = true) : HAb p c := by
  intro w S v h hS
  refine (above_ok k5.sup k5.face k5.b1 k5.b2 k5.b3 hO.okz.n (fun k hk => (hO.cl hk).nfc) h hS hc).mono ?_
  rintro e w' ⟨v', rfl, h1, h2⟩
  exact ⟨v', rfl, h2, own_sl h1⟩
theorem hly_ok {p : Pg} (hO : Okl p) : HLy p := by
  intro S u v h hS h5
  exact layouts_ok hO (fun c hc => hvi_ok hO hc) (fun c hc => hab_ok hO (kp5_of h5) hc) S u v h hS h5
/-- load.Load. -/
theorem load_any {S : Nat → Prop} {p : Pg} {cs : List Value} {w : World} (hO : Okl p) (hS : ∀ k, S k → k < w.heap.size) (hR : kPg.R w S p cs) : Calls Tryz.prog 5 #[.agg cs.toArray] w (LdQ p w) :=
  loadQ_of hO.okz.q hqF_ok hqM_ok (hly_ok hO) hS hR
end Go.Proofs.YtbbmgjcabmjjdaaGreatDoor
namespace Go.Proofs.YtbbmgjcabmjjdaaGreatDoor
open Go.RowKit Go.Deep

/-- What Find answers. -/
def fndT (ls : List Ly) (k : Int) (nm : ByteArray) (xs : List Int) (ret : Int) : Int × Int × Bool := if inT ls k then match OfJ (lyAt ls k).vir nm xs ret with
  | some i => match (lyAt ls k).vir[i]? with
    | some e => (e.cl, e.me, true)
    | none => (-1, -1, false)
  | none => (-1, -1, false) else (-1, -1, false)
end Go.Proofs.YtbbmgjcabmjjdaaGreatDoor
namespace Go.Proofs.YtbbmgjcabmjjdaaGreatDoor
open Go.RowKit

def rgB (x : Int) : Bool := decide (-9223372036854775808 ≤ x) && decide (x ≤ 9223372036854775807)
theorem rgB_ok {x : Int} (h : rgB x = true) : rg x := by
  unfold rgB at h
  rw [Bool.and_eq_true, decide_eq_true_eq, decide_eq_true_eq] at h
  exact h
def okmB (m : Md) : Bool := decide (m.args.length ≤ 1048576) && (m.args.all rgB && (rgB m.ret && (rgB m.lo && decide (m.nm.size ≤ 281474976710656))))
def okfB (f : Fd) : Bool := rgB f.ty && decide (f.nm.size ≤ 281474976710656)
def okcB (c : Cs) : Bool := rgB c.sup && (decide (c.faces.length ≤ 262144) && (c.faces.all rgB && (decide (c.flds.length ≤ 1000) && (c.flds.all okfB && (decide (c.stcs.length ≤ 1000) && (c.stcs.all okfB && (decide (c.mds.length ≤ 1000) && c.mds.all okmB)))))))
def okB (p : Pg) : Bool := rgB p.main && (decide (p.cls.length ≤ 1000) && p.cls.all okcB)
theorem okl_of {p : Pg} (h : okB p = true) : Okl p := by
  unfold okB at h
  simp only [Bool.and_eq_true, decide_eq_true_eq, List.all_eq_true] at h
  obtain ⟨h1, h2, h3⟩ := h
  have hc : ∀ c ∈ p.cls, OkC c ∧ (∀ f ∈ c.flds, f.nm.size ≤ 281474976710656) ∧ (∀ m ∈ c.mds, m.nm.size ≤ 281474976710656) ∧ c.faces.length ≤ 262144 := fun c hc => by
    have q := h3 c hc
    unfold okcB at q
    simp only [Bool.and_eq_true, decide_eq_true_eq, List.all_eq_true] at q
    obtain ⟨q1, q2, q3, q4, q5, q6, q7, q8, q9⟩ := q
    have qf : ∀ f, okfB f = true → rg f.ty ∧ f.nm.size ≤ 281474976710656 := fun f hf => by
      unfold okfB at hf
      simp only [Bool.and_eq_true, decide_eq_true_eq] at hf
      exact ⟨rgB_ok hf.1, hf.2⟩
    have qm : ∀ m, okmB m = true → OkM m ∧ m.nm.size ≤ 281474976710656 := fun m hm => by
      unfold okmB at hm
      simp only [Bool.and_eq_true, decide_eq_true_eq, List.all_eq_true] at hm
      obtain ⟨a, b, d, e, f⟩ := hm
      exact ⟨⟨a, fun x hx => rgB_ok (b x hx), rgB_ok d, rgB_ok e⟩, f⟩
    exact ⟨⟨rgB_ok q1, by omega, fun x hx => rgB_ok (q3 x hx), q4, fun f hf => (qf f (q5 f hf)).1, by omega, fun f hf => (qf f (q7 f hf)).1, q8, fun m hm => (qm m (q9 m hm)).1⟩, fun f hf => (qf f (q5 f hf)).2, fun m hm => (qm m (q9 m hm)).2, q2⟩
  exact ⟨⟨rgB_ok h1, h2, fun c h => (hc c h).1⟩, fun c h => (hc c h).2.1, fun c h => (hc c h).2.2.1, fun c h => (hc c h).2.2.2⟩
def p99 : Pg := ⟨99, []⟩
theorem tiny_okl : Okl tinyP := okl_of (by kernel_rfl)
theorem p99_okl : Okl p99 := okl_of (by kernel_rfl)
theorem p99_load : loadJ p99 = .error (1505, 99) := by kernel_rfl
theorem tiny_find : fndT tinyLs 9 ⟨#[114, 117, 110]⟩ [] 0 = (9, 0, true) := by kernel_rfl
theorem tiny_is1 : isLy tinyLs 3 1 = true := by kernel_rfl
theorem tiny_is2 : isLy tinyLs 11 9 = false := by kernel_rfl
end Go.Proofs.YtbbmgjcabmjjdaaGreatDoor
namespace Go.Proofs.YtbbmgjcabmjjdaaGreatDoor
open Go.RowKit

/-- Tiny's row of classes. -/
def tinyV (w : World) : Array Value := #[.string ⟨#[77]⟩, .bool false, .bool false, .int .i64 0, .slice none 0 0, .slice none 0 0, .slice none 0 0, .slice (some ⟨w.heap.size + 1 + 1 + 1, 0, none⟩) 1 1]
structure TnB (w w' : World) : Prop where
  bel : Below w.heap.size w w'
  sz : w.heap.size + 4 < w'.heap.size
  ex : ∃ cs : Array Value, w'.heap[w.heap.size + 4]? = some (.cells cs 34 (0, 0)) ∧ kCs.R w' (fun k => w.heap.size ≤ k ∧ k < w.heap.size + 4) tinyC cs.toList
set_option maxHeartbeats 2000000 in
set_option maxRecDepth 20000 in
theorem tiny_own (w : World) : Calls Tryz.prog 9 #[] w fun e w' => e = .returned (.agg #[.int .i64 11, .slice (some ⟨w.heap.size + 4, 0, none⟩) 1 1]) ∧ Hid (TnB w w') := by
  go_enter Tryz.func9, Tryz.ntmps9
  go_wp2
  have s1 : (w.alloc (.cells #[.int .i64 11, .slice (some ⟨w.heap.size + 1 + 1 + 1 + 1, 0, none⟩) 1 1] 37)).heap.size = w.heap.size + 1 := by simp
  have s2 : ((w.alloc (.cells #[.int .i64 11, .slice (some ⟨w.heap.size + 1 + 1 + 1 + 1, 0, none⟩) 1 1] 37)).alloc (.cells #[.int .i64 29, .int .i64 0, .int .i64 0] 24)).heap.size = w.heap.size + 1 + 1 := by simp
  have s3 : (((w.alloc (.cells #[.int .i64 11, .slice (some ⟨w.heap.size + 1 + 1 + 1 + 1, 0, none⟩) 1 1] 37)).alloc (.cells #[.int .i64 29, .int .i64 0, .int .i64 0] 24)).alloc (.cells #[.string ⟨#[109, 97, 105, 110]⟩, .bool true, .slice none 0 0, .int .i64 0, .int .i64 0, .int .i64 0, .slice (some ⟨w.heap.size + 1, 0, none⟩) 1 1, .slice none 0 0, .slice none 0 0] 30)).heap.size = w.heap.size + 1 + 1 + 1 := by simp
  have s4 : ((((w.alloc (.cells #[.int .i64 11, .slice (some ⟨w.heap.size + 1 + 1 + 1 + 1, 0, none⟩) 1 1] 37)).alloc (.cells #[.int .i64 29, .int .i64 0, .int .i64 0] 24)).alloc (.cells #[.string ⟨#[109, 97, 105, 110]⟩, .bool true, .slice none 0 0, .int .i64 0, .int .i64 0, .int .i64 0, .slice (some ⟨w.heap.size + 1, 0, none⟩) 1 1, .slice none 0 0, .slice none 0 0] 30)).alloc (.cells #[.string ⟨#[109, 97, 105, 110]⟩, .bool true, .slice none 0 0, .int .i64 0, .int .i64 0, .int .i64 0, .slice (some ⟨w.heap.size + 1, 0, none⟩) 1 1, .slice none 0 0, .slice none 0 0] 30)).heap.size = w.heap.size + 1 + 1 + 1 + 1 := by simp
  have b1 := heap_alloc_new w (.cells #[.int .i64 11, .slice (some ⟨w.heap.size + 1 + 1 + 1 + 1, 0, none⟩) 1 1] 37)
  have b2 := heap_alloc_new (w.alloc (.cells #[.int .i64 11, .slice (some ⟨w.heap.size + 1 + 1 + 1 + 1, 0, none⟩) 1 1] 37)) (.cells #[.int .i64 29, .int .i64 0, .int .i64 0] 24)
  have b4 := heap_alloc_new (((w.alloc (.cells #[.int .i64 11, .slice (some ⟨w.heap.size + 1 + 1 + 1 + 1, 0, none⟩) 1 1] 37)).alloc (.cells #[.int .i64 29, .int .i64 0, .int .i64 0] 24)).alloc (.cells #[.string ⟨#[109, 97, 105, 110]⟩, .bool true, .slice none 0 0, .int .i64 0, .int .i64 0, .int .i64 0, .slice (some ⟨w.heap.size + 1, 0, none⟩) 1 1, .slice none 0 0, .slice none 0 0] 30)) (.cells #[.string ⟨#[109, 97, 105, 110]⟩, .bool true, .slice none 0 0, .int .i64 0, .int .i64 0, .int .i64 0, .slice (some ⟨w.heap.size + 1, 0, none⟩) 1 1, .slice none 0 0, .slice none 0 0] 30)
  have b5 := heap_alloc_new ((((w.alloc (.cells #[.int .i64 11, .slice (some ⟨w.heap.size + 1 + 1 + 1 + 1, 0, none⟩) 1 1] 37)).alloc (.cells #[.int .i64 29, .int .i64 0, .int .i64 0] 24)).alloc (.cells #[.string ⟨#[109, 97, 105, 110]⟩, .bool true, .slice none 0 0, .int .i64 0, .int .i64 0, .int .i64 0, .slice (some ⟨w.heap.size + 1, 0, none⟩) 1 1, .slice none 0 0, .slice none 0 0] 30)).alloc (.cells #[.string ⟨#[109, 97, 105, 110]⟩, .bool true, .slice none 0 0, .int .i64 0, .int .i64 0, .int .i64 0, .slice (some ⟨w.heap.size + 1, 0, none⟩) 1 1, .slice none 0 0, .slice none 0 0] 30)) (.cells #[.string ⟨#[77]⟩, .bool false, .bool false, .int .i64 0, .slice none 0 0, .slice none 0 0, .slice none 0 0, .slice (some ⟨w.heap.size + 1 + 1 + 1, 0, none⟩) 1 1] 34)
  rw [s1] at b2
  rw [s3] at b4
  rw [s4] at b5
  have hB : Below w.heap.size w (((((w.alloc (.cells #[.int .i64 11, .slice (some ⟨w.heap.size + 1 + 1 + 1 + 1, 0, none⟩) 1 1] 37)).alloc (.cells #[.int .i64 29, .int .i64 0, .int .i64 0] 24)).alloc (.cells #[.string ⟨#[109, 97, 105, 110]⟩, .bool true, .slice none 0 0, .int .i64 0, .int .i64 0, .int .i64 0, .slice (some ⟨w.heap.size + 1, 0, none⟩) 1 1, .slice none 0 0, .slice none 0 0] 30)).alloc (.cells #[.string ⟨#[109, 97, 105, 110]⟩, .bool true, .slice none 0 0, .int .i64 0, .int .i64 0, .int .i64 0, .slice (some ⟨w.heap.size + 1, 0, none⟩) 1 1, .slice none 0 0, .slice none 0 0] 30)).alloc (.cells #[.string ⟨#[77]⟩, .bool false, .bool false, .int .i64 0, .slice none 0 0, .slice none 0 0, .slice none 0 0, .slice (some ⟨w.heap.size + 1 + 1 + 1, 0, none⟩) 1 1] 34)) := (((((Below.refl _ _).alloc (Nat.le_refl _) _).alloc (by omega) _).alloc (by omega) _).alloc (by omega) _).alloc (by omega) _
  have c1 : (((((w.alloc (.cells #[.int .i64 11, .slice (some ⟨w.heap.size + 1 + 1 + 1 + 1, 0, none⟩) 1 1] 37)).alloc (.cells #[.int .i64 29, .int .i64 0, .int .i64 0] 24)).alloc (.cells #[.string ⟨#[109, 97, 105, 110]⟩, .bool true, .slice none 0 0, .int .i64 0, .int .i64 0, .int .i64 0, .slice (some ⟨w.heap.size + 1, 0, none⟩) 1 1, .slice none 0 0, .slice none 0 0] 30)).alloc (.cells #[.string ⟨#[109, 97, 105, 110]⟩, .bool true, .slice none 0 0, .int .i64 0, .int .i64 0, .int .i64 0, .slice (some ⟨w.heap.size + 1, 0, none⟩) 1 1, .slice none 0 0, .slice none 0 0] 30)).alloc (.cells #[.string ⟨#[77]⟩, .bool false, .bool false, .int .i64 0, .slice none 0 0, .slice none 0 0, .slice none 0 0, .slice (some ⟨w.heap.size + 1 + 1 + 1, 0, none⟩) 1 1] 34)).heap[w.heap.size]? = some (.cells #[.int .i64 11, .slice (some ⟨w.heap.size + 1 + 1 + 1 + 1, 0, none⟩) 1 1] 37) := by
    rw [Below.heap_alloc _ _ _ (by omega), Below.heap_alloc _ _ _ (by omega), Below.heap_alloc _ _ _ (by omega), Below.heap_alloc _ _ _ (by omega)]; exact b1
  have c2 : (((((w.alloc (.cells #[.int .i64 11, .slice (some ⟨w.heap.size + 1 + 1 + 1 + 1, 0, none⟩) 1 1] 37)).alloc (.cells #[.int .i64 29, .int .i64 0, .int .i64 0] 24)).alloc (.cells #[.string ⟨#[109, 97, 105, 110]⟩, .bool true, .slice none 0 0, .int .i64 0, .int .i64 0, .int .i64 0, .slice (some ⟨w.heap.size + 1, 0, none⟩) 1 1, .slice none 0 0, .slice none 0 0] 30)).alloc (.cells #[.string ⟨#[109, 97, 105, 110]⟩, .bool true, .slice none 0 0, .int .i64 0, .int .i64 0, .int .i64 0, .slice (some ⟨w.heap.size + 1, 0, none⟩) 1 1, .slice none 0 0, .slice none 0 0] 30)).alloc (.cells #[.string ⟨#[77]⟩, .bool false, .bool false, .int .i64 0, .slice none 0 0, .slice none 0 0, .slice none 0 0, .slice (some ⟨w.heap.size + 1 + 1 + 1, 0, none⟩) 1 1] 34)).heap[w.heap.size + 1]? = some (.cells #[.int .i64 29, .int .i64 0, .int .i64 0] 24) := by
    rw [Below.heap_alloc _ _ _ (by omega), Below.heap_alloc _ _ _ (by omega), Below.heap_alloc _ _ _ (by omega)]; exact b2
  have c4 : (((((w.alloc (.cells #[.int .i64 11, .slice (some ⟨w.heap.size + 1 + 1 + 1 + 1, 0, none⟩) 1 1] 37)).alloc (.cells #[.int .i64 29, .int .i64 0, .int .i64 0] 24)).alloc (.cells #[.string ⟨#[109, 97, 105, 110]⟩, .bool true, .slice none 0 0, .int .i64 0, .int .i64 0, .int .i64 0, .slice (some ⟨w.heap.size + 1, 0, none⟩) 1 1, .slice none 0 0, .slice none 0 0] 30)).alloc (.cells #[.string ⟨#[109, 97, 105, 110]⟩, .bool true, .slice none 0 0, .int .i64 0, .int .i64 0, .int .i64 0, .slice (some ⟨w.heap.size + 1, 0, none⟩) 1 1, .slice none 0 0, .slice none 0 0] 30)).alloc (.cells #[.string ⟨#[77]⟩, .bool false, .bool false, .int .i64 0, .slice none 0 0, .slice none 0 0, .slice none 0 0, .slice (some ⟨w.heap.size + 1 + 1 + 1, 0, none⟩) 1 1] 34)).heap[w.heap.size + 1 + 1 + 1]? = some (.cells #[.string ⟨#[109, 97, 105, 110]⟩, .bool true, .slice none 0 0, .int .i64 0, .int .i64 0, .int .i64 0, .slice (some ⟨w.heap.size + 1, 0, none⟩) 1 1, .slice none 0 0, .slice none 0 0] 30) := by
    rw [Below.heap_alloc _ _ _ (by omega)]; exact b4
  have s5 : (((((w.alloc (.cells #[.int .i64 11, .slice (some ⟨w.heap.size + 1 + 1 + 1 + 1, 0, none⟩) 1 1] 37)).alloc (.cells #[.int .i64 29, .int .i64 0, .int .i64 0] 24)).alloc (.cells #[.string ⟨#[109, 97, 105, 110]⟩, .bool true, .slice none 0 0, .int .i64 0, .int .i64 0, .int .i64 0, .slice (some ⟨w.heap.size + 1, 0, none⟩) 1 1, .slice none 0 0, .slice none 0 0] 30)).alloc (.cells #[.string ⟨#[109, 97, 105, 110]⟩, .bool true, .slice none 0 0, .int .i64 0, .int .i64 0, .int .i64 0, .slice (some ⟨w.heap.size + 1, 0, none⟩) 1 1, .slice none 0 0, .slice none 0 0] 30)).alloc (.cells #[.string ⟨#[77]⟩, .bool false, .bool false, .int .i64 0, .slice none 0 0, .slice none 0 0, .slice none 0 0, .slice (some ⟨w.heap.size + 1 + 1 + 1, 0, none⟩) 1 1] 34)).heap.size = w.heap.size + 1 + 1 + 1 + 1 + 1 := by simp
  refine bodyPost_ret (results_cell_row rfl _ _ w.heap.size 37 _ (0, 0) _ rfl c1 Tryz.underlying37 rfl infoRPg) rfl ?_
  refine ⟨rfl, hB, by omega, tinyV w, b5, ⟨_, _, _, _, rfl, Sl.nil _ _ _, Sl.nil _ _ _, Sl.nil _ _ _, ?_⟩⟩
  refine Sl.one1 (K := kMd) (x := tinyM) c4 (And.intro (by omega) (by omega)) ⟨_, _, _, _, rfl, Sl.nil _ _ _, ?_, Sl.nil _ _ _, Sl.nil _ _ _⟩
  exact Sl.one1 (K := kIs) (x := ⟨29, 0, 0⟩) c2 (And.intro (by omega) (by omega)) rfl
theorem sl_own2 {α : Type} {K : Kd α} {w : World} {S : Nat → Prop} {base : Nat} {T : TypeId} {g n cap : Nat} {xs : List α} {CS : List (List Value)} (hn : n = xs.length) (h : w.ownsRow base T K.k (.slice (some ⟨g, 0, none⟩) n cap) n CS.flatten) (hl : CS.length = xs.length) (hk : ∀ r ∈ CS, r.length = K.k) (hR : ∀ (i : Nat) (x : α) (cs : List Value), xs[i]? = some x → CS[i]? = some cs → K.R w S x cs) (hS : S g) : Sl K w S (.slice (some ⟨g, 0, none⟩) n cap) xs := by
  subst hn
  rcases h.2 with ⟨e1, e0⟩ | ⟨g', cap', cur, e1, e2, e3, e4, e5, e6, e7⟩
  · cases e1
  · injection e1 with f1 f2 f3
    injection f1 with f1
    injection f1 with f1
    subst f1 f3
    have hgl := (Array.getElem?_eq_some_iff.1 e3).1
    refine ⟨_, cap, rfl, by omega, .inr ⟨g, 0, rfl, hS, ⟨hgl, fun _ j => by simp [World.frozen?, e3]⟩, fun i x hx => ?_⟩⟩
    have hi := (List.getElem?_eq_some_iff.1 hx).1
    obtain ⟨cs, hcs⟩ : ∃ cs, CS[i]? = some cs := ⟨_, List.getElem?_eq_getElem (by omega)⟩
    refine ⟨cs, hR i x cs hx hcs, fun j u hu => ?_⟩
    have hj := (List.getElem?_eq_some_iff.1 hu).1
    have hck := hk cs (List.mem_of_getElem? hcs)
    have h1 := flat_at CS hk i cs hcs j (by omega)
    have hlt : i * K.k + j < xs.length * K.k := by
      have := Nat.mul_le_mul_right K.k (show i + 1 ≤ xs.length by omega)
      rw [Nat.add_mul, Nat.one_mul] at this; omega
    rw [Nat.zero_add, h.cellAt _ hlt, h1]; exact hu
/-- What Tiny's class and the appended ones reach, behind the append in W that left w3. -/
def Wb (S : Nat → Prop) (a b c d : Nat) (k : Nat) : Prop := S k ∨ (a ≤ k ∧ k < b) ∨ (c ≤ k ∧ k < d)
theorem with_run {w0 W : World} {S : Nat → Prop} {xs : List Cs} {ao : Option Addr} {cap : Nat} (hT : TnB w0 W) (hS : ∀ k, S k → k < w0.heap.size) (h : Sl kCs W S (.slice ao xs.length cap) xs) (hn : xs.length ≤ 1000) (h0 : 0 < xs.length) :
    ∃ g c w3, (appY #[35, 35] 35 #[.slice (some ⟨w0.heap.size + 4, 0, none⟩) 1 1, .slice ao xs.length cap]).run Tryz.prog W = .ok (.slice (some ⟨g, 0, none⟩) (1 + xs.length) c) w3 ∧ Below w0.heap.size W w3 ∧ W.heap.size ≤ w3.heap.size ∧ (∀ k, k < W.heap.size → k ≠ w0.heap.size + 4 → w3.heap[k]? = W.heap[k]?) ∧ Sl kCs w3 (Wb S w0.heap.size (w0.heap.size + 5) W.heap.size w3.heap.size) (.slice (some ⟨g, 0, none⟩) (1 + xs.length) c) (tinyC :: xs) := by
  obtain ⟨i0, hi, hz0, hz1, hz2⟩ := info_parts infoCQ
  obtain ⟨ts, ht, hR⟩ := hT.ex
  have hsz := hT.sz
  have ht8 : ts.size = 8 := by have := kCs.len hR; rw [Array.length_toList] at this; exact this
  have hown : W.ownsRow (w0.heap.size + 4) 34 8 (.slice (some ⟨w0.heap.size + 4, 0, none⟩) 1 1) 1 ([ts.toList] : List (List Value)).flatten := by
    refine ⟨by simp [ht8], .inr ⟨w0.heap.size + 4, 1, _, rfl, Nat.le_refl _, ht, Nat.le_refl _, by decide, by simp [ht8], ?_⟩⟩
    rw [List.take_of_length_le (by simp [ht8])]
    simp
  obtain ⟨b, o, CS, rfl, hsb, hcl, hcr, hck, hc1, hcc⟩ := h.raw h0
  have hcell : ∀ j u, CS.flatten[j]? = some u → W.cell? ((⟨b, o, none⟩ : Addr).add j) = some u := fun j u hu => by
    have hadd : (⟨b, o, none⟩ : Addr).add j = ⟨b, o + j, none⟩ := by unfold Addr.add; split <;> simp_all
    rw [hadd]; exact hcc j u hu
  obtain ⟨g, c, w3, hr, hown3, hg, hat, hgl⟩ := run_append_lies (P := Tryz.prog) (w := W) 35 35 (w0.heap.size + 4) 34 i0 (.agg #[.string ⟨#[]⟩, .bool false, .bool false, .int .i64 0, .slice none 0 0, .slice none 0 0, .slice none 0 0, .slice none 0 0]) 8 128 Tryz.underlying35 hi hz0 hz1 hz2 rfl (by decide) (.slice (some ⟨w0.heap.size + 4, 0, none⟩) 1 1) 1 _ hown ⟨b, o, none⟩ xs.length cap CS.flatten (by rw [flat_len CS hck, hcl]; rfl) hcell (fun u hu => by
    obtain ⟨r, hr, hu⟩ := List.mem_flatten.1 hu
    exact hc1 r hr u hu) h0 (by unfold maxLen; omega) (by omega) (by omega) _ rfl
  have hkeep : ∀ k, k < W.heap.size → k ≠ w0.heap.size + 4 → w3.heap[k]? = W.heap[k]? := fun k hk hne => hg.block k hk fun e => hne (by
    have : k = w0.heap.size + 4 := by simpa [Value.ownBlock, eq_comm] using e
    exact this)
  refine ⟨g, c, w3, hr, ⟨hg.os, hg.tape, hg.output, hg.size, fun k hk => hkeep k (by omega) (by omega)⟩, hg.size, hkeep, ?_⟩
  refine sl_own2 (K := kCs) (T := 34) (base := w0.heap.size + 4) (CS := [ts.toList] ++ CS) (by simp; omega) (by rw [List.flatten_append]; exact hown3) (by simp [hcl]) (fun r hr => ?_) (fun i x cs hx hcs => ?_) ?_
  · rcases List.mem_append.1 hr with hr | hr
    · rw [List.mem_singleton.1 hr, Array.length_toList]; exact ht8
    · exact hck r hr
  · cases i with
    | zero =>
      simp at hx hcs
      subst hx hcs
      exact kCs.mono (fun k hk => .inr (.inl ⟨hk.1, by have := hk.2; omega⟩)) (kCs.keep (fun k hk => hkeep k (by have := hk.2; omega) (by have := hk.2; omega)) hR)
    | succ i =>
      rw [List.getElem?_cons_succ] at hx
      rw [List.singleton_append, List.getElem?_cons_succ] at hcs
      obtain ⟨cs', h3, h4⟩ := hcr i x hx
      rw [hcs] at h3
      injection h3 with h3
      subst h3
      exact kCs.mono (fun k hk => .inl hk) (kCs.keep (fun k hk => hkeep k (by have := hS k hk; omega) (by have := hS k hk; omega)) h4)
  · rcases hat with e | e
    · have : w0.heap.size + 4 = g := by simpa [Value.ownBlock] using e
      exact .inr (.inl ⟨by omega, by omega⟩)
    · exact .inr (.inr ⟨by omega, hgl⟩)
theorem two_set {W : World} {b : Nat} {T : TypeId} {x0 x1 : Value} (h : W.heap[b]? = some (.cells #[x0, x1] T (0, 0))) (u0 u1 : Value) : ((W.setCell ⟨b, 0, none⟩ u0).setCell ⟨b, 1, none⟩ u1).heap[b]? = some (.cells #[u0, u1] T (0, 0)) := by
  simp [World.setCell, Array.getElem?_modify, h]
theorem TnB.below {w w' w'' : World} (h : TnB w w') (hb : Below w'.heap.size w' w'') : TnB w w'' := by
  obtain ⟨cs, h1, h2⟩ := h.ex
  have := h.sz
  exact ⟨h.bel.trans (hb.mono h.bel.size), Nat.lt_of_lt_of_le h.sz hb.size, cs, (hb.block _ h.sz).trans h1, kCs.keep (fun k q => hb.block k (by omega)) h2⟩
attribute [local go_sem ↓] app_Y
def retI : Is := ⟨29, 0, 0⟩
def mthM (nm : ByteArray) (xs : List Int) (ret : Int) : Md := ⟨nm, false, xs, ret, 1 + xs.length, 0, [retI], [], []⟩
theorem okl_n {p : Pg} (h : Okl p) : p.cls.length ≤ 1000 := h.okz.n
end Go.Proofs.YtbbmgjcabmjjdaaGreatDoor
