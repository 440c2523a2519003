/- encode, whatever the program. -/
import Derived.Test.YtajghalljkphiaaGreatMGLE
import Derived.Test.YtajghalljkphiaaGreatMLRPg
namespace Go.Proofs.YtajghalljkphiaaGreat
open Go.RowKit

theorem big_name (l : List Pt) (h : l.all okC = true ∧ l.all okT = true ∧ l.all okN = true) : ∀ p ∈ l, (p.kd ≠ 1 → p.nm.size = 0) → okP p = true ∧ p.nm.size ≤ maxLen := fun p hp hz => by
  have h1 := List.all_eq_true.1 h.1 p hp
  have h2 := List.all_eq_true.1 h.2.1 p hp
  have h3 := List.all_eq_true.1 h.2.2 p hp
  have hok : okP p = true := by unfold okP; rw [h1, h2, h3]; rfl
  refine ⟨hok, ?_⟩
  unfold maxLen
  rcases bts_len hok with q | q
  · omega
  · have := hz q; omega
/-- Only names bear texts. -/
def nmOk (p : Pt) : Prop := p.kd ≠ 1 → p.nm.size = 0
theorem nm_num (x : Int) : nmOk (ptN x) := fun _ => rfl
theorem nm_txt (s : ByteArray) : nmOk (ptT s) := fun h => absurd rfl h
theorem nm_siz (x m : Int) : nmOk (ptS x m) := fun _ => rfl
theorem nm_list {α : Type} {g : α → List Pt} (m : Int) (hg : ∀ x, ∀ p ∈ g x, nmOk p) (xs : List α) : ∀ p ∈ ptL m g xs, nmOk p := fun p hp => by
  rcases List.mem_cons.1 hp with rfl | hp
  · exact fun _ => rfl
  · obtain ⟨x, _, hx⟩ := List.mem_flatMap.1 hp
    exact hg x p hx
theorem nm_gN (x : Int) : ∀ p ∈ gN1 x, nmOk p := fun p hp => by rw [List.mem_singleton.1 hp]; exact nm_num x
theorem nm_gFd (f : Fd) : ∀ p ∈ gFd f, nmOk p := fun p hp => by
  simp [gFd] at hp; rcases hp with rfl | rfl
  · exact nm_txt _
  · exact nm_num _
theorem nm_gIs (f : Is) : ∀ p ∈ gIs f, nmOk p := fun p hp => by
  simp [gIs] at hp; rcases hp with rfl | rfl | rfl <;> exact nm_num _
theorem nm_gHd (f : Hd) : ∀ p ∈ gHd f, nmOk p := fun p hp => by
  simp [gHd] at hp; rcases hp with rfl | rfl | rfl | rfl <;> exact nm_num _
theorem nm_gMp (f : Mp) : ∀ p ∈ gMp f, nmOk p := fun p hp => by
  simp only [gMp, List.mem_cons, List.mem_append] at hp
  rcases hp with rfl | hp | hp
  · exact nm_num _
  · exact nm_list 24 nm_gN _ p hp
  · exact nm_list 24 nm_gN _ p hp
theorem nm_gMd (f : Md) : ∀ p ∈ gMd f, nmOk p := fun p hp => by
  simp only [gMd, List.mem_cons, List.mem_append] at hp
  rcases hp with rfl | rfl | hp | rfl | rfl | rfl | hp | hp | hp
  · exact nm_txt _
  · exact nm_num _
  · exact nm_list 8 nm_gN _ p hp
  · exact nm_num _
  · exact nm_siz _ _
  · exact nm_siz _ _
  · exact nm_list 300 nm_gIs _ p hp
  · exact nm_list 16 nm_gHd _ p hp
  · exact nm_list 64 nm_gMp _ p hp
theorem nm_gCs (f : Cs) : ∀ p ∈ gCs f, nmOk p := fun p hp => by
  simp only [gCs, List.mem_cons, List.mem_append] at hp
  rcases hp with rfl | rfl | rfl | hp | hp | hp | hp
  · exact nm_txt _
  · exact nm_num _
  · exact nm_num _
  · exact nm_list 8 nm_gN _ p hp
  · exact nm_list 24 nm_gFd _ p hp
  · exact nm_list 24 nm_gFd _ p hp
  · exact nm_list 24 nm_gMd _ p hp
theorem nm_gPg (f : Pg) : ∀ p ∈ gPg f, nmOk p := fun p hp => by
  simp only [gPg, List.mem_cons] at hp
  rcases hp with rfl | hp
  · exact nm_num _
  · exact nm_list 40 nm_gCs _ p hp

/-- The three tests and the gathering, one behind the other, from a world in which the program lies. -/
theorem passC {p : Pg} {S : Nat → Prop} {cs : List Value} {N0 : Nat} (hS : ∀ k, S k → k < N0) (w : World) (h : N0 ≤ w.heap.size) (hR : kPg.R w S p cs) :
    Calls Tryz.prog 46 #[.func (.func 45) #[] #[], .agg cs.toArray] w (FdP none_ (idle N0) w (if (gPg p).all okC = true then .ok () else .error 1404)) := by
  have := vPg_ok (visC N0) () p hS w h hR (fun _ _ => trivial)
  rw [feed_chk okC 1404 stC (fun _ _ => rfl)] at this; exact this
theorem passT {p : Pg} {S : Nat → Prop} {cs : List Value} {N0 : Nat} (hS : ∀ k, S k → k < N0) (w : World) (h : N0 ≤ w.heap.size) (hR : kPg.R w S p cs) :
    Calls Tryz.prog 46 #[.func (.func 47) #[] #[], .agg cs.toArray] w (FdP none_ (idle N0) w (if (gPg p).all okT = true then .ok () else .error 1403)) := by
  have := vPg_ok (visT N0) () p hS w h hR (fun _ _ => trivial)
  rw [feed_chk okT 1403 stT (fun _ _ => rfl)] at this; exact this
theorem passN {p : Pg} {S : Nat → Prop} {cs : List Value} {N0 : Nat} (hS : ∀ k, S k → k < N0) (w : World) (h : N0 ≤ w.heap.size) (hR : kPg.R w S p cs) :
    Calls Tryz.prog 46 #[.func (.func 48) #[] #[], .agg cs.toArray] w (FdP none_ (idle N0) w (if (gPg p).all okN = true then .ok () else .error 1402)) := by
  have := vPg_ok (visN N0) () p hS w h hR (fun _ _ => trivial)
  rw [feed_chk okN 1402 stN (fun _ _ => rfl)] at this; exact this
theorem passB {p : Pg} {S : Nat → Prop} {cs : List Value} {B hb : Nat} (hS : ∀ k, S k → k < B) (w : World) (h : IB B hb mag w) (hR : kPg.R w S p cs) (hok : (gPg p).all okC = true ∧ (gPg p).all okT = true ∧ (gPg p).all okN = true) :
    Calls Tryz.prog 46 #[.func (.func 50) #[] #[.pointer (some ⟨hb, 0, none⟩)], .agg cs.toArray] w (FdP (ownB B hb) (IB B hb) w (if 32768 < (mag ++ byts (gPg p)).length then .error 1406 else .ok (mag ++ byts (gPg p)))) := by
  have := vPg_ok (visB B hb) mag p hS w h hR (fun q hq => big_name _ hok q hq (nm_gPg p q hq))
  rw [feed_B _ _ (by decide)] at this; exact this

/-- The program lies where it lay; its box too. -/
structure Ps (w : World) (cs : Array Value) (S : Nat → Prop) (p : Pg) (u : World) : Prop where
  bel : Below w.heap.size w u
  box : u.heap[w.heap.size]? = some (.cells cs 24 (0, 0))
  dat : kPg.R u S p cs.toList
theorem Ps.keep {w u u' : World} {cs : Array Value} {S : Nat → Prop} {p : Pg} (h : Ps w cs S p u) (hS : ∀ k, S k → k < w.heap.size) (hb : ∀ k, k ≤ w.heap.size → u'.heap[k]? = u.heap[k]?) (h1 : u'.os = u.os) (h2 : u'.tape = u.tape) (h3 : u'.output = u.output) (h4 : u.heap.size ≤ u'.heap.size) : Ps w cs S p u' :=
  ⟨h.bel.trans ⟨h1, h2, h3, h4, fun k hk => hb k (by omega)⟩, by rw [hb _ (Nat.le_refl _)]; exact h.box, kPg.keep (fun k hk => hb k (by have := hS k hk; omega)) h.dat⟩
theorem Ps.lt {w u : World} {cs : Array Value} {S : Nat → Prop} {p : Pg} (h : Ps w cs S p u) : w.heap.size < u.heap.size := (Array.getElem?_eq_some_iff.1 h.box).1

theorem Ps.fb {w u u' : World} {cs : Array Value} {S : Nat → Prop} {p : Pg} (h : Ps w cs S p u) (hS : ∀ k, S k → k < w.heap.size) (hf : Fb none_ u u') : Ps w cs S p u' :=
  h.keep hS (fun k hk => hf.block k (by have := h.lt; omega) (fun o => o)) hf.os hf.tape hf.output hf.size
theorem Ps.alloc {w u : World} {cs : Array Value} {S : Nat → Prop} {p : Pg} (h : Ps w cs S p u) (hS : ∀ k, S k → k < w.heap.size) (o : Obj) : Ps w cs S p (u.alloc o) :=
  h.keep hS (fun k hk => Below.heap_alloc _ _ _ (by have := h.lt; omega)) rfl rfl rfl (by simp)
theorem Ps.fbb {w u u' : World} {cs : Array Value} {S : Nat → Prop} {p : Pg} {hb : Nat} (h : Ps w cs S p u) (hS : ∀ k, S k → k < w.heap.size) (hh : w.heap.size ≠ hb) (hf : Fb (ownB w.heap.size hb) u u') : Ps w cs S p u' :=
  h.keep hS (fun k hk => hf.block k (by have := h.lt; omega) (fun o => by
    obtain ⟨o1, _, o3⟩ := o
    have e : k = w.heap.size := by omega
    subst e
    rcases o3 with o3 | ⟨c, fz, o3⟩
    · exact hh o3
    · rw [h.box] at o3
      injection o3 with o3
      injection o3 with _ o4 _
      exact absurd o4 (by decide))) hf.os hf.tape hf.output hf.size

set_option maxHeartbeats 4000000 in
set_option maxRecDepth 20000 in
theorem encode_any {p : Pg} {S : Nat → Prop} {cs : List Value} (w : World) (hS : ∀ k, S k → k < w.heap.size) (hR : kPg.R w S p cs) : Calls Tryz.prog 31 #[.agg cs.toArray] w (EcP p w) := by
  have hmf : ∀ (fn : Fn) (first cap : Array Value) (w : World), (Instr.makeFunc fn first cap).run Tryz.prog w = .ok (.func fn first cap) w := fun _ _ _ _ => rfl
  have hD := hR
  obtain ⟨v1, rfl, hSl⟩ := hR
  obtain ⟨ao, cp, rfl, -⟩ := hSl
  have H1 : Hid (Ps w #[.int .i64 p.main, .slice ao p.cls.length cp] S p (w.alloc (.cells #[.int .i64 p.main, .slice ao p.cls.length cp] 24))) := ⟨(Below.refl _ _).alloc (Nat.le_refl _) _, heap_alloc_new w _, kPg.keep (fun k hk => Below.heap_alloc _ _ _ (hS k hk)) hD⟩
  have hC := passC hS _ (Nat.le_of_lt H1.out.lt) H1.out.dat
  by_cases q1 : (gPg p).all okC = true
  · rw [if_pos q1] at hC
    by_cases q2 : (gPg p).all okT = true
    · have HT : Hid (∀ u, Ps w #[.int .i64 p.main, .slice ao p.cls.length cp] S p u → Calls Tryz.prog 46 #[.func (.func 47) #[] #[], .agg #[.int .i64 p.main, .slice ao p.cls.length cp]] u (FdP none_ (idle w.heap.size) u (.ok ()))) := fun u hu => by
        have := passT hS u (Nat.le_of_lt hu.lt) hu.dat; rw [if_pos q2] at this; exact this
      by_cases q3 : (gPg p).all okN = true
      · have HN : Hid (∀ u, Ps w #[.int .i64 p.main, .slice ao p.cls.length cp] S p u → Calls Tryz.prog 46 #[.func (.func 48) #[] #[], .agg #[.int .i64 p.main, .slice ao p.cls.length cp]] u (FdP none_ (idle w.heap.size) u (.ok ()))) := fun u hu => by
          have := passN hS u (Nat.le_of_lt hu.lt) hu.dat; rw [if_pos q3] at this; exact this
        have HW : Hid (∀ u, Ps w #[.int .i64 p.main, .slice ao p.cls.length cp] S p u → Calls Tryz.prog 49 #[.pointer (some ⟨u.heap.size, 0, none⟩), .string ⟨#[71, 78, 83, 83]⟩] (u.alloc (.cells #[.pointer none, .slice none 0 0] 103)) fun e w' => e = .returned (.tuple #[.int .i64 4, .nilIface]) ∧ IB w.heap.size u.heap.size mag w' ∧ Fb (ownB w.heap.size u.heap.size) (u.alloc (.cells #[.pointer none, .slice none 0 0] 103)) w') := fun u hu => by
          have hl := hu.lt
          have hI : Lib.IsBuilder 103 5 w.heap.size u.heap.size [] (u.alloc (.cells #[.pointer none, .slice none 0 0] 103)) := .inl ⟨Nat.le_of_lt hl, _, heap_alloc_new u _, World.ownsRow_nil _ _ _ _, by simp [Value.ownBlock]⟩
          refine (write_ok w.heap.size u.heap.size [] ⟨#[71, 78, 83, 83]⟩ _ hI (by decide) (by simp; omega)).mono fun e w' hp => ⟨hp.1, ⟨?_, ?_, by decide⟩, hp.2.2⟩
          · have := hp.2.1
            rw [List.nil_append, show (⟨#[71, 78, 83, 83]⟩ : ByteArray) = ⟨mag.toArray⟩ from rfl, strCells_bts] at this
            exact this
          · have := hp.2.2.size; simp at this; omega
        by_cases q4 : 32768 < (mag ++ byts (gPg p)).length
        · have HB : Hid (∀ hb u, IB w.heap.size hb mag u → Ps w #[.int .i64 p.main, .slice ao p.cls.length cp] S p u → Calls Tryz.prog 46 #[.func (.func 50) #[] #[.pointer (some ⟨hb, 0, none⟩)], .agg #[.int .i64 p.main, .slice ao p.cls.length cp]] u (FdP (ownB w.heap.size hb) (IB w.heap.size hb) u (.error 1406))) := fun hb u hi hu => by
            have := passB hS u hi hu.dat ⟨q1, q2, q3⟩; rw [if_pos q4] at this; exact this
          have HE : Hid (encP p = .error 1406) := by show _ = _; unfold encP; rw [if_pos q1, if_pos q2, if_pos q3, if_pos q4]
          clear q1 q2 q3 q4 hD
          go_enter Tryz.func31, Tryz.ntmps31
          go_wp2_with (first
      | (go_at_call 46; refine hC.mono ?_; rintro e w2 ⟨hf, rfl, -⟩; have H2 : Hid (Ps w #[.int .i64 p.main, .slice ao p.cls.length cp] S p w2) := H1.out.fb hS hf; have hT := HT.out w2 H2.out; clear hC hf H1)
      | (go_at_call 46; refine hT.mono ?_; rintro e w3 ⟨hf, rfl, -⟩; have H3 : Hid (Ps w #[.int .i64 p.main, .slice ao p.cls.length cp] S p w3) := H2.out.fb hS hf; have hN := HN.out w3 H3.out; clear hT hf H2 HT)
      | (go_at_call 46; refine hN.mono ?_; rintro e w4 ⟨hf, rfl, -⟩; have H4 : Hid (Ps w #[.int .i64 p.main, .slice ao p.cls.length cp] S p w4) := H3.out.fb hS hf; have HP5 : Hid (Ps w #[.int .i64 p.main, .slice ao p.cls.length cp] S p (w4.alloc (.cells #[.pointer none, .slice none 0 0] 103))) := H4.out.alloc hS _; have hlt4 := H4.out.lt; have hW := HW.out w4 H4.out; clear H4; clear hN hf H3 HN)
      | (go_at_call 49; refine hW.mono ?_; rintro e w6 ⟨rfl, hi6, hf6⟩; have H6 : Hid (Ps w #[.int .i64 p.main, .slice ao p.cls.length cp] S p w6) := HP5.out.fbb hS (by omega) hf6; have hB := HB.out w4.heap.size w6 hi6 H6.out; clear hW hi6 hf6 HP5)
      | (go_at_call 46; refine hB.mono ?_; rintro e w7 ⟨hf, rfl⟩)
      | (refine wpList_load_row rfl 24 _ rfl w.heap.size rfl 24 _ (0, 0) _ H1.out.box Tryz.underlying24 rfl infoRPg ?_)
      | (refine wpList_load_row rfl 24 _ rfl w.heap.size rfl 24 _ (0, 0) _ H2.out.box Tryz.underlying24 rfl infoRPg ?_)
      | (refine wpList_load_row rfl 24 _ rfl w.heap.size rfl 24 _ (0, 0) _ H3.out.box Tryz.underlying24 rfl infoRPg ?_)
      | (refine wpList_load_row rfl 24 _ rfl w.heap.size rfl 24 _ (0, 0) _ H6.out.box Tryz.underlying24 rfl infoRPg ?_))
          have hx := H6.out.bel.trans ⟨hf.os, hf.tape, hf.output, hf.size, fun k hk => hf.block k (by have := H6.out.lt; omega) (fun o => by have := o.1; omega)⟩
          exact ⟨rfl, EcP.err HE.out hx⟩
        · have HB : Hid (∀ hb u, IB w.heap.size hb mag u → Ps w #[.int .i64 p.main, .slice ao p.cls.length cp] S p u → Calls Tryz.prog 46 #[.func (.func 50) #[] #[.pointer (some ⟨hb, 0, none⟩)], .agg #[.int .i64 p.main, .slice ao p.cls.length cp]] u (FdP (ownB w.heap.size hb) (IB w.heap.size hb) u (.ok (mag ++ byts (gPg p))))) := fun hb u hi hu => by
            have := passB hS u hi hu.dat ⟨q1, q2, q3⟩; rw [if_neg q4] at this; exact this
          have HE : Hid (encP p = .ok ⟨(mag ++ byts (gPg p)).toArray⟩) := by show _ = _; unfold encP; rw [if_pos q1, if_pos q2, if_pos q3, if_neg q4]
          clear q1 q2 q3 q4 hD
          go_enter Tryz.func31, Tryz.ntmps31
          go_wp2_with (first
      | (go_at_call 46; refine hC.mono ?_; rintro e w2 ⟨hf, rfl, -⟩; have H2 : Hid (Ps w #[.int .i64 p.main, .slice ao p.cls.length cp] S p w2) := H1.out.fb hS hf; have hT := HT.out w2 H2.out; clear hC hf H1)
      | (go_at_call 46; refine hT.mono ?_; rintro e w3 ⟨hf, rfl, -⟩; have H3 : Hid (Ps w #[.int .i64 p.main, .slice ao p.cls.length cp] S p w3) := H2.out.fb hS hf; have hN := HN.out w3 H3.out; clear hT hf H2 HT)
      | (go_at_call 46; refine hN.mono ?_; rintro e w4 ⟨hf, rfl, -⟩; have H4 : Hid (Ps w #[.int .i64 p.main, .slice ao p.cls.length cp] S p w4) := H3.out.fb hS hf; have HP5 : Hid (Ps w #[.int .i64 p.main, .slice ao p.cls.length cp] S p (w4.alloc (.cells #[.pointer none, .slice none 0 0] 103))) := H4.out.alloc hS _; have hlt4 := H4.out.lt; have hW := HW.out w4 H4.out; clear H4; clear hN hf H3 HN)
      | (go_at_call 49; refine hW.mono ?_; rintro e w6 ⟨rfl, hi6, hf6⟩; have H6 : Hid (Ps w #[.int .i64 p.main, .slice ao p.cls.length cp] S p w6) := HP5.out.fbb hS (by omega) hf6; have hB := HB.out w4.heap.size w6 hi6 H6.out; clear hW hi6 hf6 HP5)
      | (go_at_call 46; refine hB.mono ?_; rintro e w7 ⟨hf, rfl, hI⟩; have H7 : Hid (Ps w #[.int .i64 p.main, .slice ao p.cls.length cp] S p w7) := H6.out.fbb hS (by omega) hf; have hQ := str_ok _ _ _ w7 hI.1 hI.2.1; clear hB hf hI H6)
      | (go_at_call 53; refine hQ.mono ?_; rintro e w8 ⟨rfl, hb8⟩)
      | (refine wpList_load_row rfl 24 _ rfl w.heap.size rfl 24 _ (0, 0) _ H1.out.box Tryz.underlying24 rfl infoRPg ?_)
      | (refine wpList_load_row rfl 24 _ rfl w.heap.size rfl 24 _ (0, 0) _ H2.out.box Tryz.underlying24 rfl infoRPg ?_)
      | (refine wpList_load_row rfl 24 _ rfl w.heap.size rfl 24 _ (0, 0) _ H3.out.box Tryz.underlying24 rfl infoRPg ?_)
      | (refine wpList_load_row rfl 24 _ rfl w.heap.size rfl 24 _ (0, 0) _ H6.out.box Tryz.underlying24 rfl infoRPg ?_))
          go_ret
          unfold EcP
          rw [HE.out]
          exact ⟨H7.out.bel.trans hb8, rfl⟩
      · have HN : Hid (∀ u, Ps w #[.int .i64 p.main, .slice ao p.cls.length cp] S p u → Calls Tryz.prog 46 #[.func (.func 48) #[] #[], .agg #[.int .i64 p.main, .slice ao p.cls.length cp]] u (FdP none_ (idle w.heap.size) u (.error 1402))) := fun u hu => by
          have := passN hS u (Nat.le_of_lt hu.lt) hu.dat; rw [if_neg q3] at this; exact this
        have HE : Hid (encP p = .error 1402) := by show _ = _; unfold encP; rw [if_pos q1, if_pos q2, if_neg q3]
        clear q1 q2 q3 hD
        go_enter Tryz.func31, Tryz.ntmps31
        go_wp2_with (first
      | (go_at_call 46; refine hC.mono ?_; rintro e w2 ⟨hf, rfl, -⟩; have H2 : Hid (Ps w #[.int .i64 p.main, .slice ao p.cls.length cp] S p w2) := H1.out.fb hS hf; have hT := HT.out w2 H2.out; clear hC hf H1)
      | (go_at_call 46; refine hT.mono ?_; rintro e w3 ⟨hf, rfl, -⟩; have H3 : Hid (Ps w #[.int .i64 p.main, .slice ao p.cls.length cp] S p w3) := H2.out.fb hS hf; have hN := HN.out w3 H3.out; clear hT hf H2 HT)
      | (go_at_call 46; refine hN.mono ?_; rintro e w4 ⟨hf, rfl⟩)
      | (refine wpList_load_row rfl 24 _ rfl w.heap.size rfl 24 _ (0, 0) _ H1.out.box Tryz.underlying24 rfl infoRPg ?_)
      | (refine wpList_load_row rfl 24 _ rfl w.heap.size rfl 24 _ (0, 0) _ H2.out.box Tryz.underlying24 rfl infoRPg ?_)
      | (refine wpList_load_row rfl 24 _ rfl w.heap.size rfl 24 _ (0, 0) _ H3.out.box Tryz.underlying24 rfl infoRPg ?_)
      | (refine wpList_load_row rfl 24 _ rfl w.heap.size rfl 24 _ (0, 0) _ H6.out.box Tryz.underlying24 rfl infoRPg ?_))
        exact ⟨rfl, EcP.err HE.out (H3.out.fb hS hf).bel⟩
    · have HT : Hid (∀ u, Ps w #[.int .i64 p.main, .slice ao p.cls.length cp] S p u → Calls Tryz.prog 46 #[.func (.func 47) #[] #[], .agg #[.int .i64 p.main, .slice ao p.cls.length cp]] u (FdP none_ (idle w.heap.size) u (.error 1403))) := fun u hu => by
        have := passT hS u (Nat.le_of_lt hu.lt) hu.dat; rw [if_neg q2] at this; exact this
      have HE : Hid (encP p = .error 1403) := by show _ = _; unfold encP; rw [if_pos q1, if_neg q2]
      clear q1 q2 hD
      go_enter Tryz.func31, Tryz.ntmps31
      go_wp2_with (first
      | (go_at_call 46; refine hC.mono ?_; rintro e w2 ⟨hf, rfl, -⟩; have H2 : Hid (Ps w #[.int .i64 p.main, .slice ao p.cls.length cp] S p w2) := H1.out.fb hS hf; have hT := HT.out w2 H2.out; clear hC hf H1)
      | (go_at_call 46; refine hT.mono ?_; rintro e w3 ⟨hf, rfl⟩)
      | (refine wpList_load_row rfl 24 _ rfl w.heap.size rfl 24 _ (0, 0) _ H1.out.box Tryz.underlying24 rfl infoRPg ?_)
      | (refine wpList_load_row rfl 24 _ rfl w.heap.size rfl 24 _ (0, 0) _ H2.out.box Tryz.underlying24 rfl infoRPg ?_)
      | (refine wpList_load_row rfl 24 _ rfl w.heap.size rfl 24 _ (0, 0) _ H3.out.box Tryz.underlying24 rfl infoRPg ?_)
      | (refine wpList_load_row rfl 24 _ rfl w.heap.size rfl 24 _ (0, 0) _ H6.out.box Tryz.underlying24 rfl infoRPg ?_))
      exact ⟨rfl, EcP.err HE.out (H2.out.fb hS hf).bel⟩
  · rw [if_neg q1] at hC
    have HE : Hid (encP p = .error 1404) := by show _ = _; unfold encP; rw [if_neg q1]
    clear q1 hD
    go_enter Tryz.func31, Tryz.ntmps31
    go_wp2_with (first
      | (go_at_call 46; refine hC.mono ?_; rintro e w2 ⟨hf, rfl⟩)
      | (refine wpList_load_row rfl 24 _ rfl w.heap.size rfl 24 _ (0, 0) _ H1.out.box Tryz.underlying24 rfl infoRPg ?_)
      | (refine wpList_load_row rfl 24 _ rfl w.heap.size rfl 24 _ (0, 0) _ H2.out.box Tryz.underlying24 rfl infoRPg ?_)
      | (refine wpList_load_row rfl 24 _ rfl w.heap.size rfl 24 _ (0, 0) _ H3.out.box Tryz.underlying24 rfl infoRPg ?_)
      | (refine wpList_load_row rfl 24 _ rfl w.heap.size rfl 24 _ (0, 0) _ H6.out.box Tryz.underlying24 rfl infoRPg ?_))
    exact ⟨rfl, EcP.err HE.out (H1.out.fb hS hf).bel⟩
end Go.Proofs.YtajghalljkphiaaGreat
