/- Get and Set. -/
import Derived.Test.YtjfjgfkfbbigbaaPSpa
namespace Go.Proofs.Ytjfjgfkfbbigbaa
open Go.RowKit

theorem wrap_add (a b : Int) : wrap64 (wrap64 a + b) = wrap64 (a + b) := by
  simp only [wrap64]; omega
/-- What an agent's count of steps may be: at most k more. -/
def Ticked (c c' : Int → Int) (g k : Int) : Prop := (∀ j, j ≠ g → c' j = c j) ∧ ∃ d, 0 ≤ d ∧ d ≤ k ∧ c' g = wrap64 (c g + d)
theorem Ticked.refl {c : Int → Int} {g k : Int} (hk : 0 ≤ k) (hc : wrap64 (c g) = c g) : Ticked c c g k := ⟨fun _ _ => rfl, 0, by omega, hk, by rw [Int.add_zero]; exact hc.symm⟩
theorem Ticked.first (c : Int → Int) (g : Int) : Ticked c (tick c g) g 1 := ⟨fun j hj => updI_else _ _ hj, 1, by omega, by omega, updI_at _ _ _⟩
theorem Ticked.tick {c c' : Int → Int} {g k : Int} (h : Ticked c c' g k) : Ticked c (tick c' g) g (k + 1) := by
  obtain ⟨h1, d, h2, h3, h4⟩ := h
  refine ⟨fun j hj => (updI_else _ _ hj).trans (h1 j hj), d + 1, by omega, by omega, ?_⟩
  unfold Ytjfjgfkfbbigbaa.tick
  rw [updI_at, h4, wrap_add]
  congr 1; omega
theorem Ticked.mono {c c' : Int → Int} {g k k' : Int} (h : Ticked c c' g k) (hk : k ≤ k') : Ticked c c' g k' := ⟨h.1, by obtain ⟨d, a, b, e⟩ := h.2; exact ⟨d, a, by omega, e⟩⟩

/-- A space: where it lies, what its numbers are, what its arrays hold. -/
def Gd (w : World) (P : Nat → Prop) (s b W G : Nat) (q : St) (V : Int → Int → Int) (c : Int → Int) : Prop := W ≤ 65536 ∧ ∃ bw bs v f, Sp w P s b bw bs W G v q f c ∧ Inv q W f V
/-- What a call leaves. -/
def Turn (w : World) (P : Nat → Prop) (s b W G : Nat) (q : St) (V : Int → Int → Int) (c : Int → Int) (w' : World) : Prop := ∃ P', Gd w' P' s b W G q V c ∧ Bt P w w' ∧ Wider P P' w
section
variable {w : World} {P : Nat → Prop} {s b W G : Nat} {q : St} {V : Int → Int → Int} {c : Int → Int}
theorem Gd.below {w' : World} (h : Gd w P s b W G q V c) (hb : Below w.heap.size w w') : Gd w' P s b W G q V c := by
  obtain ⟨h1, bw, bs, v, f, h2, h3⟩ := h
  exact ⟨h1, bw, bs, v, f, h2.below hb, h3⟩
theorem Turn.of_gd {w' : World} (h : Gd w P s b W G q V c) (hb : Below w.heap.size w w') : Turn w P s b W G q V c w' := ⟨P, h.below hb, Bt.of_below hb, Wider.refl _ _⟩
theorem len_sum : ∀ {xs : List Ary}, (∀ x ∈ xs, 0 ≤ x.n) → (xs.length : Int) * 4 ≤ sumG sz xs
  | [], _ => by simp [sumG]
  | x :: r, h => by
    have h1 := len_sum (xs := r) fun y hy => h y (List.mem_cons_of_mem _ hy)
    have := h x (by simp)
    simp only [sumG, List.length_cons, sz]
    omega
theorem Inv.short {f : Int → Int} (h : Inv q W f V) (hW : W ≤ 65536) : q.xs.length < 1000000 := by
  have h1 := len_sum fun x hx => (h.ids x hx).2.2
  have h2 := h.sums
  have h3 := h.big
  have h4 := h.base0
  omega
theorem Inv.at_id {f : Int → Int} (h : Inv q W f V) {x : Ary} (hx : x ∈ q.xs) : has q.xs x.id = true ∧ q.xs[pos q.xs x.id]? = some x := by
  have h1 : has q.xs x.id = true := (has_iff _ _).2 ⟨x, hx, rfl⟩
  obtain ⟨y, hy, e⟩ := has_at h.sorted h1
  obtain rfl := same_of_id h.sorted (List.mem_of_getElem? hy) hx e
  exact ⟨h1, hy⟩
set_option maxRecDepth 20000 in
theorem get_ok (h : Gd w P s b W G q V c) {x : Ary} (hx : x ∈ q.xs) (g i : Int) (hg : 0 ≤ g ∧ g < G) (hi : 0 ≤ i ∧ i < x.n) :
    Calls Try.prog 13 #[.pointer (some ⟨s, 0, none⟩), .int .i64 g, .int .i64 x.id, .int .i64 i] w fun e w' => e = .returned (.tuple #[.int .i64 (V x.id i), .int .i64 0]) ∧ ∃ c', Ticked c c' g 2 ∧ Turn w P s b W G q V c' w' := by
  obtain ⟨hW, bw, bs, v, f, h, hI⟩ := h
  obtain ⟨hh, hk⟩ := hI.at_id hx
  obtain ⟨l1, l2, l3⟩ := hI.lies hx
  have hb0 := hI.base0
  have hb1 := hI.half0
  have hb2 := hI.big
  have hA := access_ok h hI.sorted (hI.short hW) g x.id i hh hk hg hi
  have Z1 : Hid (f x.at_ = x.at_ + 4) := (hI.words x hx).1
  have Z3 : Hid (f (x.at_ + 4 + i) = V x.id i) := (hI.words x hx).2.2 i hi.1 hi.2
  have HI : Hid (Inv q W f V) := hI
  clear hI
  generalize pos q.xs x.id = k at *
  go_enter Try.func13, Try.ntmps13
  go_wp2_with (go_at_call 27; refine hA.mono ?_; rintro e w1 ⟨p, hp, rfl, hb⟩; have h1 := h.below hb; have d0 := h1.c0)
  have hd := h1.drewn 1
  go_region_held3 (fun w' => w'.cell? ⟨s, 0, none⟩ = some (.pointer (some ⟨b, 0, none⟩))) (go_keep)
    (first
      | (go_at_call 30; refine (lead_ok hd g hp hk hg (by omega)).mono ?_; rintro e w2 ⟨rfl, hS2, hB2⟩; have d2 := hS2.c0; rw [Z1.out])
      | (go_at_call 29; refine (place_ok hS2 (x.at_ + 4) i (by omega) (by omega) (by omega) (by omega) (by omega) (by omega)).mono ?_; rintro e w3 ⟨rfl, hb3⟩; have hS3 := hS2.below hb3; have d3 := hS3.c0)
      | (go_at_call 28; refine (sp_load hS3 g (x.at_ + 4 + i) hg (by omega)).mono ?_; rintro e w4 ⟨rfl, hS4, hB4⟩; have d4 := hS4.c0))
  go_wp2
  go_ret2
  refine ⟨by rw [Z3.out]; rfl, _, (Ticked.first c g).tick.mono (by omega), P, ⟨hW, bw, bs, v, f, hS4, HI.out⟩, ?_, Wider.refl _ _⟩
  exact ((Bt.of_below hb).trans ((bt_drewN w1 1).trans hB2)).trans ((Bt.of_below hb3).trans hB4)
set_option maxRecDepth 20000 in
set_option maxHeartbeats 400000 in
theorem set_ok (h : Gd w P s b W G q V c) {x : Ary} (hx : x ∈ q.xs) (g i y : Int) (hg : 0 ≤ g ∧ g < G) (hi : 0 ≤ i ∧ i < x.n) :
    Calls Try.prog 16 #[.pointer (some ⟨s, 0, none⟩), .int .i64 g, .int .i64 x.id, .int .i64 i, .int .i64 y] w fun e w' => e = .returned (.int .i64 0) ∧ ∃ c', Ticked c c' g 4 ∧ Turn w P s b W G q (updV V x.id i y) c' w' := by
  obtain ⟨hW, bw, bs, v, f, h, hI⟩ := h
  obtain ⟨hh, hk⟩ := hI.at_id hx
  obtain ⟨l1, l2, l3⟩ := hI.lies hx
  have hb0 := hI.base0
  have hb1 := hI.half0
  have hb2 := hI.big
  have hA := access_ok h hI.sorted (hI.short hW) g x.id i hh hk hg hi
  have Z1 : Hid (f x.at_ = x.at_ + 4) := (hI.words x hx).1
  have hfi := halves q
  have hfh := hI.half0
  have Z2 : Hid (updI f (x.at_ + 4 + i) y (x.at_ + 1) = tw q x) := (updI_else _ _ (by omega)).trans (hI.words x hx).2.1
  generalize pos q.xs x.id = k at *
  by_cases ht : tw q x = 0
  · have HI : Hid (Inv q W (updI f (x.at_ + 4 + i) y) (updV V x.id i y)) := set_inv hI hx hi.1 hi.2 (updI_at _ _ _) (fun r => absurd ht r) (fun a r _ => updI_else _ _ r)
    rw [ht] at Z2
    clear hI ht hfi
    go_enter Try.func16, Try.ntmps16
    go_wp2_with (go_at_call 27; refine hA.mono ?_; rintro e w1 ⟨p, hp, rfl, hb⟩; have h1 := h.below hb; have d0 := h1.c0)
    have hd := h1.drewn 1
    go_region_held3 (fun w' => w'.cell? ⟨s, 0, none⟩ = some (.pointer (some ⟨b, 0, none⟩))) (go_keep)
      (first
        | (go_at_call 30; refine (lead_ok hd g hp hk hg (by omega)).mono ?_; rintro e w2 ⟨rfl, hS2, hB2⟩; have d2 := hS2.c0; rw [Z1.out])
        | (go_at_call 29; refine (place_ok hS2 (x.at_ + 4) i (by omega) (by omega) (by omega) (by omega) (by omega) (by omega)).mono ?_; rintro e w3 ⟨rfl, hb3⟩; have hS3 := hS2.below hb3; have d3 := hS3.c0)
        | (go_at_call 35; refine (sp_store hS3 g (x.at_ + 4 + i) y hg (by omega)).mono ?_; rintro e w4 ⟨rfl, hS4, hB4⟩; have d4 := hS4.c0))
    go_wp2_with (go_at_call 38; refine (twin_ok hS4 g hp hk hg (by omega) hW).mono ?_; rintro e w5 ⟨rfl, hS5, hB5⟩; rw [Z2.out])
    go_ret
    exact ⟨rfl, _, (Ticked.first c g).tick.tick.mono (by omega), P, ⟨hW, bw, bs, v, _, hS5, HI.out⟩, (((Bt.of_below hb).trans ((bt_drewN w1 1).trans hB2)).trans ((Bt.of_below hb3).trans hB4)).trans hB5, Wider.refl _ _⟩
  · obtain ⟨u1, u2, u3, u4, u5⟩ := hI.tw_ne hx ht
    have HI : Hid (Inv q W (updI (updI f (x.at_ + 4 + i) y) (tw q x + i) y) (updV V x.id i y)) := set_inv hI hx hi.1 hi.2
      (by
        show (if _ then y else (if _ then y else _)) = y
        split
        · rfl
        · rw [if_pos rfl])
      (fun _ => updI_at _ _ _) (fun a r r2 => by rw [updI_else _ _ (r2 ht), updI_else _ _ r])
    have t1 : (tw q x != 0) = true := by simpa using ht
    have t2 : 0 ≤ tw q x ∧ tw q x ≤ 1000000 ∧ q.base ≤ tw q x + i ∧ tw q x + i < q.base + 2 * q.half := by omega
    clear hI ht u1 u2 u3 u4 u5 hfi
    generalize tw q x = T at *
    go_enter Try.func16, Try.ntmps16
    go_wp2_with (go_at_call 27; refine hA.mono ?_; rintro e w1 ⟨p, hp, rfl, hb⟩; have h1 := h.below hb; have d0 := h1.c0)
    have hd := h1.drewn 1
    go_region_held3 (fun w' => w'.cell? ⟨s, 0, none⟩ = some (.pointer (some ⟨b, 0, none⟩))) (go_keep)
      (first
        | (go_at_call 30; refine (lead_ok hd g hp hk hg (by omega)).mono ?_; rintro e w2 ⟨rfl, hS2, hB2⟩; have d2 := hS2.c0; rw [Z1.out])
        | (go_at_call 29; refine (place_ok hS2 (x.at_ + 4) i (by omega) (by omega) (by omega) (by omega) (by omega) (by omega)).mono ?_; rintro e w3 ⟨rfl, hb3⟩; have hS3 := hS2.below hb3; have d3 := hS3.c0)
        | (go_at_call 35; refine (sp_store hS3 g (x.at_ + 4 + i) y hg (by omega)).mono ?_; rintro e w4 ⟨rfl, hS4, hB4⟩; have d4 := hS4.c0))
    go_wp2_with (go_at_call 38; refine (twin_ok hS4 g hp hk hg (by omega) hW).mono ?_; rintro e w5 ⟨rfl, hS5, hB5⟩; rw [Z2.out]; have d5 := hS5.c0)
    have hd5 := hS5.drewn 1
    go_region_held3 (fun w' => w'.cell? ⟨s, 0, none⟩ = some (.pointer (some ⟨b, 0, none⟩))) (go_keep)
      (first
        | (go_at_call 29; refine (place_ok hd5 T i (by omega) (by omega) (by omega) (by omega) (by omega) (by omega)).mono ?_; rintro e w6 ⟨rfl, hb6⟩; have hS6 := hd5.below hb6; have d6 := hS6.c0)
        | (go_at_call 35; refine (sp_store hS6 g (T + i) y hg (by omega)).mono ?_; rintro e w7 ⟨rfl, hS7, hB7⟩; have d7 := hS7.c0))
    go_wp2
    go_ret
    refine ⟨rfl, _, (Ticked.first c g).tick.tick.tick.mono (by omega), P, ⟨hW, bw, bs, v, _, hS7, HI.out⟩, ?_, Wider.refl _ _⟩
    exact ((((Bt.of_below hb).trans ((bt_drewN w1 1).trans hB2)).trans ((Bt.of_below hb3).trans hB4)).trans hB5).trans (((bt_drewN w5 1).trans (Bt.of_below hb6)).trans hB7)
/-- No such agent, or no such array. -/
theorem get_no (h : Gd w P s b W G q V c) (g t i : Int) (hn : ¬ ((0 ≤ g ∧ g < G) ∧ has q.xs t = true)) :
    Calls Try.prog 13 #[.pointer (some ⟨s, 0, none⟩), .int .i64 g, .int .i64 t, .int .i64 i] w fun e w' => e = .returned (.tuple #[.int .i64 0, .int .i64 704]) ∧ Below w.heap.size w w' := by
  obtain ⟨hW, bw, bs, v, f, h, hI⟩ := h
  have hA : Calls Try.prog 27 #[.pointer (some ⟨s, 0, none⟩), .int .i64 g, .int .i64 t, .int .i64 i] w fun e w' => e = .returned (.tuple #[.pointer none, .int .i64 704]) ∧ Below w.heap.size w w' := by
    cases hh : has q.xs t with
    | false => exact access_none h hI.sorted (hI.short hW) g t i hh
    | true => exact access_agent h hI.sorted (hI.short hW) g t i hh (fun r => hn ⟨r, hh⟩)
  clear hn hI
  go_enter Try.func13, Try.ntmps13
  go_wp2_with (go_at_call 27; refine hA.mono ?_; rintro e w1 ⟨rfl, hb⟩)
  go_ret2
  exact ⟨rfl, hb⟩
theorem get_bounds (h : Gd w P s b W G q V c) {x : Ary} (hx : x ∈ q.xs) (g i : Int) (hg : 0 ≤ g ∧ g < G) (hi : ¬ (0 ≤ i ∧ i < x.n)) :
    Calls Try.prog 13 #[.pointer (some ⟨s, 0, none⟩), .int .i64 g, .int .i64 x.id, .int .i64 i] w fun e w' => e = .returned (.tuple #[.int .i64 0, .int .i64 703]) ∧ Below w.heap.size w w' := by
  obtain ⟨hW, bw, bs, v, f, h, hI⟩ := h
  obtain ⟨hh, hk⟩ := hI.at_id hx
  have hA := access_bounds h hI.sorted (hI.short hW) g x.id i hh hk hg hi
  clear hI hi hk hh
  go_enter Try.func13, Try.ntmps13
  go_wp2_with (go_at_call 27; refine hA.mono ?_; rintro e w1 ⟨rfl, hb⟩)
  go_ret2
  exact ⟨rfl, hb⟩
theorem set_no (h : Gd w P s b W G q V c) (g t i y : Int) (hn : ¬ ((0 ≤ g ∧ g < G) ∧ has q.xs t = true)) :
    Calls Try.prog 16 #[.pointer (some ⟨s, 0, none⟩), .int .i64 g, .int .i64 t, .int .i64 i, .int .i64 y] w fun e w' => e = .returned (.int .i64 704) ∧ Below w.heap.size w w' := by
  obtain ⟨hW, bw, bs, v, f, h, hI⟩ := h
  have hA : Calls Try.prog 27 #[.pointer (some ⟨s, 0, none⟩), .int .i64 g, .int .i64 t, .int .i64 i] w fun e w' => e = .returned (.tuple #[.pointer none, .int .i64 704]) ∧ Below w.heap.size w w' := by
    cases hh : has q.xs t with
    | false => exact access_none h hI.sorted (hI.short hW) g t i hh
    | true => exact access_agent h hI.sorted (hI.short hW) g t i hh (fun r => hn ⟨r, hh⟩)
  clear hn hI
  go_enter Try.func16, Try.ntmps16
  go_wp2_with (go_at_call 27; refine hA.mono ?_; rintro e w1 ⟨rfl, hb⟩)
  go_ret
  exact ⟨rfl, hb⟩
theorem set_bounds (h : Gd w P s b W G q V c) {x : Ary} (hx : x ∈ q.xs) (g i y : Int) (hg : 0 ≤ g ∧ g < G) (hi : ¬ (0 ≤ i ∧ i < x.n)) :
    Calls Try.prog 16 #[.pointer (some ⟨s, 0, none⟩), .int .i64 g, .int .i64 x.id, .int .i64 i, .int .i64 y] w fun e w' => e = .returned (.int .i64 703) ∧ Below w.heap.size w w' := by
  obtain ⟨hW, bw, bs, v, f, h, hI⟩ := h
  obtain ⟨hh, hk⟩ := hI.at_id hx
  have hA := access_bounds h hI.sorted (hI.short hW) g x.id i hh hk hg hi
  clear hI hi hk hh
  go_enter Try.func16, Try.ntmps16
  go_wp2_with (go_at_call 27; refine hA.mono ?_; rintro e w1 ⟨rfl, hb⟩)
  go_ret
  exact ⟨rfl, hb⟩
theorem glen_ok (h : Gd w P s b W G q V c) {x : Ary} (hx : x ∈ q.xs) :
    Calls Try.prog 11 #[.pointer (some ⟨s, 0, none⟩), .int .i64 x.id] w fun e w' => e = .returned (.tuple #[.int .i64 x.n, .int .i64 0]) ∧ Below w.heap.size w w' := by
  obtain ⟨hW, bw, bs, v, f, h, hI⟩ := h
  obtain ⟨hh, hk⟩ := hI.at_id hx
  exact len_ok h hI.sorted (hI.short hW) x.id hh hk
theorem glen_no (h : Gd w P s b W G q V c) (t : Int) (hh : has q.xs t = false) :
    Calls Try.prog 11 #[.pointer (some ⟨s, 0, none⟩), .int .i64 t] w fun e w' => e = .returned (.tuple #[.int .i64 0, .int .i64 704]) ∧ Below w.heap.size w w' := by
  obtain ⟨hW, bw, bs, v, f, h, hI⟩ := h
  exact len_no h hI.sorted (hI.short hW) t hh
theorem groom (h : Gd w P s b W G q V c) : Calls Try.prog 9 #[.pointer (some ⟨s, 0, none⟩)] w fun e w' => e = .returned (.int .i64 (q.half - q.taken)) ∧ Below w.heap.size w w' := by
  obtain ⟨hW, bw, bs, v, f, h, hI⟩ := h
  have h1 := hI.top
  have h2 := hI.sums
  have h3 := hI.half0
  have h4 := hI.big
  have h5 := hI.base0
  exact room_any h (by omega) (by omega)
end
end Go.Proofs.Ytjfjgfkfbbigbaa
