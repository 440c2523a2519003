/- Monitors: awake. -/
import Derived.Test.YtdkbdmlodngneaaMNNew
namespace Go.Proofs.Ytdkbdmlodngneaa
open Go.RowKit

def an1 : Mt := (mt0 2).taken 0 7 1
def an2 : Mt := { an1 with st := fun i => if i = 1 then 1 else an1.st i }
def an4 : Mt := an2.waits 0 7 1
def an5 : Mt := an4.taken 1 7 1
theorem ok7 : okI 7 := ⟨by omega, by omega⟩
set_option maxRecDepth 20000 in
set_option maxHeartbeats 4000000 in
theorem awake20 (w : World) : Calls Try.prog 5 #[] w fun e w' => e = .returned (.bool true) ∧ Below w.heap.size w w' := by
  have hN : Calls Try.prog 6 #[.int .i64 2] w _ := nnew_ok 2 (by omega) (by omega) w
  have E1 : Hid (∀ s u, Mn w.heap.size u s (mt0 2) 0 → Calls Try.prog 7 #[.pointer (some ⟨s, 0, none⟩), .int .i64 0, .int .i64 7] u (MnP w.heap.size u s an1 1 (.tuple #[.bool true, .int .i64 0]))) := fun s u h => nenter_free h (t := 0) (by decide) (by decide) ok7 rfl (by omega)
  have E2 : Hid (∀ s u, Mn w.heap.size u s an1 1 → Calls Try.prog 7 #[.pointer (some ⟨s, 0, none⟩), .int .i64 1, .int .i64 7] u (MnP w.heap.size u s an2 1 (.tuple #[.bool false, .int .i64 0]))) := fun s u h => nenter_else h (t := 1) (u := 0) (d := 1) (by decide) (by decide) ok7 rfl (by decide)
  have E3 : Hid (∀ s u, Mn w.heap.size u s an2 1 → Calls Try.prog 11 #[.pointer (some ⟨s, 0, none⟩), .int .i64 1, .int .i64 7] u (MnP w.heap.size u s an2 1 (.int .i64 2001))) := fun s u h => nleave_no h (t := 1) (by decide) (by decide) ok7 (by decide)
  have E4 : Hid (∀ s u, Mn w.heap.size u s an2 1 → Calls Try.prog 9 #[.pointer (some ⟨s, 0, none⟩), .int .i64 0, .int .i64 7] u (MnP w.heap.size u s an4 3 (.int .i64 0))) := fun s u h => nwait_ok h (t := 0) (d := 1) (by decide) (by decide) ok7 rfl (by omega)
  have E5 : Hid (∀ s u, Mn w.heap.size u s an4 3 → Calls Try.prog 7 #[.pointer (some ⟨s, 0, none⟩), .int .i64 1, .int .i64 7] u (MnP w.heap.size u s an5 4 (.tuple #[.bool true, .int .i64 0]))) := fun s u h => nenter_free h (t := 1) (by decide) (by decide) ok7 rfl (by omega)
  have E6 : Hid (∀ s u, Mn w.heap.size u s an5 4 → Calls Try.prog 10 #[.pointer (some ⟨s, 0, none⟩), .int .i64 1, .int .i64 7, .bool false] u (MnP w.heap.size u s (an5.noted 0) 4 (.tuple #[.int .i64 1, .int .i64 0]))) := fun s u h => nnot_ok h (t := 1) (d := 1) (by decide) (by decide) ok7 rfl (fun x hx => by
    obtain rfl : x = (0, 7) := by simpa [an5, Mt.taken, an4, Mt.waits, an2, an1, mt0] using hx
    exact ⟨0, rfl, by decide⟩) false (F := 1) rfl
  have E7 : Hid (∀ s u, Mn w.heap.size u s (an5.noted 0) 4 → Calls Try.prog 12 #[.pointer (some ⟨s, 0, none⟩), .int .i64 7] u (MnP w.heap.size u s (an5.noted 0) 4 (.tuple #[.int .i64 1, .int .i64 1]))) := fun s u h => nowner_ok h ok7
  have E8 : Hid (∀ s u, Mn w.heap.size u s (an5.noted 0) 4 → Calls Try.prog 13 #[.pointer (some ⟨s, 0, none⟩), .int .i64 0] u fun e u' => e = .returned (.int .i64 1) ∧ u' = u) := fun s u h => nstate_ok h (t := 0) (by decide)
  go_enter Try.func5, Try.ntmps5
  go_wp2_with (first
    | (go_at_call 8; refine (num_any _ _).mono ?_; rintro e w9 ⟨rfl, hw9⟩; replace hw9 := hw9.symm; subst hw9)
    | (go_at_call 6; refine hN.mono ?_; rintro e w0 ⟨s, rfl, hM, hb⟩; have HM0 : Hid _ := hM; have HB0 : Hid _ := hb; clear hM hb hN)
    | (go_at_call 7; first
        | (refine (E5.out _ _ HM4.out).mono ?_; rintro e w5 ⟨rfl, hM, hb⟩; have HM5 : Hid _ := hM; have HB5 : Hid _ := HB4.out.trans hb; clear hM hb)
        | (refine (E2.out _ _ HM1.out).mono ?_; rintro e w2 ⟨rfl, hM, hb⟩; have HM2 : Hid _ := hM; have HB2 : Hid _ := HB1.out.trans hb; clear hM hb)
        | (refine (E1.out _ _ HM0.out).mono ?_; rintro e w1 ⟨rfl, hM, hb⟩; have HM1 : Hid _ := hM; have HB1 : Hid _ := HB0.out.trans hb; clear hM hb))
    | (go_at_call 11; refine (E3.out _ _ HM2.out).mono ?_; rintro e w3 ⟨rfl, hM, hb⟩; have HM3 : Hid _ := hM; have HB3 : Hid _ := HB2.out.trans hb; clear hM hb)
    | (go_at_call 9; refine (E4.out _ _ HM3.out).mono ?_; rintro e w4 ⟨rfl, hM, hb⟩; have HM4 : Hid _ := hM; have HB4 : Hid _ := HB3.out.trans hb; clear hM hb)
    | (go_at_call 10; refine (E6.out _ _ HM5.out).mono ?_; rintro e w6 ⟨rfl, hM, hb⟩; have HM6 : Hid _ := hM; have HB6 : Hid _ := HB5.out.trans hb; clear hM hb)
    | (go_at_call 12; refine (E7.out _ _ HM6.out).mono ?_; rintro e w7 ⟨rfl, hM, hb⟩; have HM7 : Hid _ := hM; have HB7 : Hid _ := HB6.out.trans hb; clear hM hb)
    | (go_at_call 13; refine (E8.out _ _ HM7.out).mono ?_; rintro e w9 ⟨rfl, hw9⟩; replace hw9 := hw9.symm; subst hw9))
  go_ret
  exact ⟨rfl, HB7.out⟩
end Go.Proofs.Ytdkbdmlodngneaa
