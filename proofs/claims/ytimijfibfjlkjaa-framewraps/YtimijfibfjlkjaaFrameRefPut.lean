/-
  The chapter's own functions: put, Wrap, first and Scan.
-/
import Derived.Test.YtimijfibfjlkjaaByteGrow
import Derived.Test.YtimijfibfjlkjaaFrameMath
import Derived.Test.YtimijfibfjlkjaaSumKnown
namespace Go.Proofs.Ytimijfibfjlkjaa.frame
open Go.ChangeShapes Go.WideShapes Go.ChangeAt Go.RowKit Go.Deep
open Go.Proofs.Ytimijfibfjlkjaa.bytes
open Go.Proofs.Ytimijfibfjlkjaa.code (putB putB_len putB_append valB valB_put valB_lt)
open Go.Proofs.Ytimijfibfjlkjaa.sum (sumB sum_u32 ref1)
set_option linter.unusedVariables false
set_option maxRecDepth 100000
set_option linter.unusedSimpArgs false

theorem pow_eight (k : Nat) : 2 ^ (8 * k) = 256 ^ k := by rw [Nat.pow_mul]
theorem byte_at (X k : Nat) : ((X : Int) / 2 ^ (8 * k) % 256) = ((X / 256 ^ k % 256 : Nat) : Int) := by
  have e : ((2 : Int) ^ (8 * k)) = ((256 ^ k : Nat) : Int) := by rw [← pow_eight]; simp
  rw [e]; simp

set_option maxHeartbeats 4000000 in
theorem refPut_any (B size X : Nat) (hX : X < 4294967296) (hs : size ≤ 4) (v : Value) (l : List UInt8) (w : World) (ho : Bs B w v l) (hB : B ≤ w.heap.size) (hl : l.length ≤ 1000000000) :
    Calls Try.prog 22 #[v, .int .u32 X, .int .i64 size] w fun e w' => ∃ v', e = .returned v' ∧ Bs B w' v' (l ++ putB X size) ∧ Gr w v w' v' := by
  obtain ⟨i0, hi, hz0, hz1, hz2⟩ := info_parts info_u8
  have H : Aside (Bs B w v l) := ho
  clear ho
  go_enter Try.func22, Try.ntmps22
  go_wp2_with fail
  go_loopg [0, 7] size (fun g1 vv vi wr => ∃ (k : Nat) (j : Int), vi = .int .i64 j ∧ Aside (j = (k : Int) - 1) ∧ k ≤ size ∧ k ≤ g1 ∧ Aside (∃ done, done ++ putB X k = l ++ putB X size ∧ Bs B wr vv done ∧ Gr w v wr vv))
  case atStart => exact ⟨size, _, rfl, by go_num, Nat.le_refl _, Nat.le_refl _, l, rfl, H.out, Gr.refl _ _⟩
  case round =>
    obtain ⟨k, j, rfl, hj, hk, hg1, SK⟩ := hrel
    rcases k with _ | k
    · have hjz : ¬ 0 ≤ j := by have := hj.out; omega
      have S2 : Aside (Bs B wr u0 (l ++ putB X size) ∧ Gr w v wr u0) := by
        obtain ⟨done, hd, h1, h2⟩ := SK.out
        rw [putB, List.append_nil] at hd
        rw [← hd]; exact ⟨h1, h2⟩
      clear SK hj
      go_wp2
      go_ret
      exact ⟨_, rfl, S2.out.1, S2.out.2⟩
    · have hjz : 0 ≤ j := by have := hj.out; omega
      have hj2 : j = (k : Int) := by have := hj.out; omega
      subst hj2
      obtain ⟨done, hd, hown, hgr⟩ := SK.out
      have hlen : done.length ≤ l.length + 8 := by
        have := congrArg List.length hd
        simp only [List.length_append, putB_len] at this
        omega
      have HBS : Aside (B ≤ wr.heap.size) := Nat.le_trans hB hgr.grown.size
      obtain ⟨n, hn⟩ : ∃ n, done.length = n := ⟨_, rfl⟩
      have HN : Hid (done.length = n) := hn
      have hown2 : wr.ownsRow B 5 1 u0 n (Lib.byteCells done) := by rw [← hn]; exact hown
      rw [hn] at hlen
      have HG : Aside (Gr w v wr u0) := hgr
      have HD : Hid (done ++ putB X (k + 1) = l ++ putB X size) := hd
      clear SK hj hd hown hgr hn
      go_wp2_with (at_builtin; refine wpList_append_lies _ rfl _ _ 22 rfl B 5 i0 _ 1 1 Try.underlying22 hi hz0 hz1 hz2 rfl (by decide) _ n _ rfl (hown2.alloc _) ⟨wr.heap.size, 0, none⟩ 1 1 [_] rfl rfl (cell_one_new _ _ _) (by intro u hu; simp at hu; subst hu; rfl) (by omega) (by unfold maxLen; omega) (by omega) (by have := HBS.out; simp; omega) (wr.heap.size + 1) (by simp) ?_; intro g c3 w3 hown3 hgrow hat hglt)
      have S3 : Aside (Bs B w3 (.slice (some ⟨g, 0, none⟩) (n + 1) c3) (done ++ [UInt8.ofNat (X / 256 ^ k)]) ∧ Gr w v w3 (.slice (some ⟨g, 0, none⟩) (n + 1) c3)) := by
        obtain ⟨p1, p2⟩ := Bs.push HN.out (x := X / 256 ^ k) (byte_at X k) hown3 hgrow hat
        exact ⟨p1, HG.out.trans p2⟩
      clear hown3 hgrow hat hglt hown2
      go_wp2
      go_roundg k
      case measure => omega
      case rel =>
        refine ⟨k, _, rfl, by go_num, by omega, Nat.le_refl _, _, ?_, S3.out.1, S3.out.2⟩
        rw [List.append_assoc, ← HD.out]; simp [putB]

end Go.Proofs.Ytimijfibfjlkjaa.frame
