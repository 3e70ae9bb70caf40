/-
  The two hash functions and frames as Lean functions on lists of integers, written after chapter 1 of the document. No program is imported here but for the model's words on integers.
-/
import Derived.Test.YtkcbbgmilaafeaaDoorMem
import Derived.Test.YtkcbbgmilaafeaaDoorRow
import Derived.Test.YtkcbbgmilaafeaaDoorHTypes
namespace Go.Proofs.YtkcbbgmilaafeaaDoor
open Go.RowKit

def rotrI (x n : Int) : Int := bits .or .u32 (x / 2 ^ n.toNat) (x * 2 ^ (32 - n).toNat % 4294967296)
def rotlI (x n : Int) : Int := bits .or .u32 (x * 2 ^ n.toNat % 4294967296) (x / 2 ^ (32 - n).toNat)
def xorI (a b : Int) : Int := bits .xor .u32 a b
def andI (a b : Int) : Int := bits .and .u32 a b
def notI (a : Int) : Int := bits .xor .u32 IntKind.u32.max a
def wordI (a b c d : Int) : Int :=
  bits .or .u32 (bits .or .u32 (bits .or .u32 (a % 4294967296 * 16777216 % 4294967296) (b % 4294967296 * 65536 % 4294967296)) (c % 4294967296 * 256 % 4294967296)) (d % 4294967296)
/-- The word number t of a block. -/
def wordAtI (xs : List Int) (t : Nat) : Int := wordI (xs.getD (4 * t) 0) (xs.getD (4 * t + 1) 0) (xs.getD (4 * t + 2) 0) (xs.getD (4 * t + 3) 0)
/-- The four bytes of a word. -/
def be4 (x : Int) : List Int := [x / 16777216 % 256, x / 65536 % 256, x / 256 % 256, x % 256]
def bytesI (ws : List Int) : List Int := (ws.map be4).flatten

/-- A schedule: the first t of its words; sixteen of the block, then each from those before it. -/
def sch (f : Nat → Int) (next : List Int → Int) : Nat → List Int
  | 0 => []
  | t + 1 => let l := sch f next t
    l ++ [if t < 16 then f t else next l]
theorem sch_length (f : Nat → Int) (next : List Int → Int) (t : Nat) : (sch f next t).length = t := by
  induction t with
  | zero => rfl
  | succ t ih => simp [sch, ih]
theorem sch_low (f : Nat → Int) (next : List Int → Int) (t : Nat) (h : t < 16) : sch f next (t + 1) = sch f next t ++ [f t] := by simp [sch, h]
theorem sch_high (f : Nat → Int) (next : List Int → Int) (t : Nat) (h : 16 ≤ t) : sch f next (t + 1) = sch f next t ++ [next (sch f next t)] := by
  simp [sch]; omega

def s0I (x : Int) : Int := xorI (xorI (rotrI x 7) (rotrI x 18)) (x / 8)
def s1I (x : Int) : Int := xorI (xorI (rotrI x 17) (rotrI x 19)) (x / 1024)
def S0I (x : Int) : Int := xorI (xorI (rotrI x 2) (rotrI x 13)) (rotrI x 22)
def S1I (x : Int) : Int := xorI (xorI (rotrI x 6) (rotrI x 11)) (rotrI x 25)
def addI (a b : Int) : Int := (a + b) % 4294967296
def next256 (l : List Int) : Int :=
  addI (addI (addI (s1I (l.getD (l.length - 2) 0)) (l.getD (l.length - 7) 0)) (s0I (l.getD (l.length - 15) 0))) (l.getD (l.length - 16) 0)
def next1 (l : List Int) : Int :=
  rotlI (xorI (xorI (xorI (l.getD (l.length - 3) 0) (l.getD (l.length - 8) 0)) (l.getD (l.length - 14) 0)) (l.getD (l.length - 16) 0)) 1

def kay256 : List Int := [1116352408, 1899447441, 3049323471, 3921009573, 961987163, 1508970993, 2453635748, 2870763221, 3624381080, 310598401, 607225278, 1426881987, 1925078388, 2162078206, 2614888103, 3248222580, 3835390401, 4022224774, 264347078, 604807628, 770255983, 1249150122, 1555081692, 1996064986, 2554220882, 2821834349, 2952996808, 3210313671, 3336571891, 3584528711, 113926993, 338241895, 666307205, 773529912, 1294757372, 1396182291, 1695183700, 1986661051, 2177026350, 2456956037, 2730485921, 2820302411, 3259730800, 3345764771, 3516065817, 3600352804, 4094571909, 275423344, 430227734, 506948616, 659060556, 883997877, 958139571, 1322822218, 1537002063, 1747873779, 1955562222, 2024104815, 2227730452, 2361852424, 2428436474, 2756734187, 3204031479, 3329325298]
def t1I (e f g h k w : Int) : Int := addI (addI (addI (addI h (S1I e)) (xorI (andI e f) (andI (notI e) g))) k) w
def t2I (a b c : Int) : Int := addI (S0I a) (xorI (xorI (andI a b) (andI a c)) (andI b c))
def round256 (k w : Int) : List Int → List Int
  | [a, b, c, d, e, f, g, h] => [addI (t1I e f g h k w) (t2I a b c), a, b, c, addI d (t1I e f g h k w), e, f, g]
  | l => l
def rounds256 (K W : List Int) (s : List Int) : Nat → List Int
  | 0 => s
  | t + 1 => round256 (K.getD t 0) (W.getD t 0) (rounds256 K W s t)
def comp256 (W s : List Int) : List Int := List.zipWith addI s (rounds256 kay256 W s 64)
def step256 (s xs : List Int) : List Int := comp256 (sch (wordAtI xs) next256 64) s

def f1I (t : Nat) (b c d : Int) : Int :=
  if t < 20 then xorI (andI b c) (andI (notI b) d) else if t < 40 then xorI (xorI b c) d else if t < 60 then xorI (xorI (andI b c) (andI b d)) (andI c d) else xorI (xorI b c) d
def k1I (t : Nat) : Int := if t < 20 then 1518500249 else if t < 40 then 1859775393 else if t < 60 then 2400959708 else 3395469782
def round1I (t : Nat) (w : Int) : List Int → List Int
  | [a, b, c, d, e] => [addI (addI (addI (addI (rotlI a 5) (f1I t b c d)) e) (k1I t)) w, a, rotlI b 30, c, d]
  | l => l
def rounds1 (W : List Int) (s : List Int) : Nat → List Int
  | 0 => s
  | t + 1 => round1I t (W.getD t 0) (rounds1 W s t)
def comp1 (W s : List Int) : List Int := List.zipWith addI s (rounds1 W s 80)
def step1 (s xs : List Int) : List Int := comp1 (sch (wordAtI xs) next1 80) s

/-- The state behind k blocks of xs. -/
def run (step : List Int → List Int → List Int) (s : List Int) (xs : List Int) : Nat → List Int
  | 0 => s
  | k + 1 => step (run step s xs k) ((xs.drop (64 * k)).take 64)

/-- What follows a message of n bytes. -/
def tail8 (n : Nat) : List Int := be4 ((n : Int) * 8 / 4294967296 % 4294967296) ++ be4 ((n : Int) * 8 % 4294967296)
def tailI (n : Nat) : List Int := 128 :: (List.replicate ((119 - n % 64) % 64) 0 ++ tail8 n)
def padded (xs : List Int) : List Int := xs ++ tailI xs.length

def init256 : List Int := [1779033703, 3144134277, 1013904242, 2773480762, 1359893119, 2600822924, 528734635, 1541459225]
def init1 : List Int := [1732584193, 4023233417, 2562383102, 271733878, 3285377520]
def state256 (xs : List Int) : List Int := run step256 init256 (padded xs) ((padded xs).length / 64)
def state1 (xs : List Int) : List Int := run step1 init1 (padded xs) ((padded xs).length / 64)
def sha256 (xs : List Int) : List Int := bytesI (state256 xs)
def sha1 (xs : List Int) : List Int := bytesI (state1 xs)

theorem run_length {step : List Int → List Int → List Int} {n : Nat} (hstep : ∀ s xs, s.length = n → (step s xs).length = n) (s xs : List Int) (hs : s.length = n) (k : Nat) : (run step s xs k).length = n := by
  induction k with
  | zero => exact hs
  | succ k ih => exact hstep _ _ ih
theorem round256_length (k w : Int) (s : List Int) (h : s.length = 8) : (round256 k w s).length = 8 := by
  match s, h with
  | [_, _, _, _, _, _, _, _], _ => rfl
theorem rounds256_length (K W s : List Int) (h : s.length = 8) (t : Nat) : (rounds256 K W s t).length = 8 := by
  induction t with
  | zero => exact h
  | succ t ih => exact round256_length _ _ _ ih
theorem step256_length (s xs : List Int) (h : s.length = 8) : (step256 s xs).length = 8 := by
  simp [step256, comp256, rounds256_length _ _ _ h, h]
theorem round1I_length (t : Nat) (w : Int) (s : List Int) (h : s.length = 5) : (round1I t w s).length = 5 := by
  match s, h with
  | [_, _, _, _, _], _ => rfl
theorem rounds1_length (W s : List Int) (h : s.length = 5) (t : Nat) : (rounds1 W s t).length = 5 := by
  induction t with
  | zero => exact h
  | succ t ih => exact round1I_length _ _ _ ih
theorem step1_length (s xs : List Int) (h : s.length = 5) : (step1 s xs).length = 5 := by
  simp [step1, comp1, rounds1_length _ _ h, h]
theorem state256_length (xs : List Int) : (state256 xs).length = 8 := run_length step256_length _ _ rfl _
theorem state1_length (xs : List Int) : (state1 xs).length = 5 := run_length step1_length _ _ rfl _
theorem bytesI_length (ws : List Int) : (bytesI ws).length = 4 * ws.length := by
  induction ws with
  | nil => rfl
  | cons x l ih => simp [bytesI, be4] at ih ⊢; omega
theorem sha256_length (xs : List Int) : (sha256 xs).length = 32 := by simp [sha256, bytesI_length, state256_length]
theorem sha1_length (xs : List Int) : (sha1 xs).length = 20 := by simp [sha1, bytesI_length, state1_length]

/-- The blocks of a message and then those of its end: as the blocks of both. -/
theorem run_append (step : List Int → List Int → List Int) (s xs ys : List Int) (m : Nat) (hm : 64 * m ≤ xs.length) (k : Nat) :
    run step (run step s xs m) (xs.drop (64 * m) ++ ys) k = run step s (xs ++ ys) (m + k) := by
  induction k with
  | zero =>
    show run step s xs m = run step s (xs ++ ys) m
    have : ∀ j, j ≤ m → run step s xs j = run step s (xs ++ ys) j := by
      intro j hj
      induction j with
      | zero => rfl
      | succ j ih =>
        simp only [run]
        rw [ih (by omega), List.drop_append_of_le_length (by omega), List.take_append_of_le_length (by simp; omega)]
    exact this m (Nat.le_refl _)
  | succ k ih =>
    show step (run step (run step s xs m) (xs.drop (64 * m) ++ ys) k) (((xs.drop (64 * m) ++ ys).drop (64 * k)).take 64) = step (run step s (xs ++ ys) (m + k)) (((xs ++ ys).drop (64 * (m + k))).take 64)
    rw [ih, ← List.drop_append_of_le_length hm, List.drop_drop, Nat.mul_add]
theorem tailI_length (n : Nat) : (tailI n).length = 9 + (119 - n % 64) % 64 := by simp [tailI, tail8, be4]; omega
theorem padded_length (xs : List Int) : (padded xs).length = xs.length + 9 + (119 - xs.length % 64) % 64 := by simp [padded, tailI_length]; omega
theorem padded_blocks (xs : List Int) : 64 * ((padded xs).length / 64) = (padded xs).length := by rw [padded_length]; omega

/-- A frame. -/
def frameI (tag : Int) (fs : List (List Int)) : List Int := (tag % 256) :: (fs.map fun f => be4 ((f.length : Int) % 4294967296) ++ f).flatten
end Go.Proofs.YtkcbbgmilaafeaaDoor
