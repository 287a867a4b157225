/- ChainS: the search for the shortest chain of languages, as the program and the specification do it. -/
import Derived.Test.YticeekkfdkfcgaaCrew
namespace Go.Proofs.Yticeekkfdkfcgaa

/-- one more language: not reached yet and joined with the last one -/
def stepC (adj : Nat → Nat → Bool) (chain : List Nat) (last : Nat) (s : Nat × List (List Nat)) (next : Nat) : Nat × List (List Nat) :=
  bif (s.1 / 2 ^ next % 2 == 1) || !adj last next then s else (s.1 ||| 2 ^ next, s.2 ++ [chain ++ [next]])
def roundC (n : Nat) (adj : Nat → Nat → Bool) (chain : List Nat) (last r : Nat) (q : List (List Nat)) : Nat × List (List Nat) :=
  (List.range n).foldl (stepC adj chain last) (r, q)
def searchC (n : Nat) (adj : Nat → Nat → Bool) (to : Nat) : Nat → Nat × List (List Nat) → Option (List Nat)
  | 0, _ => none
  | f + 1, s => match s.2 with
    | [] => none
    | chain :: q => bif chain.getLastD 0 == to then some chain else searchC n adj to f (roundC n adj chain (chain.getLastD 0) s.1 q)
def chainD (n : Nat) (adj : Nat → Nat → Bool) (fr to : Nat) : Option (List Nat) := searchC n adj to 6 (2 ^ fr, [[fr]])

/-- the digit of a language: one more than the steps, 0 for none -/
def dig (out a : Nat) : Nat := Nat.mod (Nat.div out (Nat.pow 16 a)) 16
def farStep (adj : Nat → Nat → Bool) (round a : Nat) (out b : Nat) : Nat :=
  cond (Nat.beq (dig out a) (Nat.succ round)) (cond (Nat.beq (dig out b) 0) (cond (adj a b) (Nat.add out (Nat.mul (Nat.add round 2) (Nat.pow 16 b))) out) out) out
def farRow (n : Nat) (adj : Nat → Nat → Bool) (round : Nat) (out a : Nat) : Nat := (List.range n).foldl (farStep adj round a) out
def farRound (n : Nat) (adj : Nat → Nat → Bool) (out round : Nat) : Nat := (List.range n).foldl (farRow n adj round) out
def farD (n : Nat) (adj : Nat → Nat → Bool) (fr : Nat) : Nat := (List.range n).foldl (farRound n adj) (Nat.pow 16 fr)
def nextC (n : Nat) (adj : Nat → Nat → Bool) (back at_ : Nat) : Option Nat :=
  (List.range n).find? fun m => dig back m + 1 == dig back at_ && adj at_ m
def walkC (n : Nat) (adj : Nat → Nat → Bool) (back to : Nat) : Nat → Nat → List Nat → Option (List Nat)
  | 0, _, _ => none
  | f + 1, at_, out => bif at_ == to then some out else
    match nextC n adj back at_ with
    | none => none
    | some m => walkC n adj back to f m (out ++ [m])
def rChainD (n : Nat) (adj : Nat → Nat → Bool) (fr to : Nat) : Option (List Nat) :=
  bif dig (farD n adj to) fr == 0 then none else walkC n adj (farD n adj to) to 6 fr [fr]
def alongC (adj : Nat → Nat → Bool) : List Nat → Bool
  | [] => true
  | [_] => true
  | a :: b :: l => adj a b && alongC adj (b :: l)
/-- what is true of a chain -/
def okC (n : Nat) (adj : Nat → Nat → Bool) (fr to : Nat) : Bool :=
  chainD n adj fr to == rChainD n adj fr to && (match chainD n adj fr to with
    | none => dig (farD n adj fr) to == 0 && dig (farD n adj to) fr == 0
    | some l => Nat.ble 2 l.length && Nat.ble l.length n && l.head? == some fr && l.getLast? == some to && l.all (fun x => Nat.blt x n) && alongC adj l && dig (farD n adj fr) to == l.length && dig (farD n adj to) fr == l.length)
def okF (n : Nat) (adj : Nat → Nat → Bool) (fr f : Nat) : Bool :=
  dig f fr == 1 && (List.range n).all fun a => (List.range n).all fun b => !adj a b || dig f a == 0 || (Nat.ble 1 (dig f b) && Nat.ble (dig f b) (dig f a + 1))
def pairNo (a b : Nat) : Nat := cond (Nat.ble a b) (Nat.add (Nat.div (Nat.mul b (Nat.sub b 1)) 2) a) (Nat.add (Nat.div (Nat.mul a (Nat.sub a 1)) 2) b)
def adjG (g a b : Nat) : Bool := cond (Nat.beq a b) false (Nat.testBit g (pairNo a b))
def okG (n g : Nat) : Bool := (List.range n).all fun a => okF n (adjG g) a (farD n (adjG g) a) && (List.range n).all fun b => a == b || okC n (adjG g) a b
def okAll (n lo m : Nat) : Bool := (List.range m).all fun k => okG n (lo + k)

end Go.Proofs.Yticeekkfdkfcgaa
